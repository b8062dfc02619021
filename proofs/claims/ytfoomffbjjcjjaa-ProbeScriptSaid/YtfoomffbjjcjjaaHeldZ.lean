/-
  A drawn region whose last operation (a store) waits for all others, and may write what they read: loads are taken first, what alone may come up is carried out, the last one ends it. General: no program is named here.
-/
import Derived.Test.YtfoomffbjjcjjaaTail
import Derived.Deep.RegionHeld3
namespace Go.Proofs.Ytfoomffbjjcjjaa
set_option linter.unusedSimpArgs false
set_option linter.unusedVariables false
section
variable {P : Program} {ops : Array Oper} {md : Region.Mode} {Q : Exit → Act → World → Prop} {S : World → Prop}
/-- Any order from here on; what is held is held behind each operation ahead of number n. -/
def AnyZ (P : Program) (md : Region.Mode) (ops : Array Oper) (Q : Exit → Act → World → Prop) (S : World → Prop) (n : Nat) (f : Nat) (listed : Array Bool) (a : Act) (w : World) : Prop :=
  match f with
  | 0 => Region.ready md ops listed = [] ∧ Q .normal a w
  | f + 1 => (Region.ready md ops listed = [] → Q .normal a w) ∧ ∀ k ∈ Region.ready md ops listed, wpOp P ops Q k (fun b u => (k < n → S u) ∧ AnyZ P md ops Q S n f (listed.setIfInBounds k true) b u) a w
theorem any_of_Z {n : Nat} (f : Nat) : ∀ (listed : Array Bool) (a : Act) (w : World), AnyZ P md ops Q S n f listed a w → wpAny P md ops Q f listed a w := by
  induction f with
  | zero => intro _ _ _ h; exact h
  | succ f ih => intro _ _ _ h; exact ⟨h.1, fun k hk => wpOp_mono (fun b u hb => ih _ b u hb.2) (h.2 k hk)⟩
/-- What the region is asked, by a computation. -/
def zB (md : Region.Mode) (ops : Array Oper) (n : Nat) : Bool := Region.noSelect ops && decide (n < ops.size) && Region.sinkB md ops n && Region.chainB md ops n
theorem zB_spec {n : Nat} (h : zB md ops n = true) : Region.noSelect ops = true ∧ n < ops.size ∧ Region.sinkB md ops n = true ∧ Region.chainB md ops n = true := by
  simp only [zB, Bool.and_eq_true, decide_eq_true_eq] at h
  exact ⟨h.1.1.1, h.1.1.2, h.1.2, h.2⟩
theorem z_first {n i : Nat} {oi : Oper} {v : Value} (hB : zB md ops n = true) (hi : ops[i]? = some oi) (hin : i < n) (hQ : ∀ c a w, Q (.panic c) (a.put oi.dst v) w → Q (.panic c) a w) (f : Nat) :
    ∀ (listed : Array Bool) (a : Act) (w : World), HeadInv md ops n listed →
      (∀ j oj, ops[j]? = some oj → j ≠ i → listed.getD j true = false → (∀ e ∈ oj.after, Region.binds md e = true → e.on ≠ i) → oi.apart ops oj = true) →
      i ∈ Region.ready md ops listed → YieldsIf P ops S oi v a → S w → AnyZ P md ops Q S n f (listed.setIfInBounds i true) (a.put oi.dst v) w → AnyZ P md ops Q S n (f + 1) listed a w := by
  obtain ⟨hsel0, hn, hs, hc⟩ := zB_spec hB
  have hsel := Region.noSelect_spec hsel0
  have now : ∀ (g : Nat) (listed : Array Bool) (a : Act) (w : World), YieldsIf P ops S oi v a → S w → AnyZ P md ops Q S n g (listed.setIfInBounds i true) (a.put oi.dst v) w →
      wpOp P ops Q i (fun b u => (i < n → S u) ∧ AnyZ P md ops Q S n g (listed.setIfInBounds i true) b u) a w := fun g listed a w hy hS H => hy.wpOp hi hS ⟨fun _ => hS, H⟩
  induction f with
  | zero =>
    intro listed a w _ _ hr hy hS H
    refine ⟨fun h0 => absurd hr (by rw [h0]; simp), fun k hk => ?_⟩
    rcases Nat.decEq k i with hki | hki
    · exact absurd (ready_mono hk hki) (by rw [H.1]; simp)
    · subst hki; exact now 0 listed a w hy hS H
  | succ f ih =>
    intro listed a w inv hfree hr hy hS H
    have hun := (mem_ready.1 hr).1
    refine ⟨fun h0 => absurd hr (by rw [h0]; simp), fun k hk => ?_⟩
    rcases Nat.decEq k i with hki | hki
    rotate_left
    · subst hki; exact now (f + 1) listed a w hy hS H
    have hkn : k < n := Nat.lt_of_not_le fun h => tail_waits hs hc hn inv _ i rfl hin hun k h hk
    obtain ⟨hkun, ok, hok, hall⟩ := mem_ready.1 hk
    have hno : ∀ e ∈ ok.after, Region.binds md e = true → e.on ≠ i := fun e he hb heq => by
      have h1 := hall e he hb
      rw [heq, getD_both hun] at h1; cases h1
    have hput := wpOp_putIf hok (hfree k ok hok hki hkun hno) (fun cs b => hsel i oi cs b hi) (fun cs b => hsel k ok cs b hok) hQ hy (H.2 k (ready_mono hk hki))
    refine wpOp_mono (fun b u hb => ⟨hb.2.1, ih _ b u (inv.set hk hkn) (fun j oj hj hji hju hjo => hfree j oj hj hji ?_ hjo) (ready_mono hr (Ne.symm hki)) hb.1 (hb.2.1 hkn) ?_⟩) hput
    · by_cases hkj : k = j
      · subst hkj; exact hkun
      · rwa [getD_set_ne true hkj] at hju
    · rw [Array.setIfInBounds_comm _ _ hki]; exact hb.2.2
variable {l : List Oper} {n f : Nat} {listed : Array Bool} {a : Act} {w : World}
theorem blt_ltz {i n : Nat} (h : Nat.blt i n = true) : i < n := Nat.le_of_ble_eq_true h
theorem at_toArrayz {i : Nat} (h : i < l.length) : l.toArray[i]? = some l[i] := by simp [h]
theorem z_take (i : Nat) (hlen : Nat.blt i l.length = true) {v : Value} (hB : zB md l.toArray n = true) (hin : Nat.blt i n = true) (hf : Region.free md l.toArray listed i = true) (hr : (Region.ready md l.toArray listed).contains i = true)
    (hQ : ∀ c a w, Q (.panic c) (a.put (l[i]'(blt_ltz hlen)).dst v) w → Q (.panic c) a w) (hw : Region.wanted (l[i]'(blt_ltz hlen)) (yielded l.toArray a.tmps) = true)
    (hy : ∀ w, S w → (execOp a.eval (l[i]'(blt_ltz hlen))).run P w = .ok (.value v) w) (hS : S w) (inv : HeadInv md l.toArray n listed)
    (h : HeadInv md l.toArray n (listed.setIfInBounds i true) → AnyZ P md l.toArray Q S n f (listed.setIfInBounds i true) (a.put (l[i]'(blt_ltz hlen)).dst v) w) : AnyZ P md l.toArray Q S n (f + 1) listed a w := by
  have hrm : i ∈ Region.ready md l.toArray listed := by simpa using hr
  exact z_first hB (at_toArrayz (blt_ltz hlen)) (blt_ltz hin) hQ f listed a w inv (Region.free_spec (at_toArrayz (blt_ltz hlen)) hf) hrm (Or.inl ⟨hw, hy⟩) hS (h (inv.set hrm (blt_ltz hin)))
theorem z_ready (i : Nat) (hlen : Nat.blt i l.length = true) (hin : Nat.blt i n = true) (hr : Region.ready md l.toArray listed = [i]) (inv : HeadInv md l.toArray n listed)
    (h : ∀ K' : Act → World → Prop, Shut (∀ a w, S w → (S w → HeadInv md l.toArray n (listed.setIfInBounds i true) → AnyZ P md l.toArray Q S n f (listed.setIfInBounds i true) a w) → K' a w) → if Region.wanted (l[i]'(blt_ltz hlen)) (yielded l.toArray a.tmps) = true then Oper.wp P (l[i]'(blt_ltz hlen)) a w K' Q else K' (a.put (l[i]'(blt_ltz hlen)).dst undef) w) :
    AnyZ P md l.toArray Q S n (f + 1) listed a w := by
  refine ⟨fun h0 => (by rw [hr] at h0; cases h0), fun k hk => ?_⟩
  have hki : k = i := by rw [hr] at hk; simpa using hk
  have hinv := inv.set hk (by rw [hki]; exact blt_ltz hin)
  subst hki
  exact wpOp_step (at_toArrayz (blt_ltz hlen)) (fun K' hK => h K' (fun a w hS hW => hK a w ⟨fun _ => hS, hW hS hinv⟩))
theorem z_last (i : Nat) (hlen : Nat.blt i l.length = true) (hin : n = i) (hr : Region.ready md l.toArray listed = [i]) (hd : Region.ready md l.toArray (listed.setIfInBounds i true) = [])
    (h : ∀ K' : Act → World → Prop, Shut (∀ a w, Q .normal a w → K' a w) → if Region.wanted (l[i]'(blt_ltz hlen)) (yielded l.toArray a.tmps) = true then Oper.wp P (l[i]'(blt_ltz hlen)) a w K' Q else K' (a.put (l[i]'(blt_ltz hlen)).dst undef) w) :
    AnyZ P md l.toArray Q S n (f + 1) listed a w := by
  refine ⟨fun h0 => (by rw [hr] at h0; cases h0), fun k hk => ?_⟩
  have hki : k = i := by rw [hr] at hk; simpa using hk
  subst hki
  refine wpOp_step (at_toArrayz (blt_ltz hlen)) (fun K' hK => h K' (fun a w hQ => hK a w ⟨fun hlt => (by omega), ?_⟩))
  cases f with
  | zero => exact ⟨hd, hQ⟩
  | succ f => exact ⟨fun _ => hQ, fun j hj => (by rw [hd] at hj; cases hj)⟩
theorem wp_region_Z (n : Nat) {id : Nat} (hm : P.follows .mixedOrders = true) (hS : S w.drew)
    (h : S w.drew → HeadInv .any l.toArray n (Array.replicate l.toArray.size false) → AnyZ P .any l.toArray Q S n l.toArray.size (Array.replicate l.toArray.size false) a w.drew) : (Code.region id l.toArray true).wp P Q a w :=
  wp_region_any hm (any_of_Z _ _ _ _ (h hS ⟨by simp, fun j oj _ hl => (by rw [getD_replicate_false] at hl; cases hl), fun t _ ht => getD_in (by simpa using ht) (getD_replicate_false _ _)⟩))
end
end Go.Proofs.Ytfoomffbjjcjjaa
