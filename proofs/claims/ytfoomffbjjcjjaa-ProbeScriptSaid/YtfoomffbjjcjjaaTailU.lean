/-
  A region that draws its order, in a round: a head that reads and calls quietly, one operation of which (a move) the tail need not wait for, and a tail whose order is else forced. No program is named here.
-/
import Derived.Test.YtfoomffbjjcjjaaTail
namespace Go.Proofs.Ytfoomffbjjcjjaa
set_option linter.unusedSimpArgs false
set_option linter.unusedVariables false
section
variable {P : Program} {ops : Array Oper} {md : Region.Mode} {C : World → Prop} {Q : Exit → Act → World → Prop} {F : Fence} {m : Nat}
theorem anyIn_round (lp : Nat) (hnd : ∀ (j : Nat) (o : Oper), ops[j]? = some o → ∀ c, o.op ≠ .defer c) (fuel : Nat) : ∀ (listed : Array Bool) (a : Act) (w : World), wpAnyIn F m P md ops Q fuel listed a w → wpAnyIn (F.inRound lp) m P md ops Q fuel listed a w := by
  induction fuel with
  | zero => intro listed a w h; exact h
  | succ f ih =>
    intro listed a w h
    refine ⟨h.1, fun i hi => ?_⟩
    have h2 := wpOpIn_mono (fun a' w' h' => ih _ a' w' h') (h.2 i hi)
    unfold wpOpIn at h2 ⊢
    split
    · rename_i ho; simpa only [ho] using h2
    · rename_i o ho
      simp only [ho] at h2
      split
      · rename_i hw
        simp only [hw, if_true] at h2
        unfold Oper.wpIn at h2 ⊢
        refine ⟨h2.1, ?_⟩
        have h3 := h2.2
        rw [Oper.semAt_plain F _ _ (hnd i o ho)] at h3
        rw [Oper.semAt_plain (F.inRound lp) _ _ (hnd i o ho)]
        exact h3
      · rename_i hw; simp only [hw] at h2; exact h2
/-- Each of the head but u is waited for, by one of the head or by the tail's first. -/
def sinkU (md : Region.Mode) (ops : Array Oper) (n u : Nat) : Bool :=
  (List.range n).all fun i => i == u || (List.range (n + 1)).any fun j => decide (i < j) && Region.waitsFor md ops j i
theorem tail_waitsU {n u : Nat} {listed : Array Bool} (hs : sinkU md ops n u = true) (hc : Region.chainB md ops n = true) (hn : n < ops.size) (inv : HeadInv md ops n listed) (hu : listed.getD u true = true) :
    ∀ (d i : Nat), n - i = d → i < n → listed.getD i true = false → ∀ t, n ≤ t → t ∉ Region.ready md ops listed := by
  intro d
  induction d using Nat.strongRecOn with
  | _ d ih =>
    intro i hd hi hun t ht hr
    obtain ⟨_, ot, hot, hall⟩ := mem_ready.1 hr
    have htlt : t < ops.size := (Array.getElem?_eq_some_iff.1 hot).1
    by_cases htn : t = n
    · subst htn
      have h1 := List.all_eq_true.1 hs i (List.mem_range.2 hi)
      rw [Bool.or_eq_true] at h1
      rcases h1 with h1 | h1
      · rw [beq_iff_eq] at h1; subst h1; rw [hun] at hu; cases hu
      · obtain ⟨j, hj, hj2⟩ := List.any_eq_true.1 h1
        simp only [Bool.and_eq_true, decide_eq_true_eq] at hj2
        obtain ⟨oj, hoj, e, he, hb, hon⟩ := Region.waitsFor_spec hj2.2
        have hjle : j ≤ t := by have := List.mem_range.1 hj; omega
        by_cases hjt : j = t
        · subst hjt
          obtain rfl : oj = ot := Option.some.inj (hoj.symm.trans hot)
          have h2 := hall e he hb
          rw [hon, getD_both hun] at h2; cases h2
        · cases hl : listed.getD j false with
          | true =>
            have h2 := inv.closed j oj hoj hl e he hb
            rw [hon, getD_both hun] at h2; cases h2
          | false => exact ih (t - j) (by omega) j rfl (by omega) (getD_in (by rw [inv.size]; omega) hl) t (Nat.le_refl _) hr
    · have h1 := List.all_eq_true.1 hc t (List.mem_range.2 htlt)
      simp only [Bool.or_eq_true, decide_eq_true_eq] at h1
      rcases h1 with h1 | h1
      · omega
      · obtain ⟨o', ho', e, he, hb, hon⟩ := Region.waitsFor_spec h1
        obtain rfl : o' = ot := Option.some.inj (ho'.symm.trans hot)
        have h2 := hall e he hb
        rw [hon, getD_both (inv.tail (t - 1) (by omega) (by omega))] at h2; cases h2
theorem keepsU {listed : Array Bool} {u j : Nat} (h : listed.getD u true = true) : (listed.setIfInBounds j true).getD u true = true := by
  by_cases e : j = u
  · subst e
    rcases Nat.lt_or_ge j listed.size with h' | h'
    · simp [h']
    · rw [Array.setIfInBounds_eq_of_size_le h']; exact h
  · rwa [getD_set_ne true e]
theorem wpHead_firstU {n i u : Nat} {oi : Oper} {v : Value} {L : Array Bool → Act → Prop} (hi : ops[i]? = some oi) (hsel : ∀ (j : Nat) (o : Oper) cs b, ops[j]? = some o → o.op ≠ .select cs b)
    (hs : sinkU md ops n u = true) (hc : Region.chainB md ops n = true) (hn : n < ops.size) (hin : i < n) (hdone : ∀ listed a, L listed a → ∀ j ∈ Region.ready md ops listed, n ≤ j) (f : Nat) :
    ∀ (listed : Array Bool) (a : Act), HeadInv md ops n listed → listed.getD u true = true →
      (∀ j oj, ops[j]? = some oj → j ≠ i → listed.getD j true = false → (∀ e ∈ oj.after, Region.binds md e = true → e.on ≠ i) → oi.apart ops oj = true) →
      i ∈ Region.ready md ops listed → YieldsIn P ops C oi v a → wpHead P md ops C n L f (listed.setIfInBounds i true) (a.put oi.dst v) → wpHead P md ops C n L (f + 1) listed a := by
  induction f with
  | zero =>
    intro listed a inv hu hfree hr hy H
    have hun := (mem_ready.1 hr).1
    refine ⟨List.ne_nil_of_mem hr, fun j hj => ?_⟩
    have hjn : j < n := Nat.lt_of_not_le fun h => tail_waitsU hs hc hn inv hu _ i rfl hin hun j h hj
    by_cases hji : j = i
    · subst hji; exact ⟨hjn, hy.qOp hi H⟩
    · have := hdone _ _ H j (ready_mono hj hji); omega
  | succ f ih =>
    intro listed a inv hu hfree hr hy H
    have hun := (mem_ready.1 hr).1
    refine ⟨List.ne_nil_of_mem hr, fun j hj => ?_⟩
    have hjn : j < n := Nat.lt_of_not_le fun h => tail_waitsU hs hc hn inv hu _ i rfl hin hun j h hj
    by_cases hji : j = i
    · subst hji; exact ⟨hjn, hy.qOp hi H⟩
    · refine ⟨hjn, ?_⟩
      obtain ⟨hjun, oj, hoj, hall⟩ := mem_ready.1 hj
      have hnot : ∀ e ∈ oj.after, Region.binds md e = true → e.on ≠ i := fun e he hb heq => by
        have h1 := hall e he hb
        rw [heq, getD_both hun] at h1; cases h1
      refine qOp_mono (fun a' h3 => ih _ a' (inv.set hj hjn) (keepsU hu) (fun k ok hk hki hku hno => hfree k ok hk hki ?_ hno) (ready_mono hr (Ne.symm hji)) h3.1 ?_)
        (qOp_put hoj (hfree j oj hoj hji hjun hnot) (fun cs b => hsel i oi cs b hi) (fun cs b => hsel j oj cs b hoj) hy (H.2 j (ready_mono hj hji)).2)
      · by_cases hjk : j = k
        · subst hjk; exact hjun
        · rwa [getD_set_ne true hjk] at hku
      · rw [Array.setIfInBounds_comm _ _ hji]; exact h3.2
/-- The head's order by its numbers. -/
def lexIdx (md : Region.Mode) (ops : Array Oper) (g n : Nat) : List Nat → Array Bool → Bool
  | [], listed => Region.seqB md ops g n listed
  | k :: ks, listed => (Region.ready md ops listed).contains k && Region.free md ops listed k && decide (k < n) && lexIdx md ops g n ks (listed.setIfInBounds k true)
theorem wpHead_lexU {n g u : Nat} {Lq : Act → Prop} (hsel : Region.noSelect ops = true) (hs : sinkU md ops n u = true) (hc : Region.chainB md ops n = true) (hn : n < ops.size) :
    ∀ (ks : List Nat) (l : List Oper) (listed : Array Bool) (a : Act), ks.map (fun k => ops[k]?) = l.map some → HeadInv md ops n listed → listed.getD u true = true →
      lexIdx md ops g n ks listed = true → wpQuiet P ops C Lq l a → wpHead P md ops C n (fun listed' a' => Region.seqB md ops g n listed' = true ∧ Lq a') ks.length listed a := by
  intro ks
  induction ks with
  | nil =>
    intro l listed a hl inv hu hB h
    cases l with
    | nil => exact ⟨hB, h⟩
    | cons o l => simp at hl
  | cons k ks ih =>
    intro l listed a hl inv hu hB h
    cases l with
    | nil => simp at hl
    | cons o l =>
      simp only [List.map_cons, List.cons.injEq] at hl
      simp only [lexIdx, Bool.and_eq_true, decide_eq_true_eq] at hB
      have h0 := hl.1
      have hr : k ∈ Region.ready md ops listed := by simpa using hB.1.1.1
      obtain ⟨v, hy, hK⟩ := yieldsIn_of_qOp (C := C) (P := P) (K := wpQuiet P ops C Lq l) h0 (by unfold qOp; simp only [h0]; exact h)
      exact wpHead_firstU h0 (Region.noSelect_spec hsel) hs hc hn hB.1.2 (fun _ _ hL => seqB_ready hL.1) ks.length listed a inv hu (Region.free_spec h0 hB.1.1.2) hr hy
        (ih l _ _ hl.2 (inv.set hr hB.1.2) (keepsU hu) hB.2 hK)
/-- A list of operations walked in a round is walked outside. -/
theorem listIn_out {lp : Nat} {l : List Oper} (hnd : ∀ (o : Oper), o ∈ l → ∀ c, o.op ≠ .defer c) : ∀ (a : Act) (w : World), wpListIn (F.inRound lp) m P ops Q l a w → wpListIn F m P ops Q l a w := by
  induction l with
  | nil => intro a w h; exact h
  | cons o l ih =>
    intro a w h
    unfold wpListIn at h ⊢
    split
    · rename_i hw
      rw [if_pos hw] at h
      have h' := Oper.wpIn_mono (fun a' w' h' => ih (fun o ho => hnd o (List.mem_cons_of_mem _ ho)) a' w' h') h
      unfold Oper.wpIn at h' ⊢
      refine ⟨h'.1, ?_⟩
      have h3 := h'.2
      rw [Oper.semAt_plain (F.inRound lp) _ _ (hnd o (by simp))] at h3
      rw [Oper.semAt_plain F _ _ (hnd o (by simp))]
      exact h3
    · rename_i hw
      rw [if_neg hw] at h
      exact ⟨h.1, ih (fun o ho => hnd o (List.mem_cons_of_mem _ ho)) _ _ h.2⟩
/-- What the region is asked, by a computation. -/
def lateB (md : Region.Mode) (ops : Array Oper) (n u : Nat) : Bool :=
  Region.noSelect ops && decide (n < ops.size) && decide (u < n) && sinkU md ops n u && Region.chainB md ops n && Region.free md ops (Array.replicate ops.size false) u && (Region.ready md ops (Array.replicate ops.size false)).contains u &&
    lexIdx md ops (ops.size - n) n ((List.range n).erase u) ((Array.replicate ops.size false).setIfInBounds u true)
theorem round_quiet_late {id lp : Nat} {a : Act} {w : World} {l : List Oper} (n u : Nat) (o : Oper) (v : Value) (hm : P.follows .mixedOrders = true) (hB : lateB .any l.toArray n u = true) (hnd : ∀ (o : Oper), o ∈ l → ∀ c, o.op ≠ .defer c)
    (ho : l[u]? = some o) (hy : Yields P l.toArray o v a) (hab : ∀ w, o.about P w a.eval = none) (hh : ((List.range n).erase u).map (fun k => l.toArray[k]?) = ((l.take n).eraseIdx u).map some)
    (h : wpQuiet P l.toArray (fun w' => ∃ k, w' = w.drewN k) (fun a' => ∀ w', (∃ k, w' = w.drewN k) → wpListIn (Fence.wide.inRound lp) m P l.toArray (fun e a w => e = .normal ∧ Q .normal a w) (l.drop n) a' w') ((l.take n).eraseIdx u) (a.put o.dst v)) :
    (Code.region id l.toArray true).wpIn (Fence.wide.inRound lp) m P Q a w := by
  simp only [lateB, Bool.and_eq_true, decide_eq_true_eq] at hB
  obtain ⟨⟨⟨⟨⟨⟨⟨hsel, hn⟩, hun⟩, hs⟩, hc⟩, hfree⟩, hready⟩, hlex⟩ := hB
  have hn' : n < l.length := by simpa using hn
  refine Code.wpIn_mono (Q := fun e a w => e = .normal ∧ Q .normal a w) (fun e a w h => by obtain ⟨rfl, h⟩ := h; exact h) ?_
  refine wpIn_region_any hm (anyIn_round lp (fun j o ho => hnd o (List.mem_of_getElem? (by simpa using ho))) _ _ _ _ ?_)
  have hsz : l.toArray.size = (n - 1 + (l.length - n)) + 1 := by simp; omega
  have hr : u ∈ Region.ready .any l.toArray (Array.replicate l.toArray.size false) := by simpa using hready
  have inv0 : HeadInv .any l.toArray n (Array.replicate l.toArray.size false) :=
    ⟨by simp, fun j oj _ hl => (by rw [getD_replicate_false] at hl; cases hl), fun t _ ht => getD_in (by simpa using ht) (getD_replicate_false _ _)⟩
  have hu : ((Array.replicate l.toArray.size false).setIfInBounds u true).getD u true = true := by simp
  have hks : ((List.range n).erase u).length = n - 1 := by rw [List.length_erase_of_mem (by simpa using hun)]; simp
  have H := wpHead_lexU (P := P) (C := fun w' => ∃ k, w' = w.drewN k) (md := .any) (g := l.toArray.size - n) hsel hs hc hn _ _ _ _ hh (inv0.set hr hun) hu hlex h
  rw [hks] at H
  have hA := anyIn_of_head (F := Fence.wide) (m := m) (Q := fun e a w => e = .normal ∧ Q .normal a w) (g := l.length - n) (C := fun w' => ∃ k, w' = w.drewN k) (fun _ => trivial) rfl (fun _ _ _ _ hC => callsIn_wide.2 hC)
    (fun j o ho => hnd o (List.mem_of_getElem? (by simpa using ho))) (fun listed a' w' hw' hL => by
    have h1 := anyIn_of_seq (F := Fence.wide) (m := m) (md := .any) (Q := fun e a w => e = .normal ∧ Q .normal a w) (l.drop n) n listed a' w' (fun j => by simp [List.getElem?_drop]) (by rw [List.length_drop]; simpa using hL.1) (listIn_out (fun o ho => hnd o (List.mem_of_mem_drop ho)) _ _ (hL.2 w' hw'))
    rwa [List.length_drop] at h1) (n - 1) _ _ w.drew ⟨1, rfl⟩ H
  rw [hsz] at hA ⊢
  exact wpAnyIn_take (F := Fence.wide) rfl (by simpa using ho) hsel (by rw [← hsz]; exact hfree) (by rw [← hsz]; exact hready) (fun c a w h => by cases h.1) ⟨hy, hab⟩ hA
end
end Go.Proofs.Ytfoomffbjjcjjaa
