/-
  A region that draws its order: a head that reads and calls quietly (its callees may draw), a tail whose order is forced; outside a round and inside one. No program is named here.
  A drawn region whose last operation (a store) waits for all others, and may write what they read: loads are taken first, what alone may come up is carried out, the last one ends it. General: no program is named here.
  A region that draws its order: a head all of whose operations answer the same in every world behind one (they read, and call what only adds to memory), and a tail whose order is forced. General: no program is named here.
-/
import Derived.StillTail
import Derived.Deep.Quiet
import Derived.OrdersIn
import Derived.RangeFuncCalls
import Derived.OwnWalkIn
import Derived.Deep.RegionHeld3
import Derived.Test.YteepaoklibflpaaR11
namespace Go.Proofs.Yteepaoklibflpaa
section
set_option linter.unusedSimpArgs false
set_option linter.unusedVariables false
section
variable {P : Program} {ops : Array Oper} {md : Region.Mode} {C : World → Prop}
/-- The head: as long as it is not through, what may come up is of it, and quiet. -/
def wpHead (P : Program) (md : Region.Mode) (ops : Array Oper) (C : World → Prop) (n : Nat) (L : Array Bool → Act → Prop) : Nat → Array Bool → Act → Prop
  | 0, listed, a => L listed a
  | f + 1, listed, a => Region.ready md ops listed ≠ [] ∧ ∀ i ∈ Region.ready md ops listed, i < n ∧ qOp P ops C i (wpHead P md ops C n L f (listed.setIfInBounds i true)) a
theorem wpHead_first {n i : Nat} {oi : Oper} {v : Value} {L : Array Bool → Act → Prop} (hi : ops[i]? = some oi) (hsel : ∀ (j : Nat) (o : Oper) cs b, ops[j]? = some o → o.op ≠ .select cs b)
    (hs : Region.sinkB md ops n = true) (hc : Region.chainB md ops n = true) (hn : n < ops.size) (hin : i < n) (hdone : ∀ listed a, L listed a → ∀ j ∈ Region.ready md ops listed, n ≤ j) (f : Nat) :
    ∀ (listed : Array Bool) (a : Act), HeadInv md ops n listed →
      (∀ j oj, ops[j]? = some oj → j ≠ i → listed.getD j true = false → (∀ e ∈ oj.after, Region.binds md e = true → e.on ≠ i) → oi.apart ops oj = true) →
      i ∈ Region.ready md ops listed → YieldsIn P ops C oi v a → wpHead P md ops C n L f (listed.setIfInBounds i true) (a.put oi.dst v) → wpHead P md ops C n L (f + 1) listed a := by
  induction f with
  | zero =>
    intro listed a inv _ hr hy H
    have hun := (mem_ready.1 hr).1
    refine ⟨List.ne_nil_of_mem hr, fun j hj => ?_⟩
    have hjn : j < n := Nat.lt_of_not_le fun h => tail_waits hs hc hn inv _ i rfl hin hun j h hj
    by_cases hji : j = i
    · subst hji; exact ⟨hjn, hy.qOp hi H⟩
    · have := hdone _ _ H j (ready_mono hj hji); omega
  | succ f ih =>
    intro listed a inv hfree hr hy H
    have hun := (mem_ready.1 hr).1
    refine ⟨List.ne_nil_of_mem hr, fun j hj => ?_⟩
    have hjn : j < n := Nat.lt_of_not_le fun h => tail_waits hs hc hn inv _ i rfl hin hun j h hj
    by_cases hji : j = i
    · subst hji; exact ⟨hjn, hy.qOp hi H⟩
    · refine ⟨hjn, ?_⟩
      obtain ⟨hjun, oj, hoj, hall⟩ := mem_ready.1 hj
      have hnot : ∀ e ∈ oj.after, Region.binds md e = true → e.on ≠ i := fun e he hb heq => by
        have h1 := hall e he hb
        rw [heq, getD_both hun] at h1; cases h1
      refine qOp_mono (fun a' h3 => ih _ a' (inv.set hj hjn) (fun k ok hk hki hku hno => hfree k ok hk hki ?_ hno) (ready_mono hr (Ne.symm hji)) h3.1 ?_)
        (qOp_put hoj (hfree j oj hoj hji hjun hnot) (fun cs b => hsel i oi cs b hi) (fun cs b => hsel j oj cs b hoj) hy (H.2 j (ready_mono hj hji)).2)
      · by_cases hjk : j = k
        · subst hjk; exact hjun
        · rwa [getD_set_ne true hjk] at hku
      · rw [Array.setIfInBounds_comm _ _ hji]; exact h3.2
theorem wpHead_lex {n g : Nat} {Lq : Act → Prop} (hsel : Region.noSelect ops = true) (hs : Region.sinkB md ops n = true) (hc : Region.chainB md ops n = true) (hn : n < ops.size) :
    ∀ (l : List Oper) (k : Nat) (listed : Array Bool) (a : Act), (∀ j, j < l.length → l[j]? = ops[k + j]?) → k + l.length = n → HeadInv md ops n listed →
      Region.lexHead md ops g l.length k listed = true → wpQuiet P ops C Lq l a → wpHead P md ops C n (fun listed' a' => Region.seqB md ops g n listed' = true ∧ Lq a') l.length listed a := by
  intro l
  induction l with
  | nil =>
    intro k listed a _ hk _ hB h
    simp only [List.length_nil, Nat.add_zero] at hk
    subst hk
    exact ⟨hB, h⟩
  | cons o l ih =>
    intro k listed a hl hk inv hB h
    have h0 : ops[k]? = some o := (hl 0 (by simp)).symm
    simp only [List.length_cons, Region.lexHead, Bool.and_eq_true] at hB hk
    have hr : k ∈ Region.ready md ops listed := by simpa using hB.1.1
    obtain ⟨v, hy, hK⟩ := yieldsIn_of_qOp (C := C) (P := P) (K := wpQuiet P ops C Lq l) h0 (by unfold qOp; simp only [h0]; exact h)
    exact wpHead_first h0 (Region.noSelect_spec hsel) hs hc hn (by omega) (fun _ _ hL => seqB_ready hL.1) l.length listed a inv (Region.free_spec h0 hB.1.2) hr hy
      (ih (k + 1) _ _ (fun j hj => by have h1 := hl (j + 1) (by simp; omega); rw [List.getElem?_cons_succ] at h1; rw [h1, show k + (j + 1) = k + 1 + j by omega]) (by omega) (inv.set hr (by omega)) hB.2 hK)
variable {Q : Exit → Act → World → Prop}
theorem any_of_head {n g : Nat} {L : Array Bool → Act → Prop} (hL : ∀ listed a w, C w → L listed a → wpAny P md ops Q g listed a w) (f : Nat) :
    ∀ (listed : Array Bool) (a : Act) (w : World), C w → wpHead P md ops C n L f listed a → wpAny P md ops Q (f + g) listed a w := by
  induction f with
  | zero => intro listed a w hC h; rw [Nat.zero_add]; exact hL _ _ _ hC h
  | succ f ih =>
    intro listed a w hC h
    rw [show f + 1 + g = f + g + 1 by omega]
    exact ⟨fun h0 => absurd h0 h.1, fun i hi => wpOp_of_qOp hC (fun a' w' hw' h' => ih _ a' w' hw' h') (h.2 i hi).2⟩
/-- What a lexical head comes to. -/
theorem head_of_lex {l : List Oper} {a : Act} {Lq : Act → Prop} (n : Nat) (hB : Region.lexTailB .any l.toArray n = true) (h : wpQuiet P l.toArray C Lq (l.take n) a) :
    n < l.length ∧ wpHead P .any l.toArray C n (fun listed' a' => Region.seqB .any l.toArray (l.length - n) n listed' = true ∧ Lq a') n (Array.replicate l.length false) a := by
  simp only [Region.lexTailB, Bool.and_eq_true, decide_eq_true_eq] at hB
  obtain ⟨⟨⟨⟨hsel, hn⟩, hs⟩, hc⟩, hlex⟩ := hB
  have hn' : n < l.length := by simpa using hn
  have htl : (l.take n).length = n := by rw [List.length_take]; omega
  have inv : HeadInv .any l.toArray n (Array.replicate l.toArray.size false) :=
    ⟨by simp, fun j oj _ hl => (by rw [getD_replicate_false] at hl; cases hl), fun t _ ht => getD_in (by simpa using ht) (getD_replicate_false _ _)⟩
  have H := wpHead_lex (P := P) (C := C) (Lq := Lq) (md := .any) (g := l.toArray.size - n) hsel hs hc hn (l.take n) 0 _ a (fun j hj => by rw [List.getElem?_take_of_lt (by omega)]; simp) (by omega) inv (by rw [htl]; exact hlex) h
  rw [htl] at H
  exact ⟨hn', by simpa using H⟩
theorem region_quiet_tail {id : Nat} {a : Act} {w : World} {l : List Oper} (n : Nat) (hm : P.follows .mixedOrders = true) (hB : Region.lexTailB .any l.toArray n = true)
    (h : wpQuiet P l.toArray (fun w' => ∃ k, w' = w.drewN k) (fun a' => ∀ w', (∃ k, w' = w.drewN k) → wpList P l.toArray Q (l.drop n) a' w') (l.take n) a) : (Code.region id l.toArray true).wp P Q a w := by
  obtain ⟨hn, H⟩ := head_of_lex n hB h
  refine wp_region_any hm ?_
  have hA := any_of_head (Q := Q) (g := l.length - n) (C := fun w' => ∃ k, w' = w.drewN k) (fun listed a' w' hw' hL => by
    have h1 := wpAny_of_seq (md := .any) (Q' := Q) (l.drop n) n listed a' w' (fun j => by simp [List.getElem?_drop]) (by rw [List.length_drop]; exact hL.1) (hL.2 w' hw')
    rwa [List.length_drop] at h1) n _ a w.drew ⟨1, rfl⟩ H
  rw [show n + (l.length - n) = l.length by omega] at hA
  simpa using hA
/-! Inside a fence (a round too). -/
variable {F : Fence} {m : Nat}
theorem wpIn_of_quiet {o : Oper} {a : Act} {K : Act → Prop} {K' : Act → World → Prop} {w : World} (hF : ∀ f, F.fn f) (hd : F.depth = none) (hc : ∀ f args w R, Calls P f args w R → CallsIn F (m - 1) P f args w R) (hnd : ∀ c, o.op ≠ .defer c)
    (hw : C w) (h : ∀ a w', C w' → K a → K' a w') (hh : o.quiet P a C K) : o.wpIn F m P a w K' Q := by
  obtain ⟨v, h1, h2⟩ := hh
  have h3 := h1 w hw
  unfold Oper.quietAt at h3
  unfold Oper.wpIn
  refine ⟨fun f _ => hF f, ?_⟩
  rw [Oper.semAt_plain F _ _ hnd]
  generalize (execOp a.eval o).run P w = r at *
  cases r with
  | ok x w' =>
    cases x <;> simp only [Oper.quietUpon] at h3 <;> simp only [Oper.uponIn]
    case value u => obtain ⟨e1, e2⟩ := h3; rw [e1, e2]; exact h _ _ hw h2
    case skip => obtain ⟨e1, e2⟩ := h3; rw [e1, ← e2]; exact h _ _ hw h2
    case enter f args =>
      obtain ⟨e1, hcc⟩ := h3
      rw [e1]
      exact ⟨fun e => (by rw [hd] at e; cases e), CallsIn.mono (hc _ _ _ _ hcc) (fun e w'' ⟨he, hw''⟩ => by subst he; exact h _ _ hw'' h2)⟩
  | halt x w' => simp only [Oper.quietUpon] at h3
theorem anyIn_of_head {n g : Nat} {L : Array Bool → Act → Prop} (hF : ∀ f, F.fn f) (hd : F.depth = none) (hc : ∀ f args w R, Calls P f args w R → CallsIn F (m - 1) P f args w R) (hnd : ∀ (j : Nat) (o : Oper), ops[j]? = some o → ∀ c, o.op ≠ .defer c)
    (hL : ∀ listed a w, C w → L listed a → wpAnyIn F m P md ops Q g listed a w) (f : Nat) :
    ∀ (listed : Array Bool) (a : Act) (w : World), C w → wpHead P md ops C n L f listed a → wpAnyIn F m P md ops Q (f + g) listed a w := by
  induction f with
  | zero => intro listed a w hC h; rw [Nat.zero_add]; exact hL _ _ _ hC h
  | succ f ih =>
    intro listed a w hC h
    rw [show f + 1 + g = f + g + 1 by omega]
    refine ⟨fun h0 => absurd h0 h.1, fun i hi => ?_⟩
    have hq := (h.2 i hi).2
    unfold qOp at hq
    unfold wpOpIn
    split
    · rename_i ho; simp only [ho] at hq; exact ih _ _ _ hC hq
    · rename_i o ho
      simp only [ho] at hq
      split
      · rename_i hw; simp only [hw, if_true] at hq; exact wpIn_of_quiet hF hd hc (hnd i o ho) hC (fun a' w' hw' h' => ih _ a' w' hw' h') hq
      · rename_i hw; simp only [hw] at hq; exact ⟨fun f _ => hF f, ih _ _ _ hC hq⟩
theorem anyIn_of_seq : ∀ (l : List Oper) (k : Nat) (listed : Array Bool) (a : Act) (w : World), (∀ j, l[j]? = ops[k + j]?) →
    Region.seqB md ops l.length k listed = true → wpListIn F m P ops Q l a w → wpAnyIn F m P md ops Q l.length listed a w := by
  intro l
  induction l with
  | nil => intro k listed a w _ hB h; exact ⟨by simpa [Region.seqB] using hB, h⟩
  | cons o l ih =>
    intro k listed a w hl hB h
    have h0 : ops[k]? = some o := (hl 0).symm
    simp only [List.length_cons, Region.seqB, Bool.and_eq_true, decide_eq_true_eq] at hB
    refine ⟨fun h1 => (by rw [hB.1] at h1; cases h1), fun i hi => ?_⟩
    obtain rfl : i = k := by rw [hB.1] at hi; simpa using hi
    have hw : wpOpIn F m P ops Q i (wpListIn F m P ops Q l) a w := by unfold wpOpIn; simp only [h0]; exact h
    exact wpOpIn_mono (fun a' w' h' => ih (i + 1) _ a' w' (fun j => by have h1 := hl (j + 1); rw [List.getElem?_cons_succ] at h1; rw [h1, show i + (j + 1) = i + 1 + j by omega]) hB.2 h') hw
theorem regionIn_quiet_tail {id : Nat} {a : Act} {w : World} {l : List Oper} (n : Nat) (hF : ∀ f, F.fn f) (hd : F.depth = none) (hc : ∀ f args w R, Calls P f args w R → CallsIn F (m - 1) P f args w R)
    (hm : P.follows .mixedOrders = true) (hB : Region.lexTailB .any l.toArray n = true) (hnd : ∀ (o : Oper), o ∈ l → ∀ c, o.op ≠ .defer c)
    (h : wpQuiet P l.toArray (fun w' => ∃ k, w' = w.drewN k) (fun a' => ∀ w', (∃ k, w' = w.drewN k) → wpListIn F m P l.toArray Q (l.drop n) a' w') (l.take n) a) : (Code.region id l.toArray true).wpIn F m P Q a w := by
  obtain ⟨hn, H⟩ := head_of_lex n hB h
  refine wpIn_region_any hm ?_
  have hA := anyIn_of_head (Q := Q) (g := l.length - n) (C := fun w' => ∃ k, w' = w.drewN k) hF hd hc (fun j o ho => hnd o (List.mem_of_getElem? (by simpa using ho))) (fun listed a' w' hw' hL => by
    have h1 := anyIn_of_seq (md := .any) (Q := Q) (l.drop n) n listed a' w' (fun j => by simp [List.getElem?_drop]) (by rw [List.length_drop]; exact hL.1) (hL.2 w' hw')
    rwa [List.length_drop] at h1) n _ a w.drew ⟨1, rfl⟩ H
  rw [show n + (l.length - n) = l.length by omega] at hA
  simpa using hA
/-- In a round of the wide fence. -/
theorem round_quiet_tail {id lp : Nat} {a : Act} {w : World} {l : List Oper} (n : Nat) (hm : P.follows .mixedOrders = true) (hB : Region.lexTailB .any l.toArray n = true) (hnd : ∀ (o : Oper), o ∈ l → ∀ c, o.op ≠ .defer c)
    (h : wpQuiet P l.toArray (fun w' => ∃ k, w' = w.drewN k) (fun a' => ∀ w', (∃ k, w' = w.drewN k) → wpListIn (Fence.wide.inRound lp) m P l.toArray Q (l.drop n) a' w') (l.take n) a) : (Code.region id l.toArray true).wpIn (Fence.wide.inRound lp) m P Q a w :=
  regionIn_quiet_tail n (fun _ => trivial) rfl (fun _ _ _ _ hC => CallsIn.inRound lp (callsIn_wide.2 hC)) hm hB hnd h
/-- In the wide fence, outside a round. -/
theorem wide_quiet_tail {id : Nat} {a : Act} {w : World} {l : List Oper} (n : Nat) (hm : P.follows .mixedOrders = true) (hB : Region.lexTailB .any l.toArray n = true) (hnd : ∀ (o : Oper), o ∈ l → ∀ c, o.op ≠ .defer c)
    (h : wpQuiet P l.toArray (fun w' => ∃ k, w' = w.drewN k) (fun a' => ∀ w', (∃ k, w' = w.drewN k) → wpListIn Fence.wide m P l.toArray Q (l.drop n) a' w') (l.take n) a) : (Code.region id l.toArray true).wpIn Fence.wide m P Q a w :=
  regionIn_quiet_tail n (fun _ => trivial) rfl (fun _ _ _ _ hC => callsIn_wide.2 hC) hm hB hnd h
end
end
section
set_option linter.unusedSimpArgs false
set_option linter.unusedVariables false
section
variable {P : Program} {ops : Array Oper} {md : Region.Mode} {Q : Exit → Act → World → Prop} {S : World → Prop}
/-- Any order from here on; what is held is held behind each operation ahead of number n. -/
def AnyZ (P : Program) (md : Region.Mode) (ops : Array Oper) (Q : Exit → Act → World → Prop) (S : World → Prop) (n : Nat) (f : Nat) (listed : Array Bool) (a : Act) (w : World) : Prop :=
  match f with
  | 0 => Region.ready md ops listed = [] ∧ Q .normal a w
  | f + 1 => (Region.ready md ops listed = [] → Q .normal a w) ∧ ∀ k ∈ Region.ready md ops listed, wpOp P ops Q k (fun b u => (k < n → S u) ∧ AnyZ P md ops Q S n f (listed.setIfInBounds k true) b u) a w
theorem any_of_Z {n : Nat} (f : Nat) : ∀ (listed : Array Bool) (a : Act) (w : World), AnyZ P md ops Q S n f listed a w → wpAny P md ops Q f listed a w := by
  induction f with
  | zero => intro _ _ _ h; exact h
  | succ f ih => intro _ _ _ h; exact ⟨h.1, fun k hk => wpOp_mono (fun b u hb => ih _ b u hb.2) (h.2 k hk)⟩
/-- What the region is asked, by a computation. -/
def zB (md : Region.Mode) (ops : Array Oper) (n : Nat) : Bool := Region.noSelect ops && decide (n < ops.size) && Region.sinkB md ops n && Region.chainB md ops n
theorem zB_spec {n : Nat} (h : zB md ops n = true) : Region.noSelect ops = true ∧ n < ops.size ∧ Region.sinkB md ops n = true ∧ Region.chainB md ops n = true := by
  simp only [zB, Bool.and_eq_true, decide_eq_true_eq] at h
  exact ⟨h.1.1.1, h.1.1.2, h.1.2, h.2⟩
theorem z_first {n i : Nat} {oi : Oper} {v : Value} (hB : zB md ops n = true) (hi : ops[i]? = some oi) (hin : i < n) (hQ : ∀ c a w, Q (.panic c) (a.put oi.dst v) w → Q (.panic c) a w) (f : Nat) :
    ∀ (listed : Array Bool) (a : Act) (w : World), HeadInv md ops n listed →
      (∀ j oj, ops[j]? = some oj → j ≠ i → listed.getD j true = false → (∀ e ∈ oj.after, Region.binds md e = true → e.on ≠ i) → oi.apart ops oj = true) →
      i ∈ Region.ready md ops listed → YieldsIf P ops S oi v a → S w → AnyZ P md ops Q S n f (listed.setIfInBounds i true) (a.put oi.dst v) w → AnyZ P md ops Q S n (f + 1) listed a w := by
  obtain ⟨hsel0, hn, hs, hc⟩ := zB_spec hB
  have hsel := Region.noSelect_spec hsel0
  have now : ∀ (g : Nat) (listed : Array Bool) (a : Act) (w : World), YieldsIf P ops S oi v a → S w → AnyZ P md ops Q S n g (listed.setIfInBounds i true) (a.put oi.dst v) w →
      wpOp P ops Q i (fun b u => (i < n → S u) ∧ AnyZ P md ops Q S n g (listed.setIfInBounds i true) b u) a w := fun g listed a w hy hS H => hy.wpOp hi hS ⟨fun _ => hS, H⟩
  induction f with
  | zero =>
    intro listed a w _ _ hr hy hS H
    refine ⟨fun h0 => absurd hr (by rw [h0]; simp), fun k hk => ?_⟩
    rcases Nat.decEq k i with hki | hki
    · exact absurd (ready_mono hk hki) (by rw [H.1]; simp)
    · subst hki; exact now 0 listed a w hy hS H
  | succ f ih =>
    intro listed a w inv hfree hr hy hS H
    have hun := (mem_ready.1 hr).1
    refine ⟨fun h0 => absurd hr (by rw [h0]; simp), fun k hk => ?_⟩
    rcases Nat.decEq k i with hki | hki
    rotate_left
    · subst hki; exact now (f + 1) listed a w hy hS H
    have hkn : k < n := Nat.lt_of_not_le fun h => tail_waits hs hc hn inv _ i rfl hin hun k h hk
    obtain ⟨hkun, ok, hok, hall⟩ := mem_ready.1 hk
    have hno : ∀ e ∈ ok.after, Region.binds md e = true → e.on ≠ i := fun e he hb heq => by
      have h1 := hall e he hb
      rw [heq, getD_both hun] at h1; cases h1
    have hput := wpOp_putIf hok (hfree k ok hok hki hkun hno) (fun cs b => hsel i oi cs b hi) (fun cs b => hsel k ok cs b hok) hQ hy (H.2 k (ready_mono hk hki))
    refine wpOp_mono (fun b u hb => ⟨hb.2.1, ih _ b u (inv.set hk hkn) (fun j oj hj hji hju hjo => hfree j oj hj hji ?_ hjo) (ready_mono hr (Ne.symm hki)) hb.1 (hb.2.1 hkn) ?_⟩) hput
    · by_cases hkj : k = j
      · subst hkj; exact hkun
      · rwa [getD_set_ne true hkj] at hju
    · rw [Array.setIfInBounds_comm _ _ hki]; exact hb.2.2
variable {l : List Oper} {n f : Nat} {listed : Array Bool} {a : Act} {w : World}
theorem blt_ltz {i n : Nat} (h : Nat.blt i n = true) : i < n := Nat.le_of_ble_eq_true h
theorem at_toArrayz {i : Nat} (h : i < l.length) : l.toArray[i]? = some l[i] := by simp [h]
theorem z_take (i : Nat) (hlen : Nat.blt i l.length = true) {v : Value} (hB : zB md l.toArray n = true) (hin : Nat.blt i n = true) (hf : Region.free md l.toArray listed i = true) (hr : (Region.ready md l.toArray listed).contains i = true)
    (hQ : ∀ c a w, Q (.panic c) (a.put (l[i]'(blt_ltz hlen)).dst v) w → Q (.panic c) a w) (hw : Region.wanted (l[i]'(blt_ltz hlen)) (yielded l.toArray a.tmps) = true)
    (hy : ∀ w, S w → (execOp a.eval (l[i]'(blt_ltz hlen))).run P w = .ok (.value v) w) (hS : S w) (inv : HeadInv md l.toArray n listed)
    (h : HeadInv md l.toArray n (listed.setIfInBounds i true) → AnyZ P md l.toArray Q S n f (listed.setIfInBounds i true) (a.put (l[i]'(blt_ltz hlen)).dst v) w) : AnyZ P md l.toArray Q S n (f + 1) listed a w := by
  have hrm : i ∈ Region.ready md l.toArray listed := by simpa using hr
  exact z_first hB (at_toArrayz (blt_ltz hlen)) (blt_ltz hin) hQ f listed a w inv (Region.free_spec (at_toArrayz (blt_ltz hlen)) hf) hrm (Or.inl ⟨hw, hy⟩) hS (h (inv.set hrm (blt_ltz hin)))
theorem z_ready (i : Nat) (hlen : Nat.blt i l.length = true) (hin : Nat.blt i n = true) (hr : Region.ready md l.toArray listed = [i]) (inv : HeadInv md l.toArray n listed)
    (h : ∀ K' : Act → World → Prop, Shut (∀ a w, S w → (S w → HeadInv md l.toArray n (listed.setIfInBounds i true) → AnyZ P md l.toArray Q S n f (listed.setIfInBounds i true) a w) → K' a w) → if Region.wanted (l[i]'(blt_ltz hlen)) (yielded l.toArray a.tmps) = true then Oper.wp P (l[i]'(blt_ltz hlen)) a w K' Q else K' (a.put (l[i]'(blt_ltz hlen)).dst undef) w) :
    AnyZ P md l.toArray Q S n (f + 1) listed a w := by
  refine ⟨fun h0 => (by rw [hr] at h0; cases h0), fun k hk => ?_⟩
  have hki : k = i := by rw [hr] at hk; simpa using hk
  have hinv := inv.set hk (by rw [hki]; exact blt_ltz hin)
  subst hki
  exact wpOp_step (at_toArrayz (blt_ltz hlen)) (fun K' hK => h K' (fun a w hS hW => hK a w ⟨fun _ => hS, hW hS hinv⟩))
theorem z_last (i : Nat) (hlen : Nat.blt i l.length = true) (hin : n = i) (hr : Region.ready md l.toArray listed = [i]) (hd : Region.ready md l.toArray (listed.setIfInBounds i true) = [])
    (h : ∀ K' : Act → World → Prop, Shut (∀ a w, Q .normal a w → K' a w) → if Region.wanted (l[i]'(blt_ltz hlen)) (yielded l.toArray a.tmps) = true then Oper.wp P (l[i]'(blt_ltz hlen)) a w K' Q else K' (a.put (l[i]'(blt_ltz hlen)).dst undef) w) :
    AnyZ P md l.toArray Q S n (f + 1) listed a w := by
  refine ⟨fun h0 => (by rw [hr] at h0; cases h0), fun k hk => ?_⟩
  have hki : k = i := by rw [hr] at hk; simpa using hk
  subst hki
  refine wpOp_step (at_toArrayz (blt_ltz hlen)) (fun K' hK => h K' (fun a w hQ => hK a w ⟨fun hlt => (by omega), ?_⟩))
  cases f with
  | zero => exact ⟨hd, hQ⟩
  | succ f => exact ⟨fun _ => hQ, fun j hj => (by rw [hd] at hj; cases hj)⟩
theorem wp_region_Z (n : Nat) {id : Nat} (hm : P.follows .mixedOrders = true) (hS : S w.drew)
    (h : S w.drew → HeadInv .any l.toArray n (Array.replicate l.toArray.size false) → AnyZ P .any l.toArray Q S n l.toArray.size (Array.replicate l.toArray.size false) a w.drew) : (Code.region id l.toArray true).wp P Q a w :=
  wp_region_any hm (any_of_Z _ _ _ _ (h hS ⟨by simp, fun j oj _ hl => (by rw [getD_replicate_false] at hl; cases hl), fun t _ ht => getD_in (by simpa using ht) (getD_replicate_false _ _)⟩))
end
end
section
set_option linter.unusedSimpArgs false
set_option linter.unusedVariables false
open Go.RowKit
theorem region_cls_tail {P : Program} {Q : Exit → Act → World → Prop} {I : Type} (W : I → World) {id : Nat} {a : Act} {w : World} {l : List Oper} (n : Nat) (hm : P.follows .mixedOrders = true) (hB : Region.lexTailB .any l.toArray n = true) (h0 : ∃ k, w.drew = W k)
    (h : wpQuiet P l.toArray (fun w' => ∃ k, w' = W k) (fun a' => ∀ w', (∃ k, w' = W k) → wpList P l.toArray Q (l.drop n) a' w') (l.take n) a) : (Code.region id l.toArray true).wp P Q a w := by
  obtain ⟨hn, H⟩ := head_of_lex n hB h
  refine wp_region_any hm ?_
  have hA := any_of_head (Q := Q) (g := l.length - n) (C := fun w' => ∃ k, w' = W k) (fun listed a' w' hw' hL => by
    have h1 := wpAny_of_seq (md := .any) (Q' := Q) (l.drop n) n listed a' w' (fun j => by simp [List.getElem?_drop]) (by rw [List.length_drop]; exact hL.1) (hL.2 w' hw')
    rwa [List.length_drop] at h1) n _ a w.drew h0 H
  rw [show n + (l.length - n) = l.length by omega] at hA
  simpa using hA
end
end Go.Proofs.Yteepaoklibflpaa
