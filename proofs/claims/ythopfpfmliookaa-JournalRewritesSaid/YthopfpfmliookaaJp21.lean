/-
  What the program's frames are asked to do, they do.
  What a journal's own functions call: the program's disks and frames, in this seat; disks that nobody made.
  A range over an iterator whose elements are known by their numbers, and which reads between two rounds memory that the body may write: what the iterator needs of the world is asked of the caller's own invariant. No function of the program is named here.
  A region that draws its order: a head that reads and calls quietly (its callees may draw), a tail whose order is forced; outside a round and inside one. No program is named here.
-/
import Derived.Test.YthopfpfmliookaaJp15
import Derived.Test.YthopfpfmliookaaJp20
import Derived.Test.YthopfpfmliookaaJp11
import Derived.Test.YthopfpfmliookaaJp14
import Derived.RangeFuncNested
import Derived.StillTail
import Derived.Deep.Quiet
import Derived.OrdersIn
import Derived.RangeFuncCalls
import Derived.OwnWalkIn
namespace Go.Proofs.Ythopfpfmliookaa
section
open Go.RowKit Sha
theorem frameOK : FrameOK :=
  ⟨fun zs n p cap w hn h => fput_any zs n p cap w hn h, fun l p n c w h hn => fjoins_any l p n c w h hn,
   fun n w h => (fsize_any n w h).mono fun e w' ⟨he, hw⟩ => ⟨he, by rw [← hw]; exact Below.refl _ _⟩,
   fun zs n p cap w hn h hs => fsplit_any zs n p cap w hn h hs⟩
end
section
set_option linter.unusedSimpArgs false
set_option linter.unusedVariables false
open Go.RowKit Sha Dsk Jrn
theorem disksFew : DisksFew ProgDisk where
  held := progHeldD
  ok := fun h => by obtain ⟨_, _, _, h⟩ := h; exact h.ok
  new := fun n w hn => pdnew_any n w hn
  fuse := fun b fp s n w h hn => pfuse_any b fp s n w h hn
  crash := fun b fp s n w h hn => pcrash_any b fp s n w h hn
theorem z8none_any (p : Option Addr) (w : World) (h : NoDisk8 p w) :
    Calls Try.prog 42 #[.pointer p] w fun e w' => e = .returned (.bool true) ∧ w' = w := by
  cases p with
  | none =>
    go_enter Try.func42, Try.ntmps42
    go_wp2_with fail
    go_ret
    exact ⟨rfl, rfl⟩
  | some a =>
    obtain ⟨b, rfl, hb⟩ := h a rfl
    have c0 : w.cell? ⟨b, 0, none⟩ = some (.pointer none) := hb.cell 0
    have hq := run_neq_ptr_nilD (P := Try.prog) ⟨b, 0, none⟩ Try.underlying25
    clear h hb
    go_enter Try.func42, Try.ntmps42
    go_wp2_with fail
    go_ret
    exact ⟨rfl, rfl⟩
theorem z8barred_any (p : Option Addr) (w : World) (h : NoDisk8 p w) :
    Calls Try.prog 48 #[.pointer p] w fun e w' => e = .returned (i64v 1) ∧ w' = w := by
  have HC := Lib.hid (z8none_any p w h)
  clear h
  go_enter Try.func48, Try.ntmps48
  go_wp2_with fail
  refine HC.out.mono ?_
  rintro e w1 ⟨rfl, rfl⟩
  go_wp2_with fail
  go_ret
  exact ⟨rfl, rfl⟩
theorem z8read_any (p : Option Addr) (w : World) (h : NoDisk8 p w) :
    Calls Try.prog 38 #[.pointer p] w fun e w' => e = .returned (.tuple #[.slice none 0 0, i64v 1]) ∧ w' = w := by
  have HC := Lib.hid (z8barred_any p w h)
  clear h
  go_enter Try.func38, Try.ntmps38
  go_wp2_with fail
  refine HC.out.mono ?_
  rintro e w1 ⟨rfl, rfl⟩
  go_wp2_with fail
  go_ret2
  exact ⟨rfl, rfl⟩
end
section
set_option linter.unusedSimpArgs false
set_option linter.unusedVariables false
open Go.RowKit
/-- The iterator tells el 0, el 1 .. up to m of them, as long as the world is, ahead of the k-th, as it needs it (Nd k). -/
def SeqSays (F : Fence) (n : Nat) (P : Program) (g : Nat) (lb : Array Value) (el : Nat → Array Value) (m : Nat) (Nd : Nat → World → Prop) (w : World) : Prop :=
  ∀ (l : Nat) (J Jx : Nat → World → Prop) (W : World), Below w.heap.size w W → AbidesFrom W.heap.size J → AbidesFrom W.heap.size Jx →
    (∀ k W1, J k W1 → Nd k W1) →
    (∀ k W1, k < m → J k W1 → YieldAt F (n - 1) P l (el k) W1 fun e W' => (e = .returned (.bool true) ∧ J (k + 1) W') ∨ (e = .returned (.bool false) ∧ Jx (k + 1) W')) →
    J 0 W →
    CallsIn F n P g (#[.func (.yield l) #[] #[]] ++ lb) W fun e W' => (∃ v, e = .returned v) ∧ (J m W' ∨ ∃ k, k ≤ m ∧ Jx k W')
theorem SeqSays.later {F : Fence} {n : Nat} {P : Program} {g : Nat} {lb : Array Value} {el : Nat → Array Value} {m : Nat} {Nd : Nat → World → Prop} {w w' : World}
    (h : SeqSays F n P g lb el m Nd w) (hb : Below w.heap.size w w') : SeqSays F n P g lb el m Nd w' :=
  fun l J Jx W hW => h l J Jx W (hb.trans (hW.mono hb.size))
/-- How a round's body may be left. -/
def sayPost (B : Nat) (I : Nat → World → Prop) (Ix : Code → Nat → World → Prop) (k : Nat) (W : World) : Exit → Act → World → Prop
  | .normal, _, W' => KeepsFrom B W W' ∧ I k W'
  | .ret, _, W' => KeepsFrom B W W' ∧ Ix .ret k W'
  | .exit id, _, W' => KeepsFrom B W W' ∧ Ix (.exit id) k W'
  | .goto t, _, W' => KeepsFrom B W W' ∧ Ix (.goto t) k W'
  | .panic _, _, _ => False
  | .outgrown, _, _ => False
/-- The loop's record, as the law lays it. -/
def sayRec (fn : FuncId) (tmps : Array Value) (ps : Array Tmp) (assign body : Code) (B : Nat) (st : LoopState) (pe : Option Code) : Loop :=
  { state := st, pending := pe, fn, tmps, params := ps, assign, body, defers := B }
theorem wpIn_range_says {F : Fence} {n : Nat} {P : Program} {g : Operand} {ps : Array Tmp} {assign body : Code} {Q : Exit → Act → World → Prop} {a : Act} {w : World}
    (hro : F.round = none) (h1 : 1 ≤ n) {gf : Nat} {lb : Array Value} (hg : a.eval g = .func (.func gf) #[] lb) (hFg : F.fn gf) (eg : ∀ args w, (callFunc gf args).run P w = .ok (.enter gf args) w)
    {el : Nat → Array Value} {m : Nat} {Nd : Nat → World → Prop} {w0 : World} (hseq : SeqSays F (n - 1) P gf lb el m Nd w0) (hb0 : Below w0.heap.size w0 w) (hps : ∀ k, (el k).size = ps.size)
    (I : Nat → World → Prop) (Ix : Code → Nat → World → Prop) (hI : OwnFrom w.heap.size I) (hIx : ∀ c, OwnFrom w.heap.size (Ix c)) (hNd : ∀ k W, I k W → Nd k W) (h0 : I 0 w)
    (Ax : Nat → Act → World → Prop) (hAx : ∀ k a', OwnFrom w.heap.size (fun (_ : Unit) W => Ax k a' W))
    (hassign : ∀ (l k : Nat) (W : World) (K : Act → World → Prop), I k W → (∀ a' W', KeepsFrom w.heap.size W W' → I k W' → Ax k a' W' → K a' W') →
      assign.wpIn (F.inRound l) (n - 1 - 1) P (Exit.then K (fun _ _ _ => False)) { tmps := (ps.zip (el k)).foldl (fun t (p, v) => t.setIfInBounds p v) a.tmps, defers := [] } W)
    (hbody : ∀ (l k : Nat) (a' : Act) (W : World), w.heap.size ≤ l → (∃ r, W.heap[l]? = some (.loop r)) → k < m → I k W → Ax k a' W → body.wpIn (F.inRound l) (n - 1 - 1) P (sayPost w.heap.size I Ix (k + 1) W) a' W)
    (hdone : ∀ (D : Nat) (W : World), w.heap.size ≤ D → I m W → W.heap[D]? = some (.deferred (some [])) → Q .normal { a with defers := { target := .collected D, args := #[] } :: a.defers } W)
    (hstop : ∀ (D : Nat) (c : Code) (k : Nat) (W : World), w.heap.size ≤ D → k ≤ m → Ix c k W → W.heap[D]? = some (.deferred (some [])) → c.wpIn F n P Q { a with defers := { target := .collected D, args := #[] } :: a.defers } W) :
    (Code.rangeFunc g ps assign body).wpIn F n P Q a w := by
  refine wpIn_rangeFunc fun fn hfn => ?_
  rw [hro]
  obtain ⟨rec, hrec⟩ : ∃ rec, rec = sayRec fn a.tmps ps assign body w.heap.size := ⟨_, rfl⟩
  have hpar : ∀ st pe, (rec st pe).params = ps := fun st pe => by rw [hrec]; rfl
  have hfnr : ∀ st pe, (rec st pe).fn = fn := fun st pe => by rw [hrec]; rfl
  have htmr : ∀ st pe, (rec st pe).tmps = a.tmps := fun st pe => by rw [hrec]; rfl
  have hasr : ∀ st pe, (rec st pe).assign = assign := fun st pe => by rw [hrec]; rfl
  have hbor : ∀ st pe, (rec st pe).body = body := fun st pe => by rw [hrec]; rfl
  have hstt : ∀ st pe, (rec st pe).state = st := fun st pe => by rw [hrec]; rfl
  have hpen : ∀ st pe, (rec st pe).pending = pe := fun st pe => by rw [hrec]; rfl
  have hwith : ∀ st pe st', { rec st pe with state := st' } = rec st' pe := fun st pe st' => by rw [hrec]; rfl
  have hwith2 : ∀ st pe st' pe', { rec st pe with state := st', pending := pe' } = rec st' pe' := fun st pe st' pe' => by rw [hrec]; rfl
  obtain ⟨B, hB⟩ : ∃ B, B = w.heap.size := ⟨_, rfl⟩
  obtain ⟨W1, hW1⟩ : ∃ W1, W1 = (w.alloc (.deferred (some []))).alloc (.loop (rec .ready none)) := ⟨_, rfl⟩
  have hL1 : W1.heap[B + 1]? = some (.loop (rec .ready none)) := by
    rw [hW1, hB]; have := World.alloc_heap_new (w.alloc (.deferred (some []))) (.loop (rec .ready none)); rwa [World.size_alloc] at this
  have hD1 : W1.heap[B]? = some (.deferred (some [])) := by
    rw [hW1, hB]; exact (Below.heap_alloc _ _ _ (by simp)).trans (World.alloc_heap_new w _)
  have hsz1 : W1.heap.size = B + 1 + 1 := by rw [hW1, hB]; simp
  have hI1 : I 0 W1 := by rw [hW1]; exact hI.alloc _ (hI.alloc _ h0)
  have hb1 : Below w0.heap.size w0 W1 := by
    rw [hW1]; exact hb0.trans ((((Below.refl _ w).alloc (Nat.le_refl _) _).alloc (by simp) _).mono hb0.size)
  refine ⟨B + 1, [{ target := .collected B, args := #[] }], W1, { target := .fn (.func gf) lb, args := #[.func (.yield (B + 1)) #[] #[]] }, W1, gf,
    #[.func (.yield (B + 1)) #[] #[]] ++ lb, W1, by rw [hW1, hrec, hB]; exact run_enterLoop_outer _ _ _ _ _, by simp only [resolve, hg]; simp [go_sem], fun f' hf' => by simp [Target.leads] at hf'; subst hf'; exact hFg, by simp [invoke, go_sem, eg], fun _ => h1, ?_⟩
  clear hW1
  -- the books: the record, the block of the rounds' deferred calls
  have hrows : ∀ {A C : World} {row : Option Nat}, A.grownBy C row → (∀ r, row = some r → W1.heap.size ≤ r ∧ ∃ o : Obj, A.heap[r]? = some o ∧ o.isWalk = true) →
      (∀ r, row = some r → w.heap.size ≤ r ∧ ∃ o : Obj, A.heap[r]? = some o ∧ o.isCells = false) ∧ (∀ k o, k < B + 1 + 1 → A.heap[k]? = some o → C.heap[k]? = some o) := by
    intro A C row hg' hr
    refine ⟨fun r e => ?_, fun k o hk ho => ?_⟩
    · obtain ⟨h1, o, ho, hw⟩ := hr r e
      exact ⟨by rw [← hB]; omega, o, ho, Obj.not_cells_of_walk hw⟩
    · rw [hg'.block k (Array.getElem?_eq_some_iff.1 ho).1 fun e => by have := (hr k e.symm).1; omega]; exact ho
  refine (hseq (B + 1)
    (fun k W => I k W ∧ W.heap[B + 1]? = some (.loop (rec .ready none)) ∧ W.heap[B]? = some (.deferred (some [])))
    (fun k W => ∃ c, Ix c k W ∧ W.heap[B + 1]? = some (.loop (rec .done (some c))) ∧ W.heap[B]? = some (.deferred (some [])))
    W1 hb1
    (fun s A C row hs hg' hr => ⟨hI s A C row hs.1 hg' (hrows hg' hr).1, (hrows hg' hr).2 _ _ (by omega) hs.2.1, (hrows hg' hr).2 _ _ (by omega) hs.2.2⟩)
    (fun s A C row hs hg' hr => by
      obtain ⟨c, hc, hl, hk⟩ := hs
      exact ⟨c, hIx c s A C row hc hg' (hrows hg' hr).1, (hrows hg' hr).2 _ _ (by omega) hl, (hrows hg' hr).2 _ _ (by omega) hk⟩)
    (fun k W hj => hNd k W hj.1) ?_ ⟨hI1, hL1, hD1⟩).mono ?_
  · rintro k W hkm ⟨hi, hl, hk⟩
    have hy := run_yield (P := P) (args := el k) hl (by rw [hpar]; exact hps k)
    rw [hfnr, htmr, hasr, hbor, hpar] at hy
    refine ⟨_, _, _, _, hy, roundIn_of_wpIn hfn ?_⟩
    refine hassign _ k W _ hi ?_
    intro a' Wa hka hia hax
    have hla := hka.same _ _ (by rw [← hB]; omega) hl rfl
    have hda := hka.same _ _ (by rw [← hB]; omega) hk rfl
    have hlta : B + 1 < Wa.heap.size := (Array.getElem?_eq_some_iff.1 hla).1
    refine ⟨_, run_beginRound hla (hstt _ _), ?_⟩
    rw [hwith]
    obtain ⟨Wb, hWb⟩ : ∃ Wb, Wb = Wa.putObj (B + 1) (.loop (rec .busy none)) := ⟨_, rfl⟩
    have hlb : Wb.heap[B + 1]? = some (.loop (rec .busy none)) := by rw [hWb]; exact World.putObj_heap_same hlta
    have hdb : Wb.heap[B]? = some (.deferred (some [])) := by rw [hWb]; exact (World.putObj_heap_other (by omega)).trans hda
    have hib : I k Wb := by rw [hWb]; exact hI.putObj _ hia (by rw [← hB]; omega) hla rfl
    have haxb : Ax k a' Wb := by rw [hWb]; exact (hAx k a').putObj (s := ()) _ hax (by rw [← hB]; omega) hla rfl
    rw [← hWb]
    refine wpIn_mono (hbody _ k a' Wb (by rw [← hB]; omega) ⟨_, hlb⟩ hkm hib haxb) ?_
    clear hWb
    have fin : ∀ (jump : Option Code) (Wc : World), KeepsFrom w.heap.size Wb Wc →
        (Instr.endRound (B + 1) jump).run P Wc = .ok (.bool jump.isNone) (Wc.putObj (B + 1) (.loop (rec (if jump.isNone then .ready else .done) jump))) ∧
        Wc.heap[B + 1]? = some (.loop (rec .busy none)) ∧
        (Wc.putObj (B + 1) (.loop (rec (if jump.isNone then .ready else .done) jump))).heap[B + 1]? = some (.loop (rec (if jump.isNone then .ready else .done) jump)) ∧
        (Wc.putObj (B + 1) (.loop (rec (if jump.isNone then .ready else .done) jump))).heap[B]? = some (.deferred (some [])) := fun jump Wc hkc => by
      have hlc := hkc.same _ _ (by rw [← hB]; omega) hlb rfl
      have h2 := run_endRound (P := P) jump hlc
      rw [hwith2] at h2
      exact ⟨h2, hlc, World.putObj_heap_same (Array.getElem?_eq_some_iff.1 hlc).1, (World.putObj_heap_other (by omega)).trans (hkc.same _ _ (by rw [← hB]; omega) hdb rfl)⟩
    rintro e a3 Wc hp
    cases e with
    | normal =>
      obtain ⟨hkc, hic⟩ := hp
      obtain ⟨hr, hlc, hlc2, hdc⟩ := fin none Wc hkc
      exact ⟨_, _, hr, .inl ⟨rfl, hI.putObj _ hic (by rw [← hB]; omega) hlc rfl, hlc2, hdc⟩⟩
    | ret =>
      obtain ⟨hkc, hic⟩ := hp
      obtain ⟨hr, hlc, hlc2, hdc⟩ := fin (some .ret) Wc hkc
      exact ⟨_, _, hr, .inr ⟨rfl, .ret, (hIx _).putObj _ hic (by rw [← hB]; omega) hlc rfl, hlc2, hdc⟩⟩
    | exit id =>
      obtain ⟨hkc, hic⟩ := hp
      obtain ⟨hr, hlc, hlc2, hdc⟩ := fin (some (.exit id)) Wc hkc
      exact ⟨_, _, hr, .inr ⟨rfl, .exit id, (hIx _).putObj _ hic (by rw [← hB]; omega) hlc rfl, hlc2, hdc⟩⟩
    | goto t =>
      obtain ⟨hkc, hic⟩ := hp
      obtain ⟨hr, hlc, hlc2, hdc⟩ := fin (some (.goto t)) Wc hkc
      exact ⟨_, _, hr, .inr ⟨rfl, .goto t, (hIx _).putObj _ hic (by rw [← hB]; omega) hlc rfl, hlc2, hdc⟩⟩
    | panic ch => exact hp.elim
    | outgrown => exact hp.elim
  · rintro e W2 ⟨⟨v, rfl⟩, (⟨hi, hl, hk⟩ | ⟨k, hkm, c, hi, hl, hk⟩)⟩
    · have he := run_endLoop (P := P) hl (by rw [hstt]; simp)
      rw [hpen] at he
      refine ⟨none, _, he, ?_⟩
      rw [hB] at hl hk ⊢
      exact hdone _ _ (Nat.le_refl _) (hI.putObj _ hi (by omega) hl rfl) ((World.putObj_heap_other (by omega)).trans hk)
    · have he := run_endLoop (P := P) hl (by rw [hstt]; simp)
      rw [hpen] at he
      refine ⟨some c, _, he, ?_⟩
      rw [hB] at hl hk ⊢
      exact hstop _ c k _ (Nat.le_refl _) hkm ((hIx c).putObj _ hi (by omega) hl rfl) ((World.putObj_heap_other (by omega)).trans hk)
end
section
set_option linter.unusedSimpArgs false
set_option linter.unusedVariables false
section
variable {P : Program} {ops : Array Oper} {md : Region.Mode} {C : World → Prop}
/-- The head: as long as it is not through, what may come up is of it, and quiet. -/
def wpHead (P : Program) (md : Region.Mode) (ops : Array Oper) (C : World → Prop) (n : Nat) (L : Array Bool → Act → Prop) : Nat → Array Bool → Act → Prop
  | 0, listed, a => L listed a
  | f + 1, listed, a => Region.ready md ops listed ≠ [] ∧ ∀ i ∈ Region.ready md ops listed, i < n ∧ qOp P ops C i (wpHead P md ops C n L f (listed.setIfInBounds i true)) a
theorem wpHead_first {n i : Nat} {oi : Oper} {v : Value} {L : Array Bool → Act → Prop} (hi : ops[i]? = some oi) (hsel : ∀ (j : Nat) (o : Oper) cs b, ops[j]? = some o → o.op ≠ .select cs b)
    (hs : Region.sinkB md ops n = true) (hc : Region.chainB md ops n = true) (hn : n < ops.size) (hin : i < n) (hdone : ∀ listed a, L listed a → ∀ j ∈ Region.ready md ops listed, n ≤ j) (f : Nat) :
    ∀ (listed : Array Bool) (a : Act), HeadInv md ops n listed →
      (∀ j oj, ops[j]? = some oj → j ≠ i → listed.getD j true = false → (∀ e ∈ oj.after, Region.binds md e = true → e.on ≠ i) → oi.apart ops oj = true) →
      i ∈ Region.ready md ops listed → YieldsIn P ops C oi v a → wpHead P md ops C n L f (listed.setIfInBounds i true) (a.put oi.dst v) → wpHead P md ops C n L (f + 1) listed a := by
  induction f with
  | zero =>
    intro listed a inv _ hr hy H
    have hun := (mem_ready.1 hr).1
    refine ⟨List.ne_nil_of_mem hr, fun j hj => ?_⟩
    have hjn : j < n := Nat.lt_of_not_le fun h => tail_waits hs hc hn inv _ i rfl hin hun j h hj
    by_cases hji : j = i
    · subst hji; exact ⟨hjn, hy.qOp hi H⟩
    · have := hdone _ _ H j (ready_mono hj hji); omega
  | succ f ih =>
    intro listed a inv hfree hr hy H
    have hun := (mem_ready.1 hr).1
    refine ⟨List.ne_nil_of_mem hr, fun j hj => ?_⟩
    have hjn : j < n := Nat.lt_of_not_le fun h => tail_waits hs hc hn inv _ i rfl hin hun j h hj
    by_cases hji : j = i
    · subst hji; exact ⟨hjn, hy.qOp hi H⟩
    · refine ⟨hjn, ?_⟩
      obtain ⟨hjun, oj, hoj, hall⟩ := mem_ready.1 hj
      have hnot : ∀ e ∈ oj.after, Region.binds md e = true → e.on ≠ i := fun e he hb heq => by
        have h1 := hall e he hb
        rw [heq, getD_both hun] at h1; cases h1
      refine qOp_mono (fun a' h3 => ih _ a' (inv.set hj hjn) (fun k ok hk hki hku hno => hfree k ok hk hki ?_ hno) (ready_mono hr (Ne.symm hji)) h3.1 ?_)
        (qOp_put hoj (hfree j oj hoj hji hjun hnot) (fun cs b => hsel i oi cs b hi) (fun cs b => hsel j oj cs b hoj) hy (H.2 j (ready_mono hj hji)).2)
      · by_cases hjk : j = k
        · subst hjk; exact hjun
        · rwa [getD_set_ne true hjk] at hku
      · rw [Array.setIfInBounds_comm _ _ hji]; exact h3.2
theorem wpHead_lex {n g : Nat} {Lq : Act → Prop} (hsel : Region.noSelect ops = true) (hs : Region.sinkB md ops n = true) (hc : Region.chainB md ops n = true) (hn : n < ops.size) :
    ∀ (l : List Oper) (k : Nat) (listed : Array Bool) (a : Act), (∀ j, j < l.length → l[j]? = ops[k + j]?) → k + l.length = n → HeadInv md ops n listed →
      Region.lexHead md ops g l.length k listed = true → wpQuiet P ops C Lq l a → wpHead P md ops C n (fun listed' a' => Region.seqB md ops g n listed' = true ∧ Lq a') l.length listed a := by
  intro l
  induction l with
  | nil =>
    intro k listed a _ hk _ hB h
    simp only [List.length_nil, Nat.add_zero] at hk
    subst hk
    exact ⟨hB, h⟩
  | cons o l ih =>
    intro k listed a hl hk inv hB h
    have h0 : ops[k]? = some o := (hl 0 (by simp)).symm
    simp only [List.length_cons, Region.lexHead, Bool.and_eq_true] at hB hk
    have hr : k ∈ Region.ready md ops listed := by simpa using hB.1.1
    obtain ⟨v, hy, hK⟩ := yieldsIn_of_qOp (C := C) (P := P) (K := wpQuiet P ops C Lq l) h0 (by unfold qOp; simp only [h0]; exact h)
    exact wpHead_first h0 (Region.noSelect_spec hsel) hs hc hn (by omega) (fun _ _ hL => seqB_ready hL.1) l.length listed a inv (Region.free_spec h0 hB.1.2) hr hy
      (ih (k + 1) _ _ (fun j hj => by have h1 := hl (j + 1) (by simp; omega); rw [List.getElem?_cons_succ] at h1; rw [h1, show k + (j + 1) = k + 1 + j by omega]) (by omega) (inv.set hr (by omega)) hB.2 hK)
variable {Q : Exit → Act → World → Prop}
theorem any_of_head {n g : Nat} {L : Array Bool → Act → Prop} (hL : ∀ listed a w, C w → L listed a → wpAny P md ops Q g listed a w) (f : Nat) :
    ∀ (listed : Array Bool) (a : Act) (w : World), C w → wpHead P md ops C n L f listed a → wpAny P md ops Q (f + g) listed a w := by
  induction f with
  | zero => intro listed a w hC h; rw [Nat.zero_add]; exact hL _ _ _ hC h
  | succ f ih =>
    intro listed a w hC h
    rw [show f + 1 + g = f + g + 1 by omega]
    exact ⟨fun h0 => absurd h0 h.1, fun i hi => wpOp_of_qOp hC (fun a' w' hw' h' => ih _ a' w' hw' h') (h.2 i hi).2⟩
/-- What a lexical head comes to. -/
theorem head_of_lex {l : List Oper} {a : Act} {Lq : Act → Prop} (n : Nat) (hB : Region.lexTailB .any l.toArray n = true) (h : wpQuiet P l.toArray C Lq (l.take n) a) :
    n < l.length ∧ wpHead P .any l.toArray C n (fun listed' a' => Region.seqB .any l.toArray (l.length - n) n listed' = true ∧ Lq a') n (Array.replicate l.length false) a := by
  simp only [Region.lexTailB, Bool.and_eq_true, decide_eq_true_eq] at hB
  obtain ⟨⟨⟨⟨hsel, hn⟩, hs⟩, hc⟩, hlex⟩ := hB
  have hn' : n < l.length := by simpa using hn
  have htl : (l.take n).length = n := by rw [List.length_take]; omega
  have inv : HeadInv .any l.toArray n (Array.replicate l.toArray.size false) :=
    ⟨by simp, fun j oj _ hl => (by rw [getD_replicate_false] at hl; cases hl), fun t _ ht => getD_in (by simpa using ht) (getD_replicate_false _ _)⟩
  have H := wpHead_lex (P := P) (C := C) (Lq := Lq) (md := .any) (g := l.toArray.size - n) hsel hs hc hn (l.take n) 0 _ a (fun j hj => by rw [List.getElem?_take_of_lt (by omega)]; simp) (by omega) inv (by rw [htl]; exact hlex) h
  rw [htl] at H
  exact ⟨hn', by simpa using H⟩
theorem region_quiet_tail {id : Nat} {a : Act} {w : World} {l : List Oper} (n : Nat) (hm : P.follows .mixedOrders = true) (hB : Region.lexTailB .any l.toArray n = true)
    (h : wpQuiet P l.toArray (fun w' => ∃ k, w' = w.drewN k) (fun a' => ∀ w', (∃ k, w' = w.drewN k) → wpList P l.toArray Q (l.drop n) a' w') (l.take n) a) : (Code.region id l.toArray true).wp P Q a w := by
  obtain ⟨hn, H⟩ := head_of_lex n hB h
  refine wp_region_any hm ?_
  have hA := any_of_head (Q := Q) (g := l.length - n) (C := fun w' => ∃ k, w' = w.drewN k) (fun listed a' w' hw' hL => by
    have h1 := wpAny_of_seq (md := .any) (Q' := Q) (l.drop n) n listed a' w' (fun j => by simp [List.getElem?_drop]) (by rw [List.length_drop]; exact hL.1) (hL.2 w' hw')
    rwa [List.length_drop] at h1) n _ a w.drew ⟨1, rfl⟩ H
  rw [show n + (l.length - n) = l.length by omega] at hA
  simpa using hA
/-! Inside a fence (a round too). -/
variable {F : Fence} {m : Nat}
theorem wpIn_of_quiet {o : Oper} {a : Act} {K : Act → Prop} {K' : Act → World → Prop} {w : World} (hF : ∀ f, F.fn f) (hd : F.depth = none) (hc : ∀ f args w R, Calls P f args w R → CallsIn F (m - 1) P f args w R) (hnd : ∀ c, o.op ≠ .defer c)
    (hw : C w) (h : ∀ a w', C w' → K a → K' a w') (hh : o.quiet P a C K) : o.wpIn F m P a w K' Q := by
  obtain ⟨v, h1, h2⟩ := hh
  have h3 := h1 w hw
  unfold Oper.quietAt at h3
  unfold Oper.wpIn
  refine ⟨fun f _ => hF f, ?_⟩
  rw [Oper.semAt_plain F _ _ hnd]
  generalize (execOp a.eval o).run P w = r at *
  cases r with
  | ok x w' =>
    cases x <;> simp only [Oper.quietUpon] at h3 <;> simp only [Oper.uponIn]
    case value u => obtain ⟨e1, e2⟩ := h3; rw [e1, e2]; exact h _ _ hw h2
    case skip => obtain ⟨e1, e2⟩ := h3; rw [e1, ← e2]; exact h _ _ hw h2
    case enter f args =>
      obtain ⟨e1, hcc⟩ := h3
      rw [e1]
      exact ⟨fun e => (by rw [hd] at e; cases e), CallsIn.mono (hc _ _ _ _ hcc) (fun e w'' ⟨he, hw''⟩ => by subst he; exact h _ _ hw'' h2)⟩
  | halt x w' => simp only [Oper.quietUpon] at h3
theorem anyIn_of_head {n g : Nat} {L : Array Bool → Act → Prop} (hF : ∀ f, F.fn f) (hd : F.depth = none) (hc : ∀ f args w R, Calls P f args w R → CallsIn F (m - 1) P f args w R) (hnd : ∀ (j : Nat) (o : Oper), ops[j]? = some o → ∀ c, o.op ≠ .defer c)
    (hL : ∀ listed a w, C w → L listed a → wpAnyIn F m P md ops Q g listed a w) (f : Nat) :
    ∀ (listed : Array Bool) (a : Act) (w : World), C w → wpHead P md ops C n L f listed a → wpAnyIn F m P md ops Q (f + g) listed a w := by
  induction f with
  | zero => intro listed a w hC h; rw [Nat.zero_add]; exact hL _ _ _ hC h
  | succ f ih =>
    intro listed a w hC h
    rw [show f + 1 + g = f + g + 1 by omega]
    refine ⟨fun h0 => absurd h0 h.1, fun i hi => ?_⟩
    have hq := (h.2 i hi).2
    unfold qOp at hq
    unfold wpOpIn
    split
    · rename_i ho; simp only [ho] at hq; exact ih _ _ _ hC hq
    · rename_i o ho
      simp only [ho] at hq
      split
      · rename_i hw; simp only [hw, if_true] at hq; exact wpIn_of_quiet hF hd hc (hnd i o ho) hC (fun a' w' hw' h' => ih _ a' w' hw' h') hq
      · rename_i hw; simp only [hw] at hq; exact ⟨fun f _ => hF f, ih _ _ _ hC hq⟩
theorem anyIn_of_seq : ∀ (l : List Oper) (k : Nat) (listed : Array Bool) (a : Act) (w : World), (∀ j, l[j]? = ops[k + j]?) →
    Region.seqB md ops l.length k listed = true → wpListIn F m P ops Q l a w → wpAnyIn F m P md ops Q l.length listed a w := by
  intro l
  induction l with
  | nil => intro k listed a w _ hB h; exact ⟨by simpa [Region.seqB] using hB, h⟩
  | cons o l ih =>
    intro k listed a w hl hB h
    have h0 : ops[k]? = some o := (hl 0).symm
    simp only [List.length_cons, Region.seqB, Bool.and_eq_true, decide_eq_true_eq] at hB
    refine ⟨fun h1 => (by rw [hB.1] at h1; cases h1), fun i hi => ?_⟩
    obtain rfl : i = k := by rw [hB.1] at hi; simpa using hi
    have hw : wpOpIn F m P ops Q i (wpListIn F m P ops Q l) a w := by unfold wpOpIn; simp only [h0]; exact h
    exact wpOpIn_mono (fun a' w' h' => ih (i + 1) _ a' w' (fun j => by have h1 := hl (j + 1); rw [List.getElem?_cons_succ] at h1; rw [h1, show i + (j + 1) = i + 1 + j by omega]) hB.2 h') hw
theorem regionIn_quiet_tail {id : Nat} {a : Act} {w : World} {l : List Oper} (n : Nat) (hF : ∀ f, F.fn f) (hd : F.depth = none) (hc : ∀ f args w R, Calls P f args w R → CallsIn F (m - 1) P f args w R)
    (hm : P.follows .mixedOrders = true) (hB : Region.lexTailB .any l.toArray n = true) (hnd : ∀ (o : Oper), o ∈ l → ∀ c, o.op ≠ .defer c)
    (h : wpQuiet P l.toArray (fun w' => ∃ k, w' = w.drewN k) (fun a' => ∀ w', (∃ k, w' = w.drewN k) → wpListIn F m P l.toArray Q (l.drop n) a' w') (l.take n) a) : (Code.region id l.toArray true).wpIn F m P Q a w := by
  obtain ⟨hn, H⟩ := head_of_lex n hB h
  refine wpIn_region_any hm ?_
  have hA := anyIn_of_head (Q := Q) (g := l.length - n) (C := fun w' => ∃ k, w' = w.drewN k) hF hd hc (fun j o ho => hnd o (List.mem_of_getElem? (by simpa using ho))) (fun listed a' w' hw' hL => by
    have h1 := anyIn_of_seq (md := .any) (Q := Q) (l.drop n) n listed a' w' (fun j => by simp [List.getElem?_drop]) (by rw [List.length_drop]; exact hL.1) (hL.2 w' hw')
    rwa [List.length_drop] at h1) n _ a w.drew ⟨1, rfl⟩ H
  rw [show n + (l.length - n) = l.length by omega] at hA
  simpa using hA
/-- In a round of the wide fence. -/
theorem round_quiet_tail {id lp : Nat} {a : Act} {w : World} {l : List Oper} (n : Nat) (hm : P.follows .mixedOrders = true) (hB : Region.lexTailB .any l.toArray n = true) (hnd : ∀ (o : Oper), o ∈ l → ∀ c, o.op ≠ .defer c)
    (h : wpQuiet P l.toArray (fun w' => ∃ k, w' = w.drewN k) (fun a' => ∀ w', (∃ k, w' = w.drewN k) → wpListIn (Fence.wide.inRound lp) m P l.toArray Q (l.drop n) a' w') (l.take n) a) : (Code.region id l.toArray true).wpIn (Fence.wide.inRound lp) m P Q a w :=
  regionIn_quiet_tail n (fun _ => trivial) rfl (fun _ _ _ _ hC => CallsIn.inRound lp (callsIn_wide.2 hC)) hm hB hnd h
/-- In the wide fence, outside a round. -/
theorem wide_quiet_tail {id : Nat} {a : Act} {w : World} {l : List Oper} (n : Nat) (hm : P.follows .mixedOrders = true) (hB : Region.lexTailB .any l.toArray n = true) (hnd : ∀ (o : Oper), o ∈ l → ∀ c, o.op ≠ .defer c)
    (h : wpQuiet P l.toArray (fun w' => ∃ k, w' = w.drewN k) (fun a' => ∀ w', (∃ k, w' = w.drewN k) → wpListIn Fence.wide m P l.toArray Q (l.drop n) a' w') (l.take n) a) : (Code.region id l.toArray true).wpIn Fence.wide m P Q a w :=
  regionIn_quiet_tail n (fun _ => trivial) rfl (fun _ _ _ _ hC => callsIn_wide.2 hC) hm hB hnd h
end
end
end Go.Proofs.Ythopfpfmliookaa
