/-
  A range over an iterator whose elements are known by their numbers, and which reads between two rounds memory that the body may write: what the iterator needs of the world is asked of the caller's own invariant. No function of the program is named here.
-/
import Derived.RangeFuncNested
namespace Go.Proofs.Ytfoomffbjjcjjaa
set_option linter.unusedSimpArgs false
set_option linter.unusedVariables false
open Go.RowKit
/-- The iterator tells el 0, el 1 .. up to m of them, as long as the world is, ahead of the k-th, as it needs it (Nd k). -/
def SeqSays (F : Fence) (n : Nat) (P : Program) (g : Nat) (lb : Array Value) (el : Nat → Array Value) (m : Nat) (Nd : Nat → World → Prop) (w : World) : Prop :=
  ∀ (l : Nat) (J Jx : Nat → World → Prop) (W : World), Below w.heap.size w W → AbidesFrom W.heap.size J → AbidesFrom W.heap.size Jx →
    (∀ k W1, J k W1 → Nd k W1) →
    (∀ k W1, k < m → J k W1 → YieldAt F (n - 1) P l (el k) W1 fun e W' => (e = .returned (.bool true) ∧ J (k + 1) W') ∨ (e = .returned (.bool false) ∧ Jx (k + 1) W')) →
    J 0 W →
    CallsIn F n P g (#[.func (.yield l) #[] #[]] ++ lb) W fun e W' => (∃ v, e = .returned v) ∧ (J m W' ∨ ∃ k, k ≤ m ∧ Jx k W')
theorem SeqSays.later {F : Fence} {n : Nat} {P : Program} {g : Nat} {lb : Array Value} {el : Nat → Array Value} {m : Nat} {Nd : Nat → World → Prop} {w w' : World}
    (h : SeqSays F n P g lb el m Nd w) (hb : Below w.heap.size w w') : SeqSays F n P g lb el m Nd w' :=
  fun l J Jx W hW => h l J Jx W (hb.trans (hW.mono hb.size))
/-- How a round's body may be left. -/
def sayPost (B : Nat) (I : Nat → World → Prop) (Ix : Code → Nat → World → Prop) (k : Nat) (W : World) : Exit → Act → World → Prop
  | .normal, _, W' => KeepsFrom B W W' ∧ I k W'
  | .ret, _, W' => KeepsFrom B W W' ∧ Ix .ret k W'
  | .exit id, _, W' => KeepsFrom B W W' ∧ Ix (.exit id) k W'
  | .goto t, _, W' => KeepsFrom B W W' ∧ Ix (.goto t) k W'
  | .panic _, _, _ => False
  | .outgrown, _, _ => False
/-- The loop's record, as the law lays it. -/
def sayRec (fn : FuncId) (tmps : Array Value) (ps : Array Tmp) (assign body : Code) (B : Nat) (st : LoopState) (pe : Option Code) : Loop :=
  { state := st, pending := pe, fn, tmps, params := ps, assign, body, defers := B }
theorem wpIn_range_says {F : Fence} {n : Nat} {P : Program} {g : Operand} {ps : Array Tmp} {assign body : Code} {Q : Exit → Act → World → Prop} {a : Act} {w : World}
    (hro : F.round = none) (h1 : 1 ≤ n) {gf : Nat} {lb : Array Value} (hg : a.eval g = .func (.func gf) #[] lb) (hFg : F.fn gf) (eg : ∀ args w, (callFunc gf args).run P w = .ok (.enter gf args) w)
    {el : Nat → Array Value} {m : Nat} {Nd : Nat → World → Prop} {w0 : World} (hseq : SeqSays F (n - 1) P gf lb el m Nd w0) (hb0 : Below w0.heap.size w0 w) (hps : ∀ k, (el k).size = ps.size)
    (I : Nat → World → Prop) (Ix : Code → Nat → World → Prop) (hI : OwnFrom w.heap.size I) (hIx : ∀ c, OwnFrom w.heap.size (Ix c)) (hNd : ∀ k W, I k W → Nd k W) (h0 : I 0 w)
    (Ax : Nat → Act → World → Prop) (hAx : ∀ k a', OwnFrom w.heap.size (fun (_ : Unit) W => Ax k a' W))
    (hassign : ∀ (l k : Nat) (W : World) (K : Act → World → Prop), I k W → (∀ a' W', KeepsFrom w.heap.size W W' → I k W' → Ax k a' W' → K a' W') →
      assign.wpIn (F.inRound l) (n - 1 - 1) P (Exit.then K (fun _ _ _ => False)) { tmps := (ps.zip (el k)).foldl (fun t (p, v) => t.setIfInBounds p v) a.tmps, defers := [] } W)
    (hbody : ∀ (l k : Nat) (a' : Act) (W : World), w.heap.size ≤ l → (∃ r, W.heap[l]? = some (.loop r)) → k < m → I k W → Ax k a' W → body.wpIn (F.inRound l) (n - 1 - 1) P (sayPost w.heap.size I Ix (k + 1) W) a' W)
    (hdone : ∀ (D : Nat) (W : World), w.heap.size ≤ D → I m W → W.heap[D]? = some (.deferred (some [])) → Q .normal { a with defers := { target := .collected D, args := #[] } :: a.defers } W)
    (hstop : ∀ (D : Nat) (c : Code) (k : Nat) (W : World), w.heap.size ≤ D → k ≤ m → Ix c k W → W.heap[D]? = some (.deferred (some [])) → c.wpIn F n P Q { a with defers := { target := .collected D, args := #[] } :: a.defers } W) :
    (Code.rangeFunc g ps assign body).wpIn F n P Q a w := by
  refine wpIn_rangeFunc fun fn hfn => ?_
  rw [hro]
  obtain ⟨rec, hrec⟩ : ∃ rec, rec = sayRec fn a.tmps ps assign body w.heap.size := ⟨_, rfl⟩
  have hpar : ∀ st pe, (rec st pe).params = ps := fun st pe => by rw [hrec]; rfl
  have hfnr : ∀ st pe, (rec st pe).fn = fn := fun st pe => by rw [hrec]; rfl
  have htmr : ∀ st pe, (rec st pe).tmps = a.tmps := fun st pe => by rw [hrec]; rfl
  have hasr : ∀ st pe, (rec st pe).assign = assign := fun st pe => by rw [hrec]; rfl
  have hbor : ∀ st pe, (rec st pe).body = body := fun st pe => by rw [hrec]; rfl
  have hstt : ∀ st pe, (rec st pe).state = st := fun st pe => by rw [hrec]; rfl
  have hpen : ∀ st pe, (rec st pe).pending = pe := fun st pe => by rw [hrec]; rfl
  have hwith : ∀ st pe st', { rec st pe with state := st' } = rec st' pe := fun st pe st' => by rw [hrec]; rfl
  have hwith2 : ∀ st pe st' pe', { rec st pe with state := st', pending := pe' } = rec st' pe' := fun st pe st' pe' => by rw [hrec]; rfl
  obtain ⟨B, hB⟩ : ∃ B, B = w.heap.size := ⟨_, rfl⟩
  obtain ⟨W1, hW1⟩ : ∃ W1, W1 = (w.alloc (.deferred (some []))).alloc (.loop (rec .ready none)) := ⟨_, rfl⟩
  have hL1 : W1.heap[B + 1]? = some (.loop (rec .ready none)) := by
    rw [hW1, hB]; have := World.alloc_heap_new (w.alloc (.deferred (some []))) (.loop (rec .ready none)); rwa [World.size_alloc] at this
  have hD1 : W1.heap[B]? = some (.deferred (some [])) := by
    rw [hW1, hB]; exact (Below.heap_alloc _ _ _ (by simp)).trans (World.alloc_heap_new w _)
  have hsz1 : W1.heap.size = B + 1 + 1 := by rw [hW1, hB]; simp
  have hI1 : I 0 W1 := by rw [hW1]; exact hI.alloc _ (hI.alloc _ h0)
  have hb1 : Below w0.heap.size w0 W1 := by
    rw [hW1]; exact hb0.trans ((((Below.refl _ w).alloc (Nat.le_refl _) _).alloc (by simp) _).mono hb0.size)
  refine ⟨B + 1, [{ target := .collected B, args := #[] }], W1, { target := .fn (.func gf) lb, args := #[.func (.yield (B + 1)) #[] #[]] }, W1, gf,
    #[.func (.yield (B + 1)) #[] #[]] ++ lb, W1, by rw [hW1, hrec, hB]; exact run_enterLoop_outer _ _ _ _ _, by simp only [resolve, hg]; simp [go_sem], fun f' hf' => by simp [Target.leads] at hf'; subst hf'; exact hFg, by simp [invoke, go_sem, eg], fun _ => h1, ?_⟩
  clear hW1
  -- the books: the record, the block of the rounds' deferred calls
  have hrows : ∀ {A C : World} {row : Option Nat}, A.grownBy C row → (∀ r, row = some r → W1.heap.size ≤ r ∧ ∃ o : Obj, A.heap[r]? = some o ∧ o.isWalk = true) →
      (∀ r, row = some r → w.heap.size ≤ r ∧ ∃ o : Obj, A.heap[r]? = some o ∧ o.isCells = false) ∧ (∀ k o, k < B + 1 + 1 → A.heap[k]? = some o → C.heap[k]? = some o) := by
    intro A C row hg' hr
    refine ⟨fun r e => ?_, fun k o hk ho => ?_⟩
    · obtain ⟨h1, o, ho, hw⟩ := hr r e
      exact ⟨by rw [← hB]; omega, o, ho, Obj.not_cells_of_walk hw⟩
    · rw [hg'.block k (Array.getElem?_eq_some_iff.1 ho).1 fun e => by have := (hr k e.symm).1; omega]; exact ho
  refine (hseq (B + 1)
    (fun k W => I k W ∧ W.heap[B + 1]? = some (.loop (rec .ready none)) ∧ W.heap[B]? = some (.deferred (some [])))
    (fun k W => ∃ c, Ix c k W ∧ W.heap[B + 1]? = some (.loop (rec .done (some c))) ∧ W.heap[B]? = some (.deferred (some [])))
    W1 hb1
    (fun s A C row hs hg' hr => ⟨hI s A C row hs.1 hg' (hrows hg' hr).1, (hrows hg' hr).2 _ _ (by omega) hs.2.1, (hrows hg' hr).2 _ _ (by omega) hs.2.2⟩)
    (fun s A C row hs hg' hr => by
      obtain ⟨c, hc, hl, hk⟩ := hs
      exact ⟨c, hIx c s A C row hc hg' (hrows hg' hr).1, (hrows hg' hr).2 _ _ (by omega) hl, (hrows hg' hr).2 _ _ (by omega) hk⟩)
    (fun k W hj => hNd k W hj.1) ?_ ⟨hI1, hL1, hD1⟩).mono ?_
  · rintro k W hkm ⟨hi, hl, hk⟩
    have hy := run_yield (P := P) (args := el k) hl (by rw [hpar]; exact hps k)
    rw [hfnr, htmr, hasr, hbor, hpar] at hy
    refine ⟨_, _, _, _, hy, roundIn_of_wpIn hfn ?_⟩
    refine hassign _ k W _ hi ?_
    intro a' Wa hka hia hax
    have hla := hka.same _ _ (by rw [← hB]; omega) hl rfl
    have hda := hka.same _ _ (by rw [← hB]; omega) hk rfl
    have hlta : B + 1 < Wa.heap.size := (Array.getElem?_eq_some_iff.1 hla).1
    refine ⟨_, run_beginRound hla (hstt _ _), ?_⟩
    rw [hwith]
    obtain ⟨Wb, hWb⟩ : ∃ Wb, Wb = Wa.putObj (B + 1) (.loop (rec .busy none)) := ⟨_, rfl⟩
    have hlb : Wb.heap[B + 1]? = some (.loop (rec .busy none)) := by rw [hWb]; exact World.putObj_heap_same hlta
    have hdb : Wb.heap[B]? = some (.deferred (some [])) := by rw [hWb]; exact (World.putObj_heap_other (by omega)).trans hda
    have hib : I k Wb := by rw [hWb]; exact hI.putObj _ hia (by rw [← hB]; omega) hla rfl
    have haxb : Ax k a' Wb := by rw [hWb]; exact (hAx k a').putObj (s := ()) _ hax (by rw [← hB]; omega) hla rfl
    rw [← hWb]
    refine wpIn_mono (hbody _ k a' Wb (by rw [← hB]; omega) ⟨_, hlb⟩ hkm hib haxb) ?_
    clear hWb
    have fin : ∀ (jump : Option Code) (Wc : World), KeepsFrom w.heap.size Wb Wc →
        (Instr.endRound (B + 1) jump).run P Wc = .ok (.bool jump.isNone) (Wc.putObj (B + 1) (.loop (rec (if jump.isNone then .ready else .done) jump))) ∧
        Wc.heap[B + 1]? = some (.loop (rec .busy none)) ∧
        (Wc.putObj (B + 1) (.loop (rec (if jump.isNone then .ready else .done) jump))).heap[B + 1]? = some (.loop (rec (if jump.isNone then .ready else .done) jump)) ∧
        (Wc.putObj (B + 1) (.loop (rec (if jump.isNone then .ready else .done) jump))).heap[B]? = some (.deferred (some [])) := fun jump Wc hkc => by
      have hlc := hkc.same _ _ (by rw [← hB]; omega) hlb rfl
      have h2 := run_endRound (P := P) jump hlc
      rw [hwith2] at h2
      exact ⟨h2, hlc, World.putObj_heap_same (Array.getElem?_eq_some_iff.1 hlc).1, (World.putObj_heap_other (by omega)).trans (hkc.same _ _ (by rw [← hB]; omega) hdb rfl)⟩
    rintro e a3 Wc hp
    cases e with
    | normal =>
      obtain ⟨hkc, hic⟩ := hp
      obtain ⟨hr, hlc, hlc2, hdc⟩ := fin none Wc hkc
      exact ⟨_, _, hr, .inl ⟨rfl, hI.putObj _ hic (by rw [← hB]; omega) hlc rfl, hlc2, hdc⟩⟩
    | ret =>
      obtain ⟨hkc, hic⟩ := hp
      obtain ⟨hr, hlc, hlc2, hdc⟩ := fin (some .ret) Wc hkc
      exact ⟨_, _, hr, .inr ⟨rfl, .ret, (hIx _).putObj _ hic (by rw [← hB]; omega) hlc rfl, hlc2, hdc⟩⟩
    | exit id =>
      obtain ⟨hkc, hic⟩ := hp
      obtain ⟨hr, hlc, hlc2, hdc⟩ := fin (some (.exit id)) Wc hkc
      exact ⟨_, _, hr, .inr ⟨rfl, .exit id, (hIx _).putObj _ hic (by rw [← hB]; omega) hlc rfl, hlc2, hdc⟩⟩
    | goto t =>
      obtain ⟨hkc, hic⟩ := hp
      obtain ⟨hr, hlc, hlc2, hdc⟩ := fin (some (.goto t)) Wc hkc
      exact ⟨_, _, hr, .inr ⟨rfl, .goto t, (hIx _).putObj _ hic (by rw [← hB]; omega) hlc rfl, hlc2, hdc⟩⟩
    | panic ch => exact hp.elim
    | outgrown => exact hp.elim
  · rintro e W2 ⟨⟨v, rfl⟩, (⟨hi, hl, hk⟩ | ⟨k, hkm, c, hi, hl, hk⟩)⟩
    · have he := run_endLoop (P := P) hl (by rw [hstt]; simp)
      rw [hpen] at he
      refine ⟨none, _, he, ?_⟩
      rw [hB] at hl hk ⊢
      exact hdone _ _ (Nat.le_refl _) (hI.putObj _ hi (by omega) hl rfl) ((World.putObj_heap_other (by omega)).trans hk)
    · have he := run_endLoop (P := P) hl (by rw [hstt]; simp)
      rw [hpen] at he
      refine ⟨some c, _, he, ?_⟩
      rw [hB] at hl hk ⊢
      exact hstop _ c k _ (Nat.le_refl _) hkm ((hIx c).putObj _ hi (by omega) hl rfl) ((World.putObj_heap_other (by omega)).trans hk)
end Go.Proofs.Ytfoomffbjjcjjaa
