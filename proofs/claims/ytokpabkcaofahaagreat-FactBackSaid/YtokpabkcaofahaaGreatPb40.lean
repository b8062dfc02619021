/-
  A range over an iterator whose elements are known by their numbers, and which reads between two rounds memory that the body may write: what the iterator needs of the world is asked of the caller's own invariant. No function of the program is named here.
  What a caller of an iterator owes: small facts. No function of the program is named here.
  The library's iterator over a slice of facts; a state's rows without the object; what a state's doing leaves.
-/
import Derived.RangeFuncNested
import Derived.Test.YtokpabkcaofahaaGreatPb1
import Derived.Deep.QuietTactic
import Derived.BigQuiet
import Derived.BigRegion
import Derived.LaidEql
import Derived.RangeFuncBound
import Derived.RangeFuncBox
import Derived.RangeFuncCalls
import Derived.RangeFuncLeaves
import Derived.Shelf.Abstract
import Derived.Shelf.RegionOpen
import Derived.WalkKit
import Derived.OwnWalkIn
import Derived.TacticsInMore
import Derived.LoopNIn
import Derived.LoopIn
import Derived.Maps.AppendAt
import Derived.Stop.RegionWithIn
import Derived.Sort.BigQuietIn
import Derived.Test.YtokpabkcaofahaaGreatPb39
import Derived.Test.YtokpabkcaofahaaGreatPb12
namespace Go.Proofs.YtokpabkcaofahaaGreat
section
set_option linter.unusedSimpArgs false
set_option linter.unusedVariables false
open Go.RowKit
/-- The iterator tells el 0, el 1 .. up to m of them, as long as the world is, ahead of the k-th, as it needs it (Nd k). -/
def SeqSays (F : Fence) (n : Nat) (P : Program) (g : Nat) (lb : Array Value) (el : Nat → Array Value) (m : Nat) (Nd : Nat → World → Prop) (w : World) : Prop :=
  ∀ (l : Nat) (J Jx : Nat → World → Prop) (W : World), Below w.heap.size w W → AbidesFrom W.heap.size J → AbidesFrom W.heap.size Jx →
    (∀ k W1, J k W1 → Nd k W1) →
    (∀ k W1, k < m → J k W1 → YieldAt F (n - 1) P l (el k) W1 fun e W' => (e = .returned (.bool true) ∧ J (k + 1) W') ∨ (e = .returned (.bool false) ∧ Jx (k + 1) W')) →
    J 0 W →
    CallsIn F n P g (#[.func (.yield l) #[] #[]] ++ lb) W fun e W' => (∃ v, e = .returned v) ∧ (J m W' ∨ ∃ k, k ≤ m ∧ Jx k W')
/-- How a round's body may be left. -/
def sayPost (B : Nat) (I : Nat → World → Prop) (Ix : Code → Nat → World → Prop) (k : Nat) (W : World) : Exit → Act → World → Prop
  | .normal, _, W' => KeepsFrom B W W' ∧ I k W'
  | .ret, _, W' => KeepsFrom B W W' ∧ Ix .ret k W'
  | .exit id, _, W' => KeepsFrom B W W' ∧ Ix (.exit id) k W'
  | .goto t, _, W' => KeepsFrom B W W' ∧ Ix (.goto t) k W'
  | .panic _, _, _ => False
  | .outgrown, _, _ => False
/-- The loop's record, as the law lays it. -/
def sayRec (fn : FuncId) (tmps : Array Value) (ps : Array Tmp) (assign body : Code) (B : Nat) (st : LoopState) (pe : Option Code) : Loop :=
  { state := st, pending := pe, fn, tmps, params := ps, assign, body, defers := B }
theorem wpIn_range_says {F : Fence} {n : Nat} {P : Program} {g : Operand} {ps : Array Tmp} {assign body : Code} {Q : Exit → Act → World → Prop} {a : Act} {w : World}
    (hro : F.round = none) (h1 : 1 ≤ n) {gf : Nat} {lb : Array Value} (hg : a.eval g = .func (.func gf) #[] lb) (hFg : F.fn gf) (eg : ∀ args w, (callFunc gf args).run P w = .ok (.enter gf args) w)
    {el : Nat → Array Value} {m : Nat} {Nd : Nat → World → Prop} {w0 : World} (hseq : SeqSays F (n - 1) P gf lb el m Nd w0) (hb0 : Below w0.heap.size w0 w) (hps : ∀ k, (el k).size = ps.size)
    (I : Nat → World → Prop) (Ix : Code → Nat → World → Prop) (hI : OwnFrom w.heap.size I) (hIx : ∀ c, OwnFrom w.heap.size (Ix c)) (hNd : ∀ k W, I k W → Nd k W) (h0 : I 0 w)
    (Ax : Nat → Act → World → Prop) (hAx : ∀ k a', OwnFrom w.heap.size (fun (_ : Unit) W => Ax k a' W))
    (hassign : ∀ (l k : Nat) (W : World) (K : Act → World → Prop), I k W → (∀ a' W', KeepsFrom w.heap.size W W' → I k W' → Ax k a' W' → K a' W') →
      assign.wpIn (F.inRound l) (n - 1 - 1) P (Exit.then K (fun _ _ _ => False)) { tmps := (ps.zip (el k)).foldl (fun t (p, v) => t.setIfInBounds p v) a.tmps, defers := [] } W)
    (hbody : ∀ (l k : Nat) (a' : Act) (W : World), w.heap.size ≤ l → (∃ r, W.heap[l]? = some (.loop r)) → k < m → I k W → Ax k a' W → body.wpIn (F.inRound l) (n - 1 - 1) P (sayPost w.heap.size I Ix (k + 1) W) a' W)
    (hdone : ∀ (D : Nat) (W : World), w.heap.size ≤ D → I m W → W.heap[D]? = some (.deferred (some [])) → Q .normal { a with defers := { target := .collected D, args := #[] } :: a.defers } W)
    (hstop : ∀ (D : Nat) (c : Code) (k : Nat) (W : World), w.heap.size ≤ D → k ≤ m → Ix c k W → W.heap[D]? = some (.deferred (some [])) → c.wpIn F n P Q { a with defers := { target := .collected D, args := #[] } :: a.defers } W) :
    (Code.rangeFunc g ps assign body).wpIn F n P Q a w := by
  refine wpIn_rangeFunc fun fn hfn => ?_
  rw [hro]
  obtain ⟨rec, hrec⟩ : ∃ rec, rec = sayRec fn a.tmps ps assign body w.heap.size := ⟨_, rfl⟩
  have hpar : ∀ st pe, (rec st pe).params = ps := fun st pe => by rw [hrec]; rfl
  have hfnr : ∀ st pe, (rec st pe).fn = fn := fun st pe => by rw [hrec]; rfl
  have htmr : ∀ st pe, (rec st pe).tmps = a.tmps := fun st pe => by rw [hrec]; rfl
  have hasr : ∀ st pe, (rec st pe).assign = assign := fun st pe => by rw [hrec]; rfl
  have hbor : ∀ st pe, (rec st pe).body = body := fun st pe => by rw [hrec]; rfl
  have hstt : ∀ st pe, (rec st pe).state = st := fun st pe => by rw [hrec]; rfl
  have hpen : ∀ st pe, (rec st pe).pending = pe := fun st pe => by rw [hrec]; rfl
  have hwith : ∀ st pe st', { rec st pe with state := st' } = rec st' pe := fun st pe st' => by rw [hrec]; rfl
  have hwith2 : ∀ st pe st' pe', { rec st pe with state := st', pending := pe' } = rec st' pe' := fun st pe st' pe' => by rw [hrec]; rfl
  obtain ⟨B, hB⟩ : ∃ B, B = w.heap.size := ⟨_, rfl⟩
  obtain ⟨W1, hW1⟩ : ∃ W1, W1 = (w.alloc (.deferred (some []))).alloc (.loop (rec .ready none)) := ⟨_, rfl⟩
  have hL1 : W1.heap[B + 1]? = some (.loop (rec .ready none)) := by
    rw [hW1, hB]; have := World.alloc_heap_new (w.alloc (.deferred (some []))) (.loop (rec .ready none)); rwa [World.size_alloc] at this
  have hD1 : W1.heap[B]? = some (.deferred (some [])) := by
    rw [hW1, hB]; exact (Below.heap_alloc _ _ _ (by simp)).trans (World.alloc_heap_new w _)
  have hsz1 : W1.heap.size = B + 1 + 1 := by rw [hW1, hB]; simp
  have hI1 : I 0 W1 := by rw [hW1]; exact hI.alloc _ (hI.alloc _ h0)
  have hb1 : Below w0.heap.size w0 W1 := by
    rw [hW1]; exact hb0.trans ((((Below.refl _ w).alloc (Nat.le_refl _) _).alloc (by simp) _).mono hb0.size)
  refine ⟨B + 1, [{ target := .collected B, args := #[] }], W1, { target := .fn (.func gf) lb, args := #[.func (.yield (B + 1)) #[] #[]] }, W1, gf,
    #[.func (.yield (B + 1)) #[] #[]] ++ lb, W1, by rw [hW1, hrec, hB]; exact run_enterLoop_outer _ _ _ _ _, by simp only [resolve, hg]; simp [go_sem], fun f' hf' => by simp [Target.leads] at hf'; subst hf'; exact hFg, by simp [invoke, go_sem, eg], fun _ => h1, ?_⟩
  clear hW1
  -- the books: the record, the block of the rounds' deferred calls
  have hrows : ∀ {A C : World} {row : Option Nat}, A.grownBy C row → (∀ r, row = some r → W1.heap.size ≤ r ∧ ∃ o : Obj, A.heap[r]? = some o ∧ o.isWalk = true) →
      (∀ r, row = some r → w.heap.size ≤ r ∧ ∃ o : Obj, A.heap[r]? = some o ∧ o.isCells = false) ∧ (∀ k o, k < B + 1 + 1 → A.heap[k]? = some o → C.heap[k]? = some o) := by
    intro A C row hg' hr
    refine ⟨fun r e => ?_, fun k o hk ho => ?_⟩
    · obtain ⟨h1, o, ho, hw⟩ := hr r e
      exact ⟨by rw [← hB]; omega, o, ho, Obj.not_cells_of_walk hw⟩
    · rw [hg'.block k (Array.getElem?_eq_some_iff.1 ho).1 fun e => by have := (hr k e.symm).1; omega]; exact ho
  refine (hseq (B + 1)
    (fun k W => I k W ∧ W.heap[B + 1]? = some (.loop (rec .ready none)) ∧ W.heap[B]? = some (.deferred (some [])))
    (fun k W => ∃ c, Ix c k W ∧ W.heap[B + 1]? = some (.loop (rec .done (some c))) ∧ W.heap[B]? = some (.deferred (some [])))
    W1 hb1
    (fun s A C row hs hg' hr => ⟨hI s A C row hs.1 hg' (hrows hg' hr).1, (hrows hg' hr).2 _ _ (by omega) hs.2.1, (hrows hg' hr).2 _ _ (by omega) hs.2.2⟩)
    (fun s A C row hs hg' hr => by
      obtain ⟨c, hc, hl, hk⟩ := hs
      exact ⟨c, hIx c s A C row hc hg' (hrows hg' hr).1, (hrows hg' hr).2 _ _ (by omega) hl, (hrows hg' hr).2 _ _ (by omega) hk⟩)
    (fun k W hj => hNd k W hj.1) ?_ ⟨hI1, hL1, hD1⟩).mono ?_
  · rintro k W hkm ⟨hi, hl, hk⟩
    have hy := run_yield (P := P) (args := el k) hl (by rw [hpar]; exact hps k)
    rw [hfnr, htmr, hasr, hbor, hpar] at hy
    refine ⟨_, _, _, _, hy, roundIn_of_wpIn hfn ?_⟩
    refine hassign _ k W _ hi ?_
    intro a' Wa hka hia hax
    have hla := hka.same _ _ (by rw [← hB]; omega) hl rfl
    have hda := hka.same _ _ (by rw [← hB]; omega) hk rfl
    have hlta : B + 1 < Wa.heap.size := (Array.getElem?_eq_some_iff.1 hla).1
    refine ⟨_, run_beginRound hla (hstt _ _), ?_⟩
    rw [hwith]
    obtain ⟨Wb, hWb⟩ : ∃ Wb, Wb = Wa.putObj (B + 1) (.loop (rec .busy none)) := ⟨_, rfl⟩
    have hlb : Wb.heap[B + 1]? = some (.loop (rec .busy none)) := by rw [hWb]; exact World.putObj_heap_same hlta
    have hdb : Wb.heap[B]? = some (.deferred (some [])) := by rw [hWb]; exact (World.putObj_heap_other (by omega)).trans hda
    have hib : I k Wb := by rw [hWb]; exact hI.putObj _ hia (by rw [← hB]; omega) hla rfl
    have haxb : Ax k a' Wb := by rw [hWb]; exact (hAx k a').putObj (s := ()) _ hax (by rw [← hB]; omega) hla rfl
    rw [← hWb]
    refine wpIn_mono (hbody _ k a' Wb (by rw [← hB]; omega) ⟨_, hlb⟩ hkm hib haxb) ?_
    clear hWb
    have fin : ∀ (jump : Option Code) (Wc : World), KeepsFrom w.heap.size Wb Wc →
        (Instr.endRound (B + 1) jump).run P Wc = .ok (.bool jump.isNone) (Wc.putObj (B + 1) (.loop (rec (if jump.isNone then .ready else .done) jump))) ∧
        Wc.heap[B + 1]? = some (.loop (rec .busy none)) ∧
        (Wc.putObj (B + 1) (.loop (rec (if jump.isNone then .ready else .done) jump))).heap[B + 1]? = some (.loop (rec (if jump.isNone then .ready else .done) jump)) ∧
        (Wc.putObj (B + 1) (.loop (rec (if jump.isNone then .ready else .done) jump))).heap[B]? = some (.deferred (some [])) := fun jump Wc hkc => by
      have hlc := hkc.same _ _ (by rw [← hB]; omega) hlb rfl
      have h2 := run_endRound (P := P) jump hlc
      rw [hwith2] at h2
      exact ⟨h2, hlc, World.putObj_heap_same (Array.getElem?_eq_some_iff.1 hlc).1, (World.putObj_heap_other (by omega)).trans (hkc.same _ _ (by rw [← hB]; omega) hdb rfl)⟩
    rintro e a3 Wc hp
    cases e with
    | normal =>
      obtain ⟨hkc, hic⟩ := hp
      obtain ⟨hr, hlc, hlc2, hdc⟩ := fin none Wc hkc
      exact ⟨_, _, hr, .inl ⟨rfl, hI.putObj _ hic (by rw [← hB]; omega) hlc rfl, hlc2, hdc⟩⟩
    | ret =>
      obtain ⟨hkc, hic⟩ := hp
      obtain ⟨hr, hlc, hlc2, hdc⟩ := fin (some .ret) Wc hkc
      exact ⟨_, _, hr, .inr ⟨rfl, .ret, (hIx _).putObj _ hic (by rw [← hB]; omega) hlc rfl, hlc2, hdc⟩⟩
    | exit id =>
      obtain ⟨hkc, hic⟩ := hp
      obtain ⟨hr, hlc, hlc2, hdc⟩ := fin (some (.exit id)) Wc hkc
      exact ⟨_, _, hr, .inr ⟨rfl, .exit id, (hIx _).putObj _ hic (by rw [← hB]; omega) hlc rfl, hlc2, hdc⟩⟩
    | goto t =>
      obtain ⟨hkc, hic⟩ := hp
      obtain ⟨hr, hlc, hlc2, hdc⟩ := fin (some (.goto t)) Wc hkc
      exact ⟨_, _, hr, .inr ⟨rfl, .goto t, (hIx _).putObj _ hic (by rw [← hB]; omega) hlc rfl, hlc2, hdc⟩⟩
    | panic ch => exact hp.elim
    | outgrown => exact hp.elim
  · rintro e W2 ⟨⟨v, rfl⟩, (⟨hi, hl, hk⟩ | ⟨k, hkm, c, hi, hl, hk⟩)⟩
    · have he := run_endLoop (P := P) hl (by rw [hstt]; simp)
      rw [hpen] at he
      refine ⟨none, _, he, ?_⟩
      rw [hB] at hl hk ⊢
      exact hdone _ _ (Nat.le_refl _) (hI.putObj _ hi (by omega) hl rfl) ((World.putObj_heap_other (by omega)).trans hk)
    · have he := run_endLoop (P := P) hl (by rw [hstt]; simp)
      rw [hpen] at he
      refine ⟨some c, _, he, ?_⟩
      rw [hB] at hl hk ⊢
      exact hstop _ c k _ (Nat.le_refl _) hkm ((hIx c).putObj _ hi (by omega) hl rfl) ((World.putObj_heap_other (by omega)).trans hk)
end
section
set_option linter.unusedSimpArgs false
set_option linter.unusedVariables false
open Go.RowKit Go.Shelf
theorem grownBy_below {W W' : World} (h : Below W.heap.size W W') : W.grownBy W' none := ⟨h.os, h.tape, h.output, h.size, fun k hk _ => h.block k hk⟩
theorem keepsOthers_below {W W' : World} (h : Below W.heap.size W W') : KeepsOthers W W' := KeepsOthers.of_grownBy (grownBy_below h) (fun j o e => by cases e)
section
variable {P : Program} {o : Oper} {a : Act} {C : World → Prop} {K : Act → Prop}
end
end
section
set_option linter.unusedSimpArgs false
set_option linter.unusedVariables false
open Go.RowKit Go.Shelf Sha Fct
attribute [local go_sem] Oper.semAt_some
attribute [local go_sem ↓] execOp_loadFact execOp_allocFact execOp_storeFact
def ykF (ys : List (Hd Fac)) (k : Nat) : Hd Fac := ys.getD k (Fct.none_, none, 0)
def tellF (ys : List (Hd Fac)) (k : Nat) : Array Value := #[.agg (fcells (ykF ys k).1 (ykF ys k).2.1 (ykF ys k).2.2).toArray]
/-- What the iterator needs: its slice, the row. -/
def NdF (p : Option Addr) (n c : Nat) (ys : List (Hd Fac)) (Bs : Nat) (_ : Nat) (W : World) : Prop := W.cell? ⟨Bs, 0, none⟩ = some (.slice p n c) ∧ At W p (ys.flatMap sF.row)
theorem ykF_at {ys : List (Hd Fac)} {k : Nat} (hk : k < ys.length) : ykF ys k = ys[k] := by unfold ykF; rw [List.getD_eq_getElem?_getD, List.getElem?_eq_getElem hk]; rfl
theorem rowF_at {W : World} {p : Option Addr} {ys : List (Hd Fac)} (hok : ∀ y ∈ ys, sF.ok y.1) (h : At W p (ys.flatMap sF.row)) (k : Nat) (hk : k < ys.length) :
    ∃ b off, p = some ⟨b, off, none⟩ ∧ (loadOp 28 (.pointer (some ⟨b, off + k * 38, none⟩))).run Tryz.prog W = .ok (.value (.agg (fcells (ykF ys k).1 (ykF ys k).2.1 (ykF ys k).2.2).toArray)) W := by
  obtain ⟨b, off, rfl, hc⟩ := h.addr (by rw [Shp.flat_length ys hok]; exact flat_mul sF (by omega))
  refine ⟨b, off, rfl, ?_⟩
  rw [ykF_at hk]
  refine load_fact (Fac.ok.len (hok _ (List.getElem_mem hk))) fun j v hv => ?_
  rw [Nat.add_assoc]
  exact hc _ v (Shp.flat_get ys hok k hk j v (show (sF.row ys[k])[j]? = some v from hv))
set_option maxRecDepth 100000 in
set_option maxHeartbeats 2000000 in
theorem fvals_says (m : Nat) (h1 : 1 ≤ m) (p : Option Addr) (n c : Nat) (ys : List (Hd Fac)) (hn : ys.length = n) (hmax : n ≤ 1000000000) (hok : ∀ y ∈ ys, sF.ok y.1) (Bs : Nat) (w : World) :
    SeqSays Fence.wide m Tryz.prog 93 #[.pointer (some ⟨Bs, 0, none⟩)] (tellF ys) n (NdF p n c ys Bs) w := by
  intro l J Jx W hW hJ hJx hNd hY h0
  have HN := Lib.hid hn
  have HO := Lib.hid hok
  have HD := Lib.hid hNd
  have HY := Lib.hid hY
  have HJA := Lib.hid hJ
  have hB0 := (hNd 0 W h0).1
  clear hn hok hNd hY hJ hJx hW
  refine callsIn_of_wp Tryz.func93 rfl trivial ?_ rfl
  simp only [Tryz.ntmps93, List.size_toArray, List.length_cons, List.length_nil, Nat.reduceAdd, Nat.reduceSub, Array.replicate_succ, Array.replicate_zero, List.push_toArray, List.append_toArray, List.nil_append, List.cons_append]
  gi_wp2
  gi_loopw [7] (fun i wr => ∃ k : Nat, k ≤ n ∧ i = .int .i64 k ∧ Hid (J k wr)) (fun i _ => n - (intOf i).toNat)
  case atStart => exact ⟨0, Nat.zero_le _, rfl, Lib.hid h0⟩
  case round =>
    obtain ⟨k, hk, rfl, HJ⟩ := hrel
    by_cases hlt : k < n
    · obtain ⟨b, off, rfl, lk⟩ := rowF_at HO.out (HD.out k wr HJ.out).2 k (by rw [HN.out]; exact hlt)
      have hlen : (ykF ys k).1.D.length = 32 := by rw [ykF_at (by rw [HN.out]; exact hlt)]; exact Fac.ok.len (HO.out _ (List.getElem_mem _))
      have a1 := alloc_fact wr
      have a2 := store_fact1 wr (q := (ykF ys k).2.1) (c := (ykF ys k).2.2) hlen
      have a3 := load_factB (Blk.new wr (fcells (ykF ys k).1 (ykF ys k).2.1 (ykF ys k).2.2).toArray 28) hlen
      have hJ2 := HJA.out _ _ _ none HJ.out (World.grownBy_alloc wr (.cells (fcells (ykF ys k).1 (ykF ys k).2.1 (ykF ys k).2.2).toArray 28) none) (fun r e => by cases e)
      obtain ⟨g0, hg0⟩ : ∃ g, g = wr.heap.size := ⟨_, rfl⟩
      rw [← hg0] at a1 a2 a3
      clear hg0
      generalize wr.alloc (.cells (fcells fz none 0).toArray 28) = wr1 at *
      generalize wr.alloc (.cells (fcells (ykF ys k).1 (ykF ys k).2.1 (ykF ys k).2.2).toArray 28) = wr2 at *
      obtain ⟨fn, tmps, assign, body, hy, hR⟩ := HY.out k wr2 hlt hJ2
      clear hJ2 hlen
      unfold tellF at hy
      gi_wp2
      refine hR.mono ?_
      rintro e W3 (⟨rfl, hJ3⟩ | ⟨rfl, hJx3⟩)
      · have HJ3 := Lib.hid hJ3
        clear hJ3
        gi_wp2
        go_roundw
        case rel => exact ⟨k + 1, by omega, by simp, HJ3⟩
        case measure => simp [intOf]; omega
      · have HJ3 := Lib.hid hJx3
        clear hJx3
        gi_wp2
        refine bodyPost_ret (results_none rfl _ _ _) rfl ?_
        exact ⟨⟨_, rfl⟩, .inr ⟨k + 1, by omega, HJ3.out⟩⟩
    · obtain rfl : k = n := by omega
      gi_wp2
      go_end0
      exact ⟨⟨_, rfl⟩, .inl HJ.out⟩
theorem fvals_in (m : Nat) (p : Option Addr) (n c : Nat) (w : World) :
    CallsIn Fence.wide m Tryz.prog 53 #[.slice p n c] w fun e w' => e = .returned (.func (.func 93) #[] #[.pointer (some ⟨w.heap.size, 0, none⟩)]) ∧ w' = w.alloc (.cells #[.slice p n c] 30) := by
  refine callsIn_of_wp Tryz.func53 rfl trivial ?_ rfl
  simp only [Tryz.ntmps53, List.size_toArray, List.length_cons, List.length_nil, Nat.reduceAdd, Nat.reduceSub, Array.replicate_succ, Array.replicate_zero, List.push_toArray, List.append_toArray, List.nil_append, List.cons_append]
  gi_wp2
  go_ret
  exact ⟨rfl, rfl⟩
theorem fvals_any (p : Option Addr) (n c : Nat) (w : World) :
    Calls Tryz.prog 53 #[.slice p n c] w fun e w' => e = .returned (.func (.func 93) #[] #[.pointer (some ⟨w.heap.size, 0, none⟩)]) ∧ w' = w.alloc (.cells #[.slice p n c] 30) :=
  (callsIn_wide (n := 4)).1 (fvals_in 4 p n c w)
structure StR (w : World) (B : Nat) (s : Ste) (r : Rows9) : Prop where
  b : Rws sB 93 w B r.vb r.yb
  be : r.yb.map (·.1) = s.blobs
  k : Rws sK 95 w B r.vk r.yk
  ke : r.yk.map (·.1) = s.keeps
  h : Rws sH 97 w B r.vh r.yh
  he : r.yh.map (·.1) = s.hints
  v : Rws sV 62 w B r.vv r.yv
  ve : r.yv.map (·.1) = s.votes
  d : Rws sD 73 w B r.vd r.yd
  de : r.yd.map (·.1) = s.decs
section
variable {w w' : World} {B g : Nat} {s : Ste} {r : Rows9}
theorem StO.rows (h : StO w B g s r) : StR w B s r := ⟨h.b, h.be, h.k, h.ke, h.h, h.he, h.v, h.ve, h.d, h.de⟩
theorem StR.on (h : StR w B s r) (hb : Blk w g (ocells s r) 47) (hg : B ≤ g) : StO w B g s r := ⟨hb, hg, h.b, h.be, h.k, h.ke, h.h, h.he, h.v, h.ve, h.d, h.de⟩
theorem StR.below (h : StR w B s r) (hb : Below w.heap.size w w') : StR w' B s r := ⟨h.b.below hb, h.be, h.k.below hb, h.ke, h.h.below hb, h.he, h.v.below hb, h.ve, h.d.below hb, h.de⟩
theorem StR.chg {Q : Nat → Prop} (h : StR w B s r) (hc : Chg Q w w') (hq : ∀ k cs fz t, w.heap[k]? = some (.cells cs t fz) → (rowT t ∨ t = 5) → ¬ Q k) : StR w' B s r :=
  ⟨h.b.chg hc (fun k cs fz t hk ht => hq k cs fz t hk (ht.elim (fun e => Or.inl (by rw [e]; unfold rowT; simp)) Or.inr)), h.be, h.k.chg hc (fun k cs fz t hk ht => hq k cs fz t hk (ht.elim (fun e => Or.inl (by rw [e]; unfold rowT; simp)) Or.inr)), h.ke,
    h.h.chg hc (fun k cs fz t hk ht => hq k cs fz t hk (ht.elim (fun e => Or.inl (by rw [e]; unfold rowT; simp)) Or.inr)), h.he, h.v.chg hc (fun k cs fz t hk ht => hq k cs fz t hk (ht.elim (fun e => Or.inl (by rw [e]; unfold rowT; simp)) Or.inr)), h.ve,
    h.d.chg hc (fun k cs fz t hk ht => hq k cs fz t hk (ht.elim (fun e => Or.inl (by rw [e]; unfold rowT; simp)) Or.inr)), h.de⟩
def Rows9.none : Rows9 := ⟨.slice .none 0 0, .slice .none 0 0, .slice .none 0 0, .slice .none 0 0, .slice .none 0 0, [], [], [], [], []⟩
theorem Rws.none_ {V : Type} {S : Shp V} {t : TypeId} (w : World) (B : Nat) : Rws S t w B (.slice none 0 0) [] := ⟨World.ownsRow_nil _ _ _ _, fun y hy => by simp at hy⟩
theorem StR.none_ (w : World) (B : Nat) : StR w B Ste.none Rows9.none := ⟨Rws.none_ .., rfl, Rws.none_ .., rfl, Rws.none_ .., rfl, Rws.none_ .., rfl, Rws.none_ .., rfl⟩
/-- The state as it is told. -/
theorem StR.hds (h : StR w B s r) : ∃ k : Hds, ocells s r = scells s k ∧ SGood w s k := by
  obtain ⟨qb, cb, eb, tb⟩ := h.b.told
  obtain ⟨qk, ck, ek, tk⟩ := h.k.told
  obtain ⟨qh, ch, eh, th⟩ := h.h.told
  obtain ⟨qv, cv, ev, tv⟩ := h.v.told
  obtain ⟨qd, cd, ed, td⟩ := h.d.told
  refine ⟨⟨(qb, r.yb.length, cb), (qk, r.yk.length, ck), (qh, r.yh.length, ch), (qv, r.yv.length, cv), (qd, r.yd.length, cd)⟩, ?_, ⟨by rw [← h.be]; exact tb, by rw [← h.ke]; exact tk, by rw [← h.he]; exact th, by rw [← h.ve]; exact tv, by rw [← h.de]; exact td⟩⟩
  rw [scells_eq]
  unfold ocells
  rw [eb, ek, eh, ev, ed]
theorem StR.lens (h : StR w B s r) {n : Nat} (hn : (facts s).length ≤ n) (hm : n ≤ 1000000000) : Lens r := by
  rw [facts_length] at hn
  have hv : s.votes.length ≤ vlen s.votes := by
    generalize s.votes = l
    induction l with
    | nil => simp
    | cons v l ih => rw [vlen_cons, List.length_cons]; have := fVote_len v; omega
  have e1 := congrArg List.length h.be
  have e2 := congrArg List.length h.ke
  have e3 := congrArg List.length h.he
  have e4 := congrArg List.length h.ve
  have e5 := congrArg List.length h.de
  simp only [List.length_map] at e1 e2 e3 e4 e5
  exact ⟨by omega, by omega, by omega, by omega, by omega⟩
/-- Rows of a state that a call may change. -/
def OwnR (w : World) (B k : Nat) : Prop := B ≤ k ∧ ∃ cs t fz, w.heap[k]? = some (.cells cs t fz) ∧ rowT t
theorem chg_keeps {X : Nat → Prop} {w1 : World} (hc : Chg X w w1) (hX : ∀ k o, w.heap[k]? = some o → o.isCells = false → ¬ X k) : KeepsOthers w w1 := ⟨hc.size, fun k o hk ho => (hc.block k (Array.getElem?_eq_some_iff.1 hk).1 (hX k o hk ho)).trans hk⟩
theorem own9_keeps {w1 : World} (h : StO w B g s r) (hc : Chg (fun k => Own9 w B g k ∨ False) w w1) : KeepsOthers w w1 := chg_keeps hc fun k o hk ho e => by
  rcases e with (rfl | ⟨_, cs, t, fz, h2, _⟩) | e
  · have h3 : w.heap[k]? = _ := h.blk
    rw [hk] at h3; cases h3; cases ho
  · rw [hk] at h2; cases h2; cases ho
  · exact e
end
end
end Go.Proofs.YtokpabkcaofahaaGreat
