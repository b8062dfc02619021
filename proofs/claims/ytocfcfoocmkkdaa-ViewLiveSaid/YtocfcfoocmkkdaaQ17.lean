/-
  slices.BinarySearchFunc over words, with a closure that compares by node.
  A view searched by a function that tells the key.
  A range over an iterator whose elements are known by their numbers, and which reads between two rounds memory that the body may write: what the iterator needs of the world is asked of the caller's own invariant. No function of the program is named here.
  What a caller of an iterator owes: small facts. No function of the program is named here.
-/
import Derived.Test.YtocfcfoocmkkdaaQ16
import Derived.RangeFuncNested
import Derived.Test.YtocfcfoocmkkdaaQ1
import Derived.Test.YtocfcfoocmkkdaaQ2
import Derived.Deep.QuietTactic
import Derived.BigQuiet
import Derived.BigRegion
import Derived.LaidEql
import Derived.RangeFuncBound
import Derived.RangeFuncBox
import Derived.RangeFuncCalls
import Derived.RangeFuncLeaves
import Derived.Shelf.Abstract
import Derived.Shelf.RegionOpen
import Derived.WalkKit
import Derived.OwnWalkIn
import Derived.TacticsInMore
import Derived.LoopNIn
import Derived.LoopIn
import Derived.Maps.AppendAt
import Derived.Stop.RegionWithIn
import Derived.Sort.BigQuietIn
namespace Go.Proofs.Ytocfcfoocmkkdaa
section
set_option linter.unusedSimpArgs false
set_option linter.unusedVariables false
open Go.RowKit Sha
section
attribute [local go_sem ↓] execOp_loadM execOp_storeM execOp_eqlM execOp_neqM execOp_buildM
theorem cmpN_lt (a b : Int) : decide (cmpN a b < 0) = decide (a < b) := by unfold cmpN; split <;> rename_i h <;> (try split) <;> simp_all
theorem cmpN_eq (a b : Int) : (cmpN a b == 0) = decide (a = b) := by unfold cmpN; split <;> rename_i h <;> (try split) <;> simp <;> omega
/-- What the closure tells. -/
def NodeCmp (k : Int) (caps : List Value) (w : World) : Prop := ∀ (y : Mb), y.ok → ∀ w', Below w.heap.size w w' → Calls Try.prog 63 ([mv y, .int .i64 k] ++ caps).toArray w' fun e w'' => e = .returned (.int .i64 (cmpN y.I k)) ∧ Below w'.heap.size w' w''
set_option maxRecDepth 100000 in
set_option maxHeartbeats 4000000 in
theorem vbs_any (l : List Mb) (n : Nat) (q : Option Addr) (c : Nat) (k : Int) (g : Nat) (w : World) (hn : l.length = n) (hl : GoodW w l q c) (hs : n ≤ 100000) (hup : Vw.Up l) (hk : -9223372036854775808 ≤ k ∧ k ≤ 9223372036854775807) (hF : NodeCmp k [.pointer (some ⟨g, 0, none⟩)] w) :
    Calls Try.prog 53 #[.slice q n c, .int .i64 k, .func (.func 63) #[] #[.pointer (some ⟨g, 0, none⟩)]] w fun e w' =>
      e = .returned (.tuple #[.int .i64 (Vw.pos l k : Nat), .bool (Vw.has l k)]) ∧ Below w.heap.size w w' := by
  have HL := Lib.hid hl
  have HN := Lib.hid hn
  have HUP := Lib.hid hup
  have HF := Lib.hid hF
  have b1 := hl.le
  have b2 := hl.max
  rw [hn] at b1
  have HP := Lib.hid (fun i hi => Vw.pos_lt hup k i hi)
  have HH := Lib.hid (Vw.has_at hup k)
  have hple := Vw.pos_le l k
  rw [hn] at hple
  generalize Vw.pos l k = pl at *
  generalize Vw.has l k = fd at *
  clear hl hn hup hF
  go_enter Try.func53, Try.ntmps53
  go_wp2_with fail
  go_loopw [9, 10] (fun i j wr => ∃ a b : Nat, i = .int .i64 a ∧ j = .int .i64 b ∧ a ≤ pl ∧ pl ≤ b ∧ b ≤ n ∧ Hid (Below w.heap.size w wr)) (fun i j _ => (intOf j).toNat - (intOf i).toNat)
  case atStart => exact ⟨0, n, rfl, rfl, by omega, hple, by omega, Lib.hid (Below.refl _ _)⟩
  case round =>
    obtain ⟨a, b, rfl, rfl, ha, hb, hbn, HBR⟩ := hrel
    by_cases hab : a < b
    · obtain ⟨m, hm⟩ : ∃ m, m = (a + b) / 2 := ⟨_, rfl⟩
      have hma : a ≤ m ∧ m < b := by omega
      have hm2 : ((a : Int) + (b : Int)) / 2 = (m : Int) := by omega
      have hml : m < l.length := by rw [HN.out]; omega
      obtain ⟨bq, off, hqq, hr⟩ := HL.out.get m hml
      subst hqq
      have l1 := run_loadM (rangeM_on hr HBR.out)
      have hpm2 := HP.out m hml
      have hok := HL.out.ok l[m] (List.getElem_mem hml)
      have hjn : (0 : Int) ≤ (m : Int) ∧ (m : Int) < (n : Int) := by omega
      generalize l[m] = y at *
      have QF := Lib.hid (HF.out y hok _ HBR.out)
      have tc := cmpN_lt y.I k
      generalize cmpN y.I k = cv at *
      clear hml hr hm hok
      by_cases hpm : m < pl
      · have t1 : decide (cv < 0) = true := by rw [tc, decide_eq_true_iff]; exact hpm2.1 hpm
        clear hpm2 tc
        go_wp2_with fail
        refine QF.out.mono ?_
        rintro e w2 ⟨rfl, hb2⟩
        have HB2 := Lib.hid (below_next HBR.out hb2)
        clear l1 QF hm2 hb2
        go_wp2_with fail
        go_roundw
        case rel => exact ⟨m + 1, b, by go_num, rfl, by omega, hb, hbn, HB2⟩
        case measure => simp [intOf]; omega
      · have t1 : decide (cv < 0) = false := by rw [tc, decide_eq_false_iff_not]; exact fun h => hpm (hpm2.2 h)
        clear hpm2 tc
        go_wp2_with fail
        refine QF.out.mono ?_
        rintro e w2 ⟨rfl, hb2⟩
        have HB2 := Lib.hid (below_next HBR.out hb2)
        clear l1 QF hm2 hb2
        go_wp2_with fail
        go_roundw
        case rel => exact ⟨a, m, rfl, rfl, ha, by omega, by omega, HB2⟩
        case measure => simp [intOf]; omega
    · obtain rfl : a = pl := by omega
      obtain rfl : b = a := by omega
      by_cases hbl : b < n
      · have hml : b < l.length := by rw [HN.out]; omega
        obtain ⟨bq, off, hqq, hr⟩ := HL.out.get b hml
        subst hqq
        have l1 := run_loadM (rangeM_on hr HBR.out)
        have hok := HL.out.ok l[b] (List.getElem_mem hml)
        have hfd : decide (l[b].I = k) = fd := by
          rw [Bool.eq_iff_iff, decide_eq_true_iff, HH.out]
          exact ⟨fun h => ⟨hml, h⟩, fun ⟨_, h⟩ => h⟩
        have hjn : (0 : Int) ≤ (b : Int) ∧ (b : Int) < (n : Int) := by omega
        have tg : decide ((b : Int) < (n : Int)) = true := by simpa using hbl
        generalize l[b] = y at *
        have QF := Lib.hid (HF.out y hok _ HBR.out)
        have tc := cmpN_eq y.I k
        rw [hfd] at tc
        generalize cmpN y.I k = cv at *
        clear hml hr hok hfd
        go_wp2_with fail
        refine QF.out.mono ?_
        rintro e w2 ⟨rfl, hb2⟩
        have HB2 := Lib.hid (below_next HBR.out hb2)
        clear l1 QF hb2
        go_wp2_with fail
        go_ret2
        exact ⟨rfl, HB2.out⟩
      · have hf2 : fd = false := by
          rw [Bool.eq_false_iff]
          intro h
          obtain ⟨h2, _⟩ := HH.out.1 h
          rw [HN.out] at h2
          exact hbl h2
        subst hf2
        have tg : decide ((b : Int) < (n : Int)) = false := by simpa using hbl
        go_wp2_with fail
        go_ret2
        exact ⟨rfl, HBR.out⟩
end
end
section
set_option linter.unusedSimpArgs false
set_option linter.unusedVariables false
open Go.RowKit Sha
section
attribute [local go_sem ↓] execOp_loadM execOp_storeM execOp_eqlM execOp_neqM execOp_buildM
theorem node_any (y : Mb) (hy : y.ok) (w : World) : Calls Try.prog 55 #[mv y] w fun e w' => e = .returned (.int .i64 y.I) ∧ Below w.heap.size w w' := by
  go_enter Try.func55, Try.ntmps55
  go_wp2_with fail
  go_ret
  exact ⟨rfl, (Below.refl _ _).alloc (Nat.le_refl _) _⟩
set_option maxRecDepth 100000 in
set_option maxHeartbeats 4000000 in
theorem ncmp_any (k : Int) (g : Nat) (t : TypeId) (w : World) (hk : Blk w g [.func (.func 55) #[] #[]] t) : NodeCmp k [.pointer (some ⟨g, 0, none⟩)] w := by
  intro y hy w' hb
  have hk' := hk.upon hb
  have BA := Lib.hid (show Below w'.heap.size w' (w'.alloc (.cells #[.int .i64 y.I, .int .i64 y.S, .int .i64 y.N] mt)) from (Below.refl _ _).alloc (Nat.le_refl _) _)
  have c1 : (w'.alloc (.cells #[.int .i64 y.I, .int .i64 y.S, .int .i64 y.N] mt)).cell? ⟨g, 0, none⟩ = some (.func (.func 55) #[] #[]) := by rw [(hk'.upon BA.out).cell]; rfl
  have l1 : (loadM mt (.pointer (some ⟨w'.heap.size, 0, none⟩))).run Try.prog (w'.alloc (.cells #[.int .i64 y.I, .int .i64 y.S, .int .i64 y.N] mt)) = .ok (.value (mv y)) _ := run_loadM (rangeM_of (Blk.new w' #[.int .i64 y.I, .int .i64 y.S, .int .i64 y.N] mt))
  have HY := Lib.hid (fun w => node_any y hy w)
  have HC := Lib.hid (fun w => cmpI y.I k w)
  generalize cmpN y.I k = cv at *
  clear hk hk' hb hy
  show Calls Try.prog 63 #[mv y, .int .i64 k, .pointer (some ⟨g, 0, none⟩)] w' _
  go_enter Try.func63, Try.ntmps63
  go_wp2_with fail
  refine (HY.out _).mono ?_
  rintro e w2 ⟨rfl, hb2⟩
  have HB2 := Lib.hid (below_next BA.out hb2)
  go_wp2_with fail
  refine (HC.out _).mono ?_
  rintro e w3 ⟨rfl, rfl⟩
  go_wp2_with fail
  go_ret
  exact ⟨rfl, HB2.out⟩
theorem by_any (w : World) : Calls Try.prog 54 #[.func (.func 55) #[] #[]] w fun e w' =>
    e = .returned (.func (.func 63) #[] #[.pointer (some ⟨w.heap.size, 0, none⟩)]) ∧ ∃ t, w' = w.alloc (.cells #[.func (.func 55) #[] #[]] t) := by
  go_enter Try.func54, Try.ntmps54
  go_wp2_with fail
  go_ret
  exact ⟨rfl, _, rfl⟩
set_option maxRecDepth 100000 in
set_option maxHeartbeats 4000000 in
theorem find_any (l : List Mb) (n : Nat) (q : Option Addr) (c : Nat) (k : Int) (w : World) (hn : l.length = n) (hl : GoodW w l q c) (hs : n ≤ 100000) (hup : Vw.Up l) (hk : -9223372036854775808 ≤ k ∧ k ≤ 9223372036854775807) :
    Calls Try.prog 38 #[.slice q n c, .int .i64 k] w fun e w' =>
      e = .returned (.tuple #[.int .i64 (Vw.pos l k : Nat), .bool (Vw.has l k)]) ∧ Below w.heap.size w w' := by
  have HBS := Lib.hid (fun (t : TypeId) (w1 : World) (hb : Below w.heap.size w w1) (hB : Blk w1 w.heap.size [.func (.func 55) #[] #[]] t) => vbs_any l n q c k w.heap.size w1 hn (hl.below hb) hs hup hk (ncmp_any k w.heap.size t w1 hB))
  have BN := Lib.hid (fun (t : TypeId) => Blk.new w #[.func (.func 55) #[] #[]] t)
  have BA := Lib.hid (fun (t : TypeId) => show Below w.heap.size w (w.alloc (.cells #[.func (.func 55) #[] #[]] t)) from (Below.refl _ _).alloc (Nat.le_refl _) _)
  generalize Vw.pos l k = pl at *
  generalize Vw.has l k = fd at *
  have b1 := hl.le
  have b2 := hl.max
  rw [hn] at b1
  clear hn hl hup
  go_enter Try.func38, Try.ntmps38
  go_wp2_with fail
  refine (by_any w).mono ?_
  rintro e w1 ⟨rfl, t, rfl⟩
  have HQ := Lib.hid (HBS.out t _ (BA.out t) (BN.out t))
  have HB1 := Lib.hid (BA.out t)
  clear HBS BA BN
  generalize w.alloc (.cells #[.func (.func 55) #[] #[]] t) = w1 at *
  go_wp2_with fail
  refine HQ.out.mono ?_
  rintro e w2 ⟨rfl, hb2⟩
  have HB2 := Lib.hid (below_next HB1.out hb2)
  go_wp2_with fail
  go_ret2
  exact ⟨rfl, HB2.out⟩
end
end
section
set_option linter.unusedSimpArgs false
set_option linter.unusedVariables false
open Go.RowKit
/-- The iterator tells el 0, el 1 .. up to m of them, as long as the world is, ahead of the k-th, as it needs it (Nd k). -/
def SeqSays (F : Fence) (n : Nat) (P : Program) (g : Nat) (lb : Array Value) (el : Nat → Array Value) (m : Nat) (Nd : Nat → World → Prop) (w : World) : Prop :=
  ∀ (l : Nat) (J Jx : Nat → World → Prop) (W : World), Below w.heap.size w W → AbidesFrom W.heap.size J → AbidesFrom W.heap.size Jx →
    (∀ k W1, J k W1 → Nd k W1) →
    (∀ k W1, k < m → J k W1 → YieldAt F (n - 1) P l (el k) W1 fun e W' => (e = .returned (.bool true) ∧ J (k + 1) W') ∨ (e = .returned (.bool false) ∧ Jx (k + 1) W')) →
    J 0 W →
    CallsIn F n P g (#[.func (.yield l) #[] #[]] ++ lb) W fun e W' => (∃ v, e = .returned v) ∧ (J m W' ∨ ∃ k, k ≤ m ∧ Jx k W')
theorem SeqSays.later {F : Fence} {n : Nat} {P : Program} {g : Nat} {lb : Array Value} {el : Nat → Array Value} {m : Nat} {Nd : Nat → World → Prop} {w w' : World}
    (h : SeqSays F n P g lb el m Nd w) (hb : Below w.heap.size w w') : SeqSays F n P g lb el m Nd w' :=
  fun l J Jx W hW => h l J Jx W (hb.trans (hW.mono hb.size))
/-- How a round's body may be left. -/
def sayPost (B : Nat) (I : Nat → World → Prop) (Ix : Code → Nat → World → Prop) (k : Nat) (W : World) : Exit → Act → World → Prop
  | .normal, _, W' => KeepsFrom B W W' ∧ I k W'
  | .ret, _, W' => KeepsFrom B W W' ∧ Ix .ret k W'
  | .exit id, _, W' => KeepsFrom B W W' ∧ Ix (.exit id) k W'
  | .goto t, _, W' => KeepsFrom B W W' ∧ Ix (.goto t) k W'
  | .panic _, _, _ => False
  | .outgrown, _, _ => False
/-- The loop's record, as the law lays it. -/
def sayRec (fn : FuncId) (tmps : Array Value) (ps : Array Tmp) (assign body : Code) (B : Nat) (st : LoopState) (pe : Option Code) : Loop :=
  { state := st, pending := pe, fn, tmps, params := ps, assign, body, defers := B }
theorem wpIn_range_says {F : Fence} {n : Nat} {P : Program} {g : Operand} {ps : Array Tmp} {assign body : Code} {Q : Exit → Act → World → Prop} {a : Act} {w : World}
    (hro : F.round = none) (h1 : 1 ≤ n) {gf : Nat} {lb : Array Value} (hg : a.eval g = .func (.func gf) #[] lb) (hFg : F.fn gf) (eg : ∀ args w, (callFunc gf args).run P w = .ok (.enter gf args) w)
    {el : Nat → Array Value} {m : Nat} {Nd : Nat → World → Prop} {w0 : World} (hseq : SeqSays F (n - 1) P gf lb el m Nd w0) (hb0 : Below w0.heap.size w0 w) (hps : ∀ k, (el k).size = ps.size)
    (I : Nat → World → Prop) (Ix : Code → Nat → World → Prop) (hI : OwnFrom w.heap.size I) (hIx : ∀ c, OwnFrom w.heap.size (Ix c)) (hNd : ∀ k W, I k W → Nd k W) (h0 : I 0 w)
    (Ax : Nat → Act → World → Prop) (hAx : ∀ k a', OwnFrom w.heap.size (fun (_ : Unit) W => Ax k a' W))
    (hassign : ∀ (l k : Nat) (W : World) (K : Act → World → Prop), I k W → (∀ a' W', KeepsFrom w.heap.size W W' → I k W' → Ax k a' W' → K a' W') →
      assign.wpIn (F.inRound l) (n - 1 - 1) P (Exit.then K (fun _ _ _ => False)) { tmps := (ps.zip (el k)).foldl (fun t (p, v) => t.setIfInBounds p v) a.tmps, defers := [] } W)
    (hbody : ∀ (l k : Nat) (a' : Act) (W : World), w.heap.size ≤ l → (∃ r, W.heap[l]? = some (.loop r)) → k < m → I k W → Ax k a' W → body.wpIn (F.inRound l) (n - 1 - 1) P (sayPost w.heap.size I Ix (k + 1) W) a' W)
    (hdone : ∀ (D : Nat) (W : World), w.heap.size ≤ D → I m W → W.heap[D]? = some (.deferred (some [])) → Q .normal { a with defers := { target := .collected D, args := #[] } :: a.defers } W)
    (hstop : ∀ (D : Nat) (c : Code) (k : Nat) (W : World), w.heap.size ≤ D → k ≤ m → Ix c k W → W.heap[D]? = some (.deferred (some [])) → c.wpIn F n P Q { a with defers := { target := .collected D, args := #[] } :: a.defers } W) :
    (Code.rangeFunc g ps assign body).wpIn F n P Q a w := by
  refine wpIn_rangeFunc fun fn hfn => ?_
  rw [hro]
  obtain ⟨rec, hrec⟩ : ∃ rec, rec = sayRec fn a.tmps ps assign body w.heap.size := ⟨_, rfl⟩
  have hpar : ∀ st pe, (rec st pe).params = ps := fun st pe => by rw [hrec]; rfl
  have hfnr : ∀ st pe, (rec st pe).fn = fn := fun st pe => by rw [hrec]; rfl
  have htmr : ∀ st pe, (rec st pe).tmps = a.tmps := fun st pe => by rw [hrec]; rfl
  have hasr : ∀ st pe, (rec st pe).assign = assign := fun st pe => by rw [hrec]; rfl
  have hbor : ∀ st pe, (rec st pe).body = body := fun st pe => by rw [hrec]; rfl
  have hstt : ∀ st pe, (rec st pe).state = st := fun st pe => by rw [hrec]; rfl
  have hpen : ∀ st pe, (rec st pe).pending = pe := fun st pe => by rw [hrec]; rfl
  have hwith : ∀ st pe st', { rec st pe with state := st' } = rec st' pe := fun st pe st' => by rw [hrec]; rfl
  have hwith2 : ∀ st pe st' pe', { rec st pe with state := st', pending := pe' } = rec st' pe' := fun st pe st' pe' => by rw [hrec]; rfl
  obtain ⟨B, hB⟩ : ∃ B, B = w.heap.size := ⟨_, rfl⟩
  obtain ⟨W1, hW1⟩ : ∃ W1, W1 = (w.alloc (.deferred (some []))).alloc (.loop (rec .ready none)) := ⟨_, rfl⟩
  have hL1 : W1.heap[B + 1]? = some (.loop (rec .ready none)) := by
    rw [hW1, hB]; have := World.alloc_heap_new (w.alloc (.deferred (some []))) (.loop (rec .ready none)); rwa [World.size_alloc] at this
  have hD1 : W1.heap[B]? = some (.deferred (some [])) := by
    rw [hW1, hB]; exact (Below.heap_alloc _ _ _ (by simp)).trans (World.alloc_heap_new w _)
  have hsz1 : W1.heap.size = B + 1 + 1 := by rw [hW1, hB]; simp
  have hI1 : I 0 W1 := by rw [hW1]; exact hI.alloc _ (hI.alloc _ h0)
  have hb1 : Below w0.heap.size w0 W1 := by
    rw [hW1]; exact hb0.trans ((((Below.refl _ w).alloc (Nat.le_refl _) _).alloc (by simp) _).mono hb0.size)
  refine ⟨B + 1, [{ target := .collected B, args := #[] }], W1, { target := .fn (.func gf) lb, args := #[.func (.yield (B + 1)) #[] #[]] }, W1, gf,
    #[.func (.yield (B + 1)) #[] #[]] ++ lb, W1, by rw [hW1, hrec, hB]; exact run_enterLoop_outer _ _ _ _ _, by simp only [resolve, hg]; simp [go_sem], fun f' hf' => by simp [Target.leads] at hf'; subst hf'; exact hFg, by simp [invoke, go_sem, eg], fun _ => h1, ?_⟩
  clear hW1
  -- the books: the record, the block of the rounds' deferred calls
  have hrows : ∀ {A C : World} {row : Option Nat}, A.grownBy C row → (∀ r, row = some r → W1.heap.size ≤ r ∧ ∃ o : Obj, A.heap[r]? = some o ∧ o.isWalk = true) →
      (∀ r, row = some r → w.heap.size ≤ r ∧ ∃ o : Obj, A.heap[r]? = some o ∧ o.isCells = false) ∧ (∀ k o, k < B + 1 + 1 → A.heap[k]? = some o → C.heap[k]? = some o) := by
    intro A C row hg' hr
    refine ⟨fun r e => ?_, fun k o hk ho => ?_⟩
    · obtain ⟨h1, o, ho, hw⟩ := hr r e
      exact ⟨by rw [← hB]; omega, o, ho, Obj.not_cells_of_walk hw⟩
    · rw [hg'.block k (Array.getElem?_eq_some_iff.1 ho).1 fun e => by have := (hr k e.symm).1; omega]; exact ho
  refine (hseq (B + 1)
    (fun k W => I k W ∧ W.heap[B + 1]? = some (.loop (rec .ready none)) ∧ W.heap[B]? = some (.deferred (some [])))
    (fun k W => ∃ c, Ix c k W ∧ W.heap[B + 1]? = some (.loop (rec .done (some c))) ∧ W.heap[B]? = some (.deferred (some [])))
    W1 hb1
    (fun s A C row hs hg' hr => ⟨hI s A C row hs.1 hg' (hrows hg' hr).1, (hrows hg' hr).2 _ _ (by omega) hs.2.1, (hrows hg' hr).2 _ _ (by omega) hs.2.2⟩)
    (fun s A C row hs hg' hr => by
      obtain ⟨c, hc, hl, hk⟩ := hs
      exact ⟨c, hIx c s A C row hc hg' (hrows hg' hr).1, (hrows hg' hr).2 _ _ (by omega) hl, (hrows hg' hr).2 _ _ (by omega) hk⟩)
    (fun k W hj => hNd k W hj.1) ?_ ⟨hI1, hL1, hD1⟩).mono ?_
  · rintro k W hkm ⟨hi, hl, hk⟩
    have hy := run_yield (P := P) (args := el k) hl (by rw [hpar]; exact hps k)
    rw [hfnr, htmr, hasr, hbor, hpar] at hy
    refine ⟨_, _, _, _, hy, roundIn_of_wpIn hfn ?_⟩
    refine hassign _ k W _ hi ?_
    intro a' Wa hka hia hax
    have hla := hka.same _ _ (by rw [← hB]; omega) hl rfl
    have hda := hka.same _ _ (by rw [← hB]; omega) hk rfl
    have hlta : B + 1 < Wa.heap.size := (Array.getElem?_eq_some_iff.1 hla).1
    refine ⟨_, run_beginRound hla (hstt _ _), ?_⟩
    rw [hwith]
    obtain ⟨Wb, hWb⟩ : ∃ Wb, Wb = Wa.putObj (B + 1) (.loop (rec .busy none)) := ⟨_, rfl⟩
    have hlb : Wb.heap[B + 1]? = some (.loop (rec .busy none)) := by rw [hWb]; exact World.putObj_heap_same hlta
    have hdb : Wb.heap[B]? = some (.deferred (some [])) := by rw [hWb]; exact (World.putObj_heap_other (by omega)).trans hda
    have hib : I k Wb := by rw [hWb]; exact hI.putObj _ hia (by rw [← hB]; omega) hla rfl
    have haxb : Ax k a' Wb := by rw [hWb]; exact (hAx k a').putObj (s := ()) _ hax (by rw [← hB]; omega) hla rfl
    rw [← hWb]
    refine wpIn_mono (hbody _ k a' Wb (by rw [← hB]; omega) ⟨_, hlb⟩ hkm hib haxb) ?_
    clear hWb
    have fin : ∀ (jump : Option Code) (Wc : World), KeepsFrom w.heap.size Wb Wc →
        (Instr.endRound (B + 1) jump).run P Wc = .ok (.bool jump.isNone) (Wc.putObj (B + 1) (.loop (rec (if jump.isNone then .ready else .done) jump))) ∧
        Wc.heap[B + 1]? = some (.loop (rec .busy none)) ∧
        (Wc.putObj (B + 1) (.loop (rec (if jump.isNone then .ready else .done) jump))).heap[B + 1]? = some (.loop (rec (if jump.isNone then .ready else .done) jump)) ∧
        (Wc.putObj (B + 1) (.loop (rec (if jump.isNone then .ready else .done) jump))).heap[B]? = some (.deferred (some [])) := fun jump Wc hkc => by
      have hlc := hkc.same _ _ (by rw [← hB]; omega) hlb rfl
      have h2 := run_endRound (P := P) jump hlc
      rw [hwith2] at h2
      exact ⟨h2, hlc, World.putObj_heap_same (Array.getElem?_eq_some_iff.1 hlc).1, (World.putObj_heap_other (by omega)).trans (hkc.same _ _ (by rw [← hB]; omega) hdb rfl)⟩
    rintro e a3 Wc hp
    cases e with
    | normal =>
      obtain ⟨hkc, hic⟩ := hp
      obtain ⟨hr, hlc, hlc2, hdc⟩ := fin none Wc hkc
      exact ⟨_, _, hr, .inl ⟨rfl, hI.putObj _ hic (by rw [← hB]; omega) hlc rfl, hlc2, hdc⟩⟩
    | ret =>
      obtain ⟨hkc, hic⟩ := hp
      obtain ⟨hr, hlc, hlc2, hdc⟩ := fin (some .ret) Wc hkc
      exact ⟨_, _, hr, .inr ⟨rfl, .ret, (hIx _).putObj _ hic (by rw [← hB]; omega) hlc rfl, hlc2, hdc⟩⟩
    | exit id =>
      obtain ⟨hkc, hic⟩ := hp
      obtain ⟨hr, hlc, hlc2, hdc⟩ := fin (some (.exit id)) Wc hkc
      exact ⟨_, _, hr, .inr ⟨rfl, .exit id, (hIx _).putObj _ hic (by rw [← hB]; omega) hlc rfl, hlc2, hdc⟩⟩
    | goto t =>
      obtain ⟨hkc, hic⟩ := hp
      obtain ⟨hr, hlc, hlc2, hdc⟩ := fin (some (.goto t)) Wc hkc
      exact ⟨_, _, hr, .inr ⟨rfl, .goto t, (hIx _).putObj _ hic (by rw [← hB]; omega) hlc rfl, hlc2, hdc⟩⟩
    | panic ch => exact hp.elim
    | outgrown => exact hp.elim
  · rintro e W2 ⟨⟨v, rfl⟩, (⟨hi, hl, hk⟩ | ⟨k, hkm, c, hi, hl, hk⟩)⟩
    · have he := run_endLoop (P := P) hl (by rw [hstt]; simp)
      rw [hpen] at he
      refine ⟨none, _, he, ?_⟩
      rw [hB] at hl hk ⊢
      exact hdone _ _ (Nat.le_refl _) (hI.putObj _ hi (by omega) hl rfl) ((World.putObj_heap_other (by omega)).trans hk)
    · have he := run_endLoop (P := P) hl (by rw [hstt]; simp)
      rw [hpen] at he
      refine ⟨some c, _, he, ?_⟩
      rw [hB] at hl hk ⊢
      exact hstop _ c k _ (Nat.le_refl _) hkm ((hIx c).putObj _ hi (by omega) hl rfl) ((World.putObj_heap_other (by omega)).trans hk)
end
section
set_option linter.unusedSimpArgs false
set_option linter.unusedVariables false
open Go.RowKit Go.Shelf
theorem grownBy_drewN (W : World) (m : Nat) : W.grownBy (W.drewN m) none := by
  have h := below_drewN (Below.refl W.heap.size W) m
  exact ⟨h.os, h.tape, h.output, h.size, fun k hk _ => h.block k hk⟩
theorem keepsOthers_drewN (W : World) (m : Nat) : KeepsOthers W (W.drewN m) := KeepsOthers.of_grownBy (grownBy_drewN W m) (fun j o e => by cases e)
theorem grownBy_below {W W' : World} (h : Below W.heap.size W W') : W.grownBy W' none := ⟨h.os, h.tape, h.output, h.size, fun k hk _ => h.block k hk⟩
theorem keepsOthers_below {W W' : World} (h : Below W.heap.size W W') : KeepsOthers W W' := KeepsOthers.of_grownBy (grownBy_below h) (fun j o e => by cases e)
theorem boxed_below {W W' : World} {B : Nat} {t : TypeId} {v : Value} (h : Boxed W B t v) (hb : Below W.heap.size W W') : Boxed W' B t v := (hb.block B h.lt).trans h
theorem abides_drewN {J : Nat → World → Prop} {B k m : Nat} {W : World} (hJ : AbidesFrom B J) (h : J k W) : J k (W.drewN m) := hJ _ _ _ none h (grownBy_drewN W m) (fun r e => by cases e)
theorem wpIn_cut2 {F : Fence} {m : Nat} {P : Program} {s : Code} {K : Act → World → Prop} {Q' : Exit → Act → World → Prop} {a : Act} {w : World} (R : Act → World → Prop)
    (rest : ∀ a' w', R a' w' → K a' w') (first : s.wpIn F m P (fun e a' w' => e = .normal ∧ R a' w') a w) : s.wpIn F m P (Exit.then K Q') a w :=
  Code.wpIn_mono (by rintro e a' w' ⟨rfl, h⟩; exact rest _ _ h) first
/-- Any cut in a region that draws, its equation a hypothesis. -/
theorem quiet_cut3 {P : Program} {o : Oper} {a : Act} {C : World → Prop} {K : Act → Prop} (t : TypeId) (x : Operand) (lo hi mx : Option Operand) (ho : o.op = .slice t x lo hi mx) (V : Value) (hr : ∀ w, (Instr.sliceAt t (a.eval x) (lo.map a.eval) (hi.map a.eval) (mx.map a.eval)).run P w = .ok V w) (h : K (a.put o.dst V)) : o.quiet P a C K :=
  ⟨V, fun w _ => by
    unfold Oper.quietAt execOp
    simp only [ho, Sem.run_bind, hr, Result.andThen_ok, Sem.run_pure]
    exact ⟨rfl, rfl⟩, h⟩
section
variable {P : Program} {o : Oper} {a : Act} {C : World → Prop} {K : Act → Prop}
/-- A pointer and itself; nothing and a pointer. -/
theorem run_neq_ptr_same {tp te : TypeId} {j : TypeInfo} (a : Addr) (hp : P.underlying tp = some (.pointer te)) (hte : P.info? te = some j) (w : World) :
    (binOp .neq tp (.pointer (some a)) (.pointer (some a))).run P w = .ok (.bool false) w := by
  have h : ∀ d : Nat, (Op.equalIn (d + 1) tp (.pointer (some a)) (.pointer (some a))).run P w = .ok true w := fun d => by
    simp [Op.equalIn, run_underlying hp, typeInfo, sizeOf, run_sameAddr_same, hte]
  simp only [binOp]
  simp [Op.equal, Op.maxDepth, h 9999]
theorem run_neq_ptr_nil {tp te : TypeId} (a : Addr) (hp : P.underlying tp = some (.pointer te)) (w : World) :
    (binOp .neq tp (.pointer none) (.pointer (some a))).run P w = .ok (.bool true) w := by
  have h : ∀ d : Nat, (Op.equalIn (d + 1) tp (.pointer none) (.pointer (some a))).run P w = .ok false w := fun d => by
    simp [Op.equalIn, run_underlying hp]
  simp only [binOp]
  simp [Op.equal, Op.maxDepth, h 9999]
end
end
end Go.Proofs.Ytocfcfoocmkkdaa
