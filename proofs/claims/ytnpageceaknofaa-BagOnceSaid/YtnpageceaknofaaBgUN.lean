/-
  The program's ring of numbers: a bag over it, how it lies; what a take leaves.
-/
import Derived.Test.YtnpageceaknofaaBgRN
import Derived.Test.YtnpageceaknofaaBgH
import Derived.Test.YtnpageceaknofaaTailU
namespace Go.Proofs.Ytnpageceaknofaa
set_option linter.unusedSimpArgs false
set_option linter.unusedVariables false
open Go.RowKit Go.Shelf Sha Rin
attribute [local go_sem] Oper.semAt_some
structure RingAtN (w : World) (b m g : Nat) (p : Option Addr) (f : Nat) (cs l : List Int) : Prop where
  head : Blk w b (hdr b m p cs.length f l.length) 49
  row : p = none ∧ cs.length = 0 ∨ p = some ⟨g, 0, none⟩
  cells : p = some ⟨g, 0, none⟩ → Blk w g (cs.map (Value.int .i64)) 3 ∧ g ≠ b
  ring : Is cs f l
  most : cs.length ≤ m
  room : m ≤ 2000
theorem RingAtN.get {w : World} {b m g : Nat} {p : Option Addr} {f : Nat} {cs l : List Int} (h : RingAtN w b m g p f cs l) (j : Nat) (x : Int) (hj : cs[j]? = some x) : w.cell? ⟨g, j, none⟩ = some (Value.int .i64 x) := by
  rcases h.row with ⟨_, h0⟩ | hp
  · have := (List.getElem?_eq_some_iff.1 hj).1; omega
  · rw [(h.cells hp).1.cell, List.getElem?_map, hj]; rfl
/-- How a bag of numbers lies in memory. -/
def ProgBagN : BagRep Int := fun w b fp s => ∃ p g f cs, fp = ringFp b p ∧ RingAtN w b s.1 g p f cs s.2 ∧ ∀ x ∈ s.2, numK.fit x
/-- What a take holds between two rounds: k things have gone on. -/
structure DroppingN (w W : World) (b m g i : Nat) (p : Option Addr) (f : Nat) (cs l : List Int) (k : Nat) : Prop where
  ptr : Boxed W w.heap.size 78 (.pointer (some ⟨b, 2, none⟩))
  num : Boxed W (w.heap.size + 1) 3 (.int .i64 i)
  last : Boxed W (w.heap.size + 1 + 1) 3 (Value.int .i64 (((0 : Int) :: l).getD k (0 : Int)))
  head : Blk W b (hdr b m p cs.length f l.length) 49
  cells : Blk W g ((gone (0 : Int) cs f l k).map (Value.int .i64)) 3
  touch : Touch (ringFp b p) w W
theorem dropping_ownN (w : World) (b m g i : Nat) (p : Option Addr) (f : Nat) (cs l : List Int) {B : Nat} (hB : w.heap.size ≤ B) : OwnFrom B (fun k W => DroppingN w W b m g i p f cs l k) := fun k X Y row hs hg hr =>
  ⟨(boxed_own w.heap.size 78 (fun _ : Nat => .pointer (some ⟨b, 2, none⟩))).from B k X Y row hs.ptr hg hr,
   (boxed_own (w.heap.size + 1) 3 (fun _ : Nat => .int .i64 i)).from B k X Y row hs.num hg hr,
   (boxed_own (w.heap.size + 1 + 1) 3 (fun k : Nat => Value.int .i64 (((0 : Int) :: l).getD k (0 : Int)))).from B k X Y row hs.last hg hr,
   blk_own B b _ (fun _ : Nat => hdr b m p cs.length f l.length) k X Y row hs.head hg hr,
   blk_own B g _ (fun k : Nat => (gone (0 : Int) cs f l k).map (Value.int .i64)) k X Y row hs.cells hg hr,
   ownFrom_touch hB k X Y row hs.touch hg hr⟩
theorem dropping_stepN {w W : World} {b m g i : Nat} {p : Option Addr} {f : Nat} {cs l : List Int} {k : Nat} (h : DroppingN w W b m g i p f cs l k) (hg : g < w.heap.size) (hb : b < w.heap.size) (hgb : g ≠ b) (hm : g ∈ ringFp b p)
    (nq q : Nat) (y x : Int) (hq : q = (f + k) % cs.length) (hy : y = ((0 : Int) :: l).getD k (0 : Int)) (hx : x = l.getD k (0 : Int)) :
    DroppingN w (((W.drewN nq).setCell ⟨g, q, none⟩ (Value.int .i64 y)).setCell ⟨w.heap.size + 1 + 1, 0, none⟩ (Value.int .i64 x)) b m g i p f cs l (k + 1) := by
  have hk : ∀ j, j ≠ g → j ≠ w.heap.size + 1 + 1 → (((W.drewN nq).setCell ⟨g, q, none⟩ (Value.int .i64 y)).setCell ⟨w.heap.size + 1 + 1, 0, none⟩ (Value.int .i64 x)).heap[j]? = W.heap[j]? := fun j h1 h2 => by
    rw [Below.heap_setCell _ _ _ _ (by simpa using h2), Below.heap_setCell _ _ _ _ (by simpa using h1)]; rfl
  refine ⟨(hk _ (by omega) (by omega)).trans h.ptr, (hk _ (by omega) (by omega)).trans h.num, ?_, (hk _ (Ne.symm hgb) (by omega)).trans h.head, ?_, ?_⟩
  · have h1 : Boxed ((W.drewN nq).setCell ⟨g, q, none⟩ (Value.int .i64 y)) (w.heap.size + 1 + 1) 3 (Value.int .i64 (((0 : Int) :: l).getD k (0 : Int))) := (Below.heap_setCell _ _ _ _ (by simp; omega)).trans h.last
    have h2 := h1.set (Value.int .i64 x)
    rw [show ((0 : Int) :: l).getD (k + 1) (0 : Int) = x by rw [hx]; simp]
    exact h2
  · have h1 : Blk (W.drewN nq) g ((gone (0 : Int) cs f l k).map (Value.int .i64)) 3 := h.cells
    have h2 := h1.set q (Value.int .i64 y)
    rw [← List.map_set] at h2
    refine (Below.heap_setCell _ _ _ _ (by simp; omega)).trans ?_
    rw [gone, ← hq, ← hy]
    exact h2
  · exact ((h.touch.drewN nq).setIn hm _).setNew (by omega) _
set_option maxRecDepth 100000 in
set_option maxHeartbeats 1000000 in
theorem dropN_any (b m g i : Nat) (p : Option Addr) (f : Nat) (cs l : List Int) (w : World) (h : RingAtN w b m g p f cs l) (hi : i < l.length) :
    Calls Try.prog 33 #[.pointer (some ⟨b, 2, none⟩), .int .i64 i] w fun e w' => (∃ v, e = .returned v) ∧ RingAtN w' b m g p ((f + 1) % cs.length) (gone (0 : Int) cs f l (i + 1)) (l.take i ++ l.drop (i + 1)) ∧ Touch (ringFp b p) w w' := by
  have hle := h.ring.le
  have hp : p = some ⟨g, 0, none⟩ := by rcases h.row with ⟨_, h0⟩ | hp; omega; exact hp
  subst hp
  obtain ⟨hcs, hgb⟩ := h.cells rfl
  have hhd := h.head
  have hmost := h.most
  have hroom := h.room
  have hfc : f < cs.length := by rcases h.ring.first with h | h <;> omega
  refine (callsIn_wide (n := 5)).1 ?_
  refine callsIn_of_wp_marks Try.func33 rfl trivial ?_ rfl
  simp only [Try.ntmps33, List.size_toArray, List.length_cons, List.length_nil, Nat.reduceAdd, Nat.reduceSub, Array.replicate_succ, Array.replicate_zero, List.push_toArray, List.append_toArray, List.nil_append, List.cons_append]
  gi_wp2_with (refine ⟨trivial, ?_⟩; gi_at_call 46; refine (eachFN_in 4 _ _).mono ?_; rintro e w' ⟨rfl, rfl⟩)
  have hD0 : DroppingN w ((((w.alloc (Obj.cells #[.pointer (some ⟨b, 2, none⟩)] 78)).alloc (Obj.cells #[.int .i64 i] 3)).alloc (Obj.cells #[(Value.int .i64 0)] 3)).alloc (Obj.cells #[.pointer (some ⟨b, 2, none⟩)] 78)) b m g i (some ⟨g, 0, none⟩) f cs l 0 := by
    have hB : Below w.heap.size w ((((w.alloc (Obj.cells #[.pointer (some ⟨b, 2, none⟩)] 78)).alloc (Obj.cells #[.int .i64 i] 3)).alloc (Obj.cells #[(Value.int .i64 0)] 3)).alloc (Obj.cells #[.pointer (some ⟨b, 2, none⟩)] 78)) :=
      ((((Below.refl _ w).alloc (Nat.le_refl _) _).alloc (by simp) _).alloc (by simp; omega) _).alloc (by simp; omega) _
    have b2 := Boxed.new (w.alloc (Obj.cells #[.pointer (some ⟨b, 2, none⟩)] 78)) 3 (.int .i64 i)
    have b3 := Boxed.new ((w.alloc (Obj.cells #[.pointer (some ⟨b, 2, none⟩)] 78)).alloc (Obj.cells #[.int .i64 i] 3)) 3 (Value.int .i64 0)
    simp only [World.size_alloc] at b2 b3
    exact ⟨(((Boxed.new w 78 (.pointer (some ⟨b, 2, none⟩))).alloc _).alloc _).alloc _, (b2.alloc _).alloc _, b3.alloc _, hhd.below hB hhd.lt, hcs.below hB hcs.lt, Touch.of_below hB⟩
  have hbx := Boxed.new (((w.alloc (Obj.cells #[.pointer (some ⟨b, 2, none⟩)] 78)).alloc (Obj.cells #[.int .i64 i] 3)).alloc (Obj.cells #[(Value.int .i64 0)] 3)) 78 (.pointer (some ⟨b, 2, none⟩))
  simp only [World.size_alloc] at hbx
  obtain ⟨w4, hw4⟩ : ∃ x, x = (((w.alloc (Obj.cells #[.pointer (some ⟨b, 2, none⟩)] 78)).alloc (Obj.cells #[.int .i64 i] 3)).alloc (Obj.cells #[(Value.int .i64 0)] 3)).alloc (Obj.cells #[.pointer (some ⟨b, 2, none⟩)] 78) := ⟨_, rfl⟩
  have hs4 : w4.heap.size = w.heap.size + 1 + 1 + 1 + 1 := by rw [hw4]; simp
  rw [← hw4] at hD0 hbx ⊢
  clear hw4
  have HR := Lib.hid h.ring
  have HG := Lib.hid hgb
  refine wpIn_range_says rfl (by omega) (gf := 52) (lb := #[.pointer (some ⟨w.heap.size + 1 + 1 + 1, 0, none⟩)]) rfl trivial (enters_of Try.func52 (by kernel_rfl) rfl)
    (eachN_in 4 (by omega) b g (w.heap.size + 1 + 1 + 1) (some ⟨g, 0, none⟩) cs.length f l.length l w4 hbx.cell (hD0.head.cell 2) (hD0.head.cell 3) (hD0.head.cell 4) (.inr rfl) rfl hle (.inl hfc) (by omega)) (Below.refl _ _) (fun _ => rfl)
    (fun k W => k ≤ i ∧ DroppingN w W b m g i (some ⟨g, 0, none⟩) f cs l k)
    (fun c k W => c = .exit 0 ∧ k = i + 1 ∧ DroppingN w W b m g i (some ⟨g, 0, none⟩) f cs l k)
    (OwnFrom.and (ownFrom_pure _ (fun k : Nat => k ≤ i)) (dropping_ownN w b m g i _ f cs l (by omega)))
    (fun c => OwnFrom.and (ownFrom_pure _ (fun _ : Nat => c = .exit 0)) (OwnFrom.and (ownFrom_pure _ (fun k : Nat => k = i + 1)) (dropping_ownN w b m g i _ f cs l (by omega))))
    (fun k W hI j hk hj => by
      have h1 := gone_ahead (z := (0 : Int)) HR.out (k := k) (by omega) j hk hj
      rw [hI.2.cells.cell, List.getElem?_map, h1, List.getD_eq_getElem?_getD, List.getElem?_eq_getElem hj]; rfl)
    ⟨Nat.zero_le _, hD0⟩
    (fun k a' _ => a' = { tmps := #[Value.pointer (some ⟨b, 2, none⟩), Value.int IntKind.i64 i, Value.pointer (some ⟨w.heap.size, 0, none⟩), Value.pointer (some ⟨w.heap.size + 1, 0, none⟩), Value.pointer (some ⟨w.heap.size + 1 + 1, 0, none⟩), .int .i64 k, Value.int .i64 (l.getD k (0 : Int)), Value.pointer (some ⟨b, 2, none⟩),
          Value.func (Fn.func 52) #[] #[Value.pointer (some ⟨w.heap.size + 1 + 1 + 1, 0, none⟩)], .int .i64 k, Value.int .i64 (l.getD k (0 : Int)), undef, undef, undef, undef, undef, undef, undef, undef, undef, undef, undef, undef, undef, undef, undef, undef, undef, undef, undef, undef, undef, undef, undef, undef, undef], defers := [] })
    (fun k a' => fun _ _ _ _ hs _ _ => hs)
    ?assign ?body ?done ?stop
  case assign =>
    intro lp k W K hI hK
    unfold tellN
    gi_wp2
    exact hK _ _ (KeepsFrom.refl _ _) hI rfl
  case body =>
    rintro lp k a' W hl hrec hk ⟨hki, hD⟩ rfl
    have c1 := hD.ptr.cell
    have c2 := hD.num.cell
    have c3 := hD.last.cell
    have k2 : W.cell? ⟨b, 2, none⟩ = some (.slice (some ⟨g, 0, none⟩) cs.length cs.length) := hD.head.cell 2
    have k3 : W.cell? ⟨b, 3, none⟩ = some (.int .i64 f) := hD.head.cell 3
    have HPL := Lib.hid (fun d => placeN_any b _ cs.length f k (W.drewN d) k2 k3 hfc (by omega) (by omega) (by omega))
    rw [Int.toNat_natCast] at HPL
    have HDD := Lib.hid hD
    obtain ⟨q, hq⟩ : ∃ q, q = (f + k) % cs.length := ⟨_, rfl⟩
    rw [← hq] at HPL
    have hqc : q < cs.length := by rw [hq]; exact Nat.mod_lt _ (by omega)
    obtain ⟨y, hy⟩ : ∃ y, y = ((0 : Int) :: l).getD k (0 : Int) := ⟨_, rfl⟩
    obtain ⟨x, hx⟩ : ∃ x, x = l.getD k (0 : Int) := ⟨_, rfl⟩
    rw [← hy] at c3
    rw [← hx]
    have HQ := Lib.hid hq
    have HY := Lib.hid hy
    have HX := Lib.hid hx
    clear hD hq hy hx
    have i1 : (0 : Int) ≤ (q : Int) := by omega
    have i2 : (q : Int) < (cs.length : Int) := by omega
    gi_wp2
    refine round_quiet_late 10 8 _ (Value.int .i64 x) (by kernel_rfl) (by kernel_rfl) (by simp) rfl (yields_move (by kernel_rfl) (.tmp 6) rfl (Value.int .i64 x) rfl) (fun _ => rfl) (by kernel_rfl) ?_
    simp only [Act.put, List.setIfInBounds_toArray, List.set_cons_zero, List.set_cons_succ, List.drop_succ_cons, List.drop_zero, List.take_succ_cons, List.take_zero, List.eraseIdx_cons_succ, List.eraseIdx_cons_zero]
    repeat (go_big_quiet_step (first | (go_at_call 45; refine Calls.quiet_of (HPL.out _))))
    refine wpQuiet_nil ?_
    rintro _ ⟨nq, rfl⟩
    have hS := dropping_stepN HDD.out hcs.lt hhd.lt HG.out (by simp [ringFp]) nq q y x HQ.out HY.out HX.out
    have HS := Lib.hid hS
    have e1 : (W.drewN nq).cell? ⟨g, q, none⟩ = some (Value.int .i64 ((gone (0 : Int) cs f l k)[q]'(by rw [gone_length]; exact hqc))) := by
      have h1 : W.cell? ⟨g, q, none⟩ = _ := HDD.out.cells.cell q
      rw [List.getElem?_map, List.getElem?_eq_getElem (by rw [gone_length]; exact hqc)] at h1
      exact h1
    have e2 : (W.drewN nq).frozen? ⟨g, q, none⟩ = false := HDD.out.cells.free q
    have g1 : ((W.drewN nq).setCell ⟨g, q, none⟩ (Value.int .i64 y)).cell? ⟨w.heap.size + 1 + 1, 0, none⟩ = some (Value.int .i64 y) := by
      have := HDD.out.last
      rw [← HY.out] at this
      exact ((show Boxed _ (w.heap.size + 1 + 1) 3 _ from (Below.heap_setCell _ _ _ _ (by have := hcs.lt; simp; omega)).trans this)).cell
    have g2 : ((W.drewN nq).setCell ⟨g, q, none⟩ (Value.int .i64 y)).frozen? ⟨w.heap.size + 1 + 1, 0, none⟩ = false := by
      have := HDD.out.last
      exact ((show Boxed _ (w.heap.size + 1 + 1) 3 _ from (Below.heap_setCell _ _ _ _ (by have := hcs.lt; simp; omega)).trans this)).frozen
    have s1 := hS.num.cell
    have HK := Lib.hid (show KeepsFrom w4.heap.size W (((W.drewN nq).setCell ⟨g, q, none⟩ (Value.int .i64 y)).setCell ⟨w.heap.size + 1 + 1, 0, none⟩ (Value.int .i64 x)) from
      (((keepsOthers_drewN W nq).trans (KeepsOthers.setCell _ _ _)).trans (KeepsOthers.setCell _ _ _)).from _)
    generalize (gone (0 : Int) cs f l k)[q]'(by rw [gone_length]; exact hqc) = old at e1
    clear hS HDD HPL
    by_cases hki2 : k = i
    · subst hki2
      gi_wp2
      exact ⟨HK.out, rfl, rfl, HS.out⟩
    · have hne : ((k : Int) == (i : Int)) = false := by rw [beq_eq_false_iff_ne]; omega
      gi_wp2
      exact ⟨HK.out, by omega, HS.out⟩
  case done =>
    rintro D W hD ⟨hk, _⟩ hdf
    omega
  case stop =>
    rintro D c' k W hD hk ⟨rfl, rfl, hS⟩ hdf
    have c1 := hS.ptr.cell
    have k2 : W.cell? ⟨b, 2, none⟩ = some (.slice (some ⟨g, 0, none⟩) cs.length cs.length) := hS.head.cell 2
    have k3 : W.cell? ⟨b, 3, none⟩ = some (.int .i64 f) := hS.head.cell 3
    have HPL := Lib.hid (fun d => placeN_any b _ cs.length f 1 (W.drewN d) k2 k3 hfc (by omega) (by omega) (by omega))
    obtain ⟨f', hf'⟩ : ∃ f', f' = (f + 1) % cs.length := ⟨_, rfl⟩
    rw [show (1 : Int).toNat = 1 from rfl, ← hf'] at HPL
    have HF' := Lib.hid hf'
    have HS := Lib.hid hS
    have HDF := Lib.hid hdf
    clear hS hf' hdf
    gi_wp2
    refine wide_quiet_tail 5 (by kernel_rfl) (by kernel_rfl) (by simp) ?_
    simp only [List.take_succ_cons, List.take_zero, List.drop_succ_cons, List.drop_zero]
    repeat (go_big_quiet_step (first | (go_at_call 45; refine Calls.quiet_of (HPL.out _))))
    refine wpQuiet_nil ?_
    rintro _ ⟨nq, rfl⟩
    have hb0 : Blk (W.drewN nq) b (hdr b m (some ⟨g, 0, none⟩) cs.length f l.length) 49 := HS.out.head
    have hb1 := hb0.set 3 (.int .i64 f')
    have hb2 := hb1.set 4 (.int .i64 ((l.length : Int) - 1))
    have f3 : (W.drewN nq).frozen? ⟨b, 3, none⟩ = false := hb0.free 3
    have d3 : (W.drewN nq).cell? ⟨b, 3, none⟩ = some (.int .i64 f) := hb0.cell 3
    have d0 : ((W.drewN nq).setCell ⟨b, 3, none⟩ (.int .i64 f')).cell? ⟨w.heap.size, 0, none⟩ = some (.pointer (some ⟨b, 2, none⟩)) :=
      (show Boxed _ w.heap.size 78 _ from (Below.heap_setCell _ _ _ _ (by have := hhd.lt; simp; omega)).trans HS.out.ptr).cell
    have d4 : ((W.drewN nq).setCell ⟨b, 3, none⟩ (.int .i64 f')).cell? ⟨b, 4, none⟩ = some (.int .i64 l.length) := hb1.cell 4
    have f4 : ((W.drewN nq).setCell ⟨b, 3, none⟩ (.int .i64 f')).frozen? ⟨b, 4, none⟩ = false := hb1.free 4
    have HB2 := Lib.hid hb2
    clear hb0 hb1 hb2
    gi_wp2
    have hdf2 : (((W.drewN nq).setCell ⟨b, 3, none⟩ (.int .i64 f')).setCell ⟨b, 4, none⟩ (.int .i64 ((l.length : Int) - 1))).heap[D]? = some (.deferred (some [])) := by
      rw [Below.heap_setCell _ _ _ _ (by have := hhd.lt; simp; omega), Below.heap_setCell _ _ _ _ (by have := hhd.lt; simp; omega)]; exact HDF.out
    refine ⟨by simp, .inl ⟨_, _, rfl, run_takeDeferred hdf2, ?_⟩⟩
    have hput : ∀ k, k < w.heap.size → ((((W.drewN nq).setCell ⟨b, 3, none⟩ (.int .i64 f')).setCell ⟨b, 4, none⟩ (.int .i64 ((l.length : Int) - 1))).putObj D (.deferred none)).heap[k]? = (((W.drewN nq).setCell ⟨b, 3, none⟩ (.int .i64 f')).setCell ⟨b, 4, none⟩ (.int .i64 ((l.length : Int) - 1))).heap[k]? :=
      fun k hk => World.putObj_heap_other (by omega)
    have hlen : (l.take i ++ l.drop (i + 1)).length = l.length - 1 := by simp; omega
    refine ⟨_, results_none rfl _ _ _, ⟨_, rfl⟩, ⟨?_, .inr rfl, fun _ => ⟨?_, HG.out⟩, ?_, by rw [gone_length]; exact hmost, hroom⟩, ?_⟩
    · refine (hput b hhd.lt).trans ?_
      have h2 := HB2.out
      rw [gone_length, hlen, ← HF'.out]
      rw [show ((l.length : Int) - 1) = ((l.length - 1 : Nat) : Int) by omega] at h2 ⊢
      exact h2
    · refine (hput g hcs.lt).trans ?_
      rw [Below.heap_setCell _ _ _ _ (by simpa using HG.out), Below.heap_setCell _ _ _ _ (by simpa using HG.out)]
      exact HS.out.cells
    · rw [← HF'.out, HF'.out]; exact Is.take HR.out hi
    · have ht := ((HS.out.touch.drewN nq).setIn (ringFp_mem b _) (i := 3) (.int .i64 f')).setIn (ringFp_mem b _) (i := 4) (.int .i64 ((l.length : Int) - 1))
      exact ⟨ht.os, ht.tape, ht.output, Nat.le_trans ht.size (by simp), fun k hk hn => (hput k hk).trans (ht.block k hk hn)⟩
end Go.Proofs.Ytnpageceaknofaa
