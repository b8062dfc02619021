/-
  The law package of frames: FrameKnown.
-/
import Derived.Test.YtfjopbgnijfajaaFrL
import Derived.OwnWalk
namespace Go.Proofs.Ytfjopbgnijfajaa
set_option linter.unusedSimpArgs false
set_option linter.unusedVariables false
open Go.RowKit Sha
section
variable {P : Program} {ops : Array Oper} {rest : List Oper} {o : Oper} {a : Act} {w : World} {Q : Exit → Act → World → Prop} {K : Act → World → Prop}
theorem made8 (n : Nat) : (madeCells (Value.cells (.int .u8 0)) (n * 1)).toList = (List.replicate n (0 : Int)).map v8 := by
  rw [Nat.mul_one]
  apply List.ext_getElem?
  intro i
  by_cases hi : i < n
  · simp [madeCells, Value.cells, hi, v8, Nat.mod_one]
  · simp [madeCells, Value.cells, hi]
/-- 'make([]byte, n)': noughts. -/
theorem wp_make8 (l c : Operand) (t e : TypeId) (ho : o.op = .makeSlice t l c) (ht : P.underlying t = some (.slice e)) (hi : (P.info? e).map (fun i => (i.zero, i.size, i.bytes)) = some (some (.int .u8 0), 1, 1)) (n : Nat) (hl : a.eval l = .int .i64 n) (hc : a.eval c = .int .i64 n) (hn : n ≤ 1000000)
    (h : ∀ w', w'.ownsRow w.heap.size e 1 (.slice (some ⟨w.heap.size, 0, none⟩) n n) n ((List.replicate n (0 : Int)).map v8) → RowKit.Below w.heap.size w w' → K (a.put o.dst (.slice (some ⟨w.heap.size, 0, none⟩) n n)) w') : o.wp P a w K Q := by
  obtain ⟨i, hi, hz0, hz1, hz2⟩ := info_parts hi
  obtain ⟨w', hrun, r1, r2⟩ := run_make_full (P := P) w w.heap.size t e i (.int .u8 0) 1 ht hi hz0 hz1 .i64 .i64 n (by rw [hz2]; omega) (by unfold maxLen; omega) (Nat.le_refl _)
  unfold Oper.wp
  simp [execOp, ho, hl, hc, hrun, Result.andThen]
  rw [made8] at r1
  exact h w' r1 ((RowKit.Below.refl _ _).grown r2 (Nat.le_refl _) (by simp))
end
theorem zeros_good {w' : World} {B g n : Nat} (h : w'.ownsRow B 5 1 (.slice (some ⟨g, 0, none⟩) n n) n ((List.replicate n (0 : Int)).map v8)) : GoodS w' (List.replicate n 0, some ⟨g, 0, none⟩, n) := by
  obtain ⟨p, cap, hv, hl, hm, hA, hx, hn⟩ := own_at h
  cases hv
  exact ⟨fun m hm => by rw [List.eq_of_mem_replicate hm]; omega, hA, by simp, by unfold maxLen at hm; simp only; omega, hn⟩
theorem put_nil0 : Frm.put [] = ([], 2) := by decide +kernel
theorem put_4001 : Frm.put (List.replicate 4001 0) = ([], 3) := by
  rw [fput_no (by rw [fbad_long (by rw [List.length_replicate]; omega)]; omega), fbad_long (by rw [List.length_replicate]; omega)]
theorem split_bad : Frm.split [1, 0, 0, 0, 67, 190, 183, 232, 98] = ([], 0) := Frm.split_none (by decide +kernel)
theorem split_zero8 : Frm.split (List.replicate 8 0) = ([], 0) := Frm.split_none (by decide +kernel)
theorem split_nil0 : Frm.split [] = ([], 0) := Frm.split_none (by decide)
theorem fsize_0 : fsize 0 = 0 := by decide
theorem fsize_4000 : fsize 4000 = 4008 := by decide
set_option maxRecDepth 100000 in
set_option maxHeartbeats 2000000 in
theorem known_any (F : FrameOK) (w : World) : Calls Try.prog 5 #[] w fun e w' => e = .returned (.bool true) ∧ Below w.heap.size w w' := by
  go_enter Try.func5, Try.ntmps5
  go_wp2_with fail
  refine (F.put [] 0 none 0 w rfl (good_none w)).mono ?_
  rw [put_nil0]
  rintro e1 w1 ⟨v1, rfl, _, hb1⟩
  have B1 := Lib.hid hb1
  clear hb1
  go_wp2_with (refine BigFrame.wpList_want rfl (fun K hK => wp_make8 _ _ 26 5 rfl Try.underlying26 kbyte_info 4001 rfl rfl (by omega) ?_); intro w2 ho2 hb2; refine hK _ _ ?_; clear hK K; have G2 := Lib.hid (zeros_good ho2); have B2 := Lib.hid (bel_on B1.out hb2); clear ho2 hb2; generalize w1.heap.size = g1 at *)
  refine (F.put (List.replicate 4001 0) 4001 (some ⟨g1, 0, none⟩) 4001 w2 (by simp) G2.out).mono ?_
  rw [put_4001]
  rintro e3 w3 ⟨v3, rfl, _, hb3⟩
  have B3 := Lib.hid (bel_on B2.out hb3)
  clear hb3 G2 B2 B1
  go_wp2_with fail
  refine (one_any w3).mono ?_
  rintro e4 w4 ⟨rfl, hw4⟩
  have K4 : Blk w4 w3.heap.size oneCells.toList 5 := by rw [hw4]; exact Blk.new w3 oneCells 5
  have B4 := Lib.hid (show Below w.heap.size w w4 by rw [hw4]; exact bel_alloc B3.out _)
  have HG := Lib.hid (show w.heap.size ≤ w3.heap.size from B3.out.size)
  clear hw4 B3
  generalize w3.heap.size = g3 at *
  have c8 : w4.cell? ⟨g3, 8, none⟩ = some (.int .u8 97) := K4.cell 8
  have f8 : w4.frozen? ⟨g3, 8, none⟩ = false := K4.free 8
  have KK := Lib.hid K4
  clear K4
  go_wp2_with fail
  have K5 := KK.out.set 8 (.int .u8 98)
  have B5 := Lib.hid (B4.out.setCell (p := ⟨g3, 8, none⟩) HG.out (.int .u8 98))
  generalize w4.setCell ⟨g3, 8, none⟩ (.int .u8 98) = w5 at *
  have G5 := Lib.hid (show GoodS w5 ([1, 0, 0, 0, 67, 190, 183, 232, 98], some ⟨g3, 0, none⟩, 9) from ⟨by simp, Or.inr ⟨g3, 0, rfl, fun i v hi => by rw [Nat.zero_add, K5.cell]; exact hi⟩, by simp, by simp, by intro h; cases h⟩)
  clear K5 c8 f8 KK B4
  refine (awake_any F w5).mono ?_
  rintro e6 w6 ⟨rfl, hb6⟩
  have B6 := Lib.hid (bel_on B5.out hb6)
  have G6 := Lib.hid (G5.out.below hb6)
  clear hb6 G5 B5
  go_wp2_with fail
  refine (F.size 0 w6 (by omega)).mono ?_
  rw [fsize_0]
  rintro e7 w7 ⟨rfl, hb7⟩
  have B7 := Lib.hid (bel_on B6.out hb7)
  have G7 := Lib.hid (G6.out.below hb7)
  clear hb7 G6 B6
  go_wp2_with fail
  refine (F.size 4000 w7 (by omega)).mono ?_
  rw [fsize_4000]
  rintro e8 w8 ⟨rfl, hb8⟩
  have B8 := Lib.hid (bel_on B7.out hb8)
  have G8 := Lib.hid (G7.out.below hb8)
  clear hb8 G7 B7
  go_wp2_with (refine BigFrame.wpList_want rfl (fun K hK => wp_make8 _ _ 26 5 rfl Try.underlying26 kbyte_info 8 rfl rfl (by omega) ?_); intro w9 ho9 hb9; refine hK _ _ ?_; clear hK K; have Z9 := Lib.hid (zeros_good ho9); have B9 := Lib.hid (bel_on B8.out hb9); have G9 := Lib.hid (G8.out.below hb9); clear ho9 hb9; generalize w8.heap.size = g8 at *)
  refine (splits0_any F (List.replicate 8 0) 8 (some ⟨g8, 0, none⟩) 8 0 w9 (by simp) Z9.out (by omega) (by omega)).mono ?_
  rw [split_zero8, show (decide (((([], 0) : List (List Int) × Nat).2 : Int) = 0) && decide ((([], 0) : List (List Int) × Nat).1 = [])) = true by decide]
  rintro e10 w10 ⟨rfl, hb10⟩
  have B10 := Lib.hid (bel_on B9.out hb10)
  have G10 := Lib.hid (G9.out.below hb10)
  clear hb10 G9 B9 Z9 G8 B8
  go_wp2_with fail
  refine (splits0_any F [] 0 none 0 0 w10 rfl (good_none _) (by omega) (by omega)).mono ?_
  rw [split_nil0, show (decide (((([], 0) : List (List Int) × Nat).2 : Int) = 0) && decide ((([], 0) : List (List Int) × Nat).1 = [])) = true by decide]
  rintro e11 w11 ⟨rfl, hb11⟩
  have B11 := Lib.hid (bel_on B10.out hb11)
  have G11 := Lib.hid (G10.out.below hb11)
  clear hb11 G10 B10
  go_wp2_with fail
  refine (splits0_any F _ 9 (some ⟨g3, 0, none⟩) 9 0 w11 rfl G11.out (by omega) (by omega)).mono ?_
  rw [split_bad, show (decide (((([], 0) : List (List Int) × Nat).2 : Int) = 0) && decide ((([], 0) : List (List Int) × Nat).1 = [])) = true by decide]
  rintro e12 w12 ⟨rfl, hb12⟩
  go_wp2_with fail
  go_ret
  exact ⟨rfl, bel_on B11.out hb12⟩
end Go.Proofs.Ytfjopbgnijfajaa
