/-
  The kit's SameNote.
  The kit's marks, LentBytes and KeptBytes.
  The law package of frames: FramePuts, FrameSplits.
  The law package of frames: FramePuts.
  The law package of frames: FrameKnown.
  The kit's Pick.
  The law package of frames: FrameBack, FrameTorn.
  Bytes of the call's own as a block: what lies at its front, written over at one place; bytes turned by another.
  The law package of frames: FrameSpoilt.
  Going through frames by an iterator function: which records come, what has come so far; a cut in a fence. No function of the program is named here.
-/
import Derived.Test.YteepaoklibflpaaR12
import Derived.Test.YteepaoklibflpaaR9
import Derived.Laws.BytesArg
import Derived.WalkSpells
import Derived.IntWalk
import Derived.WalkLawsBesides
import Derived.Test.YteepaoklibflpaaR14
import Derived.OwnWalk
import Derived.Test.YteepaoklibflpaaRows
import Derived.WalkKit
import Derived.Lib.Hide
import Derived.Test.YteepaoklibflpaaR3
import Derived.Test.YteepaoklibflpaaR8
import Derived.Test.YteepaoklibflpaaR13
import Derived.RangeFuncNested
import Derived.RangeFuncBound
import Derived.RangeFuncBox
import Derived.RangeFuncCalls
import Derived.RangeFuncLeaves
import Derived.Shelf.Abstract
import Derived.Shelf.RegionOpen
import Derived.OwnWalkIn
import Derived.TacticsInMore
import Derived.LoopNIn
import Derived.LoopIn
import Derived.Maps.AppendAt
namespace Go.Proofs.Yteepaoklibflpaa
section
set_option linter.unusedSimpArgs false
set_option linter.unusedVariables false
open Go.RowKit Sha Nte
attribute [local go_sem ↓] execOp_loadInt execOp_loadBool execOp_loadBytes execOp_loadIds execOp_loadWords execOp_boxNote execOp_loadId execOp_loadCall execOp_loadBall execOp_eqId execOp_eqCall execOp_eqBall
set_option maxRecDepth 100000 in
set_option maxHeartbeats 40000000 in
theorem sameNote_any (x y : Not) (h k : NHd) (w : World) (hx : NGood w x h) (hy : NGood w y k) :
    Calls Try.prog 13 #[.agg (ncells x h).toArray, .agg (ncells y k).toArray] w fun e w' => e = .returned (.bool (decide (x = y))) ∧ Below w.heap.size w w' := by
  have HX := Lib.hid hx
  have HY := Lib.hid hy
  obtain ⟨z, hz⟩ : ∃ z, z = decide (x = y) := ⟨_, rfl⟩
  rw [← hz]
  rw [not_ext] at hz
  have HZ := Lib.hid hz
  clear hz hx hy
  obtain ⟨n1, hn1⟩ : ∃ n, n = x.X.length := ⟨_, rfl⟩
  obtain ⟨n2, hn2⟩ : ∃ n, n = x.I.length := ⟨_, rfl⟩
  obtain ⟨n3, hn3⟩ : ∃ n, n = x.W.length := ⟨_, rfl⟩
  obtain ⟨m1, hm1⟩ : ∃ n, n = y.X.length := ⟨_, rfl⟩
  obtain ⟨m2, hm2⟩ : ∃ n, n = y.I.length := ⟨_, rfl⟩
  obtain ⟨m3, hm3⟩ : ∃ n, n = y.W.length := ⟨_, rfl⟩
  have N1 := Lib.hid hn1
  have N2 := Lib.hid hn2
  have N3 := Lib.hid hn3
  have M1 := Lib.hid hm1
  have M2 := Lib.hid hm2
  have M3 := Lib.hid hm3
  clear hn1 hn2 hn3 hm1 hm2 hm3
  obtain ⟨b0, e0⟩ : ∃ b, (x.K == y.K) = b := ⟨_, rfl⟩
  obtain ⟨b1, e1⟩ : ∃ b, (x.F == y.F) = b := ⟨_, rfl⟩
  obtain ⟨b2, e2⟩ : ∃ b, (x.T == y.T) = b := ⟨_, rfl⟩
  obtain ⟨b3, e3⟩ : ∃ b, b = decide (x.C1 = y.C1 ∧ x.C2 = y.C2 ∧ x.C3 = y.C3) := ⟨_, rfl⟩
  obtain ⟨b4, e4⟩ : ∃ b, (x.S == y.S) = b := ⟨_, rfl⟩
  obtain ⟨b5, e5⟩ : ∃ b, (x.H == y.H) = b := ⟨_, rfl⟩
  obtain ⟨b6, e6⟩ : ∃ b, b = decide (x.B1 = y.B1 ∧ x.B2 = y.B2) := ⟨_, rfl⟩
  obtain ⟨b7, e7⟩ : ∃ b, b = decide (x.O1 = y.O1 ∧ x.O2 = y.O2) := ⟨_, rfl⟩
  obtain ⟨b8, e8⟩ : ∃ b, (x.Y == y.Y) = b := ⟨_, rfl⟩
  obtain ⟨b9, e9⟩ : ∃ b, b = decide (x.D = y.D) := ⟨_, rfl⟩
  obtain ⟨b10, e10⟩ : ∃ b, b = decide (x.X = y.X) := ⟨_, rfl⟩
  obtain ⟨b11, e11⟩ : ∃ b, b = decide (x.I = y.I) := ⟨_, rfl⟩
  obtain ⟨b12, e12⟩ : ∃ b, b = decide (x.W = y.W) := ⟨_, rfl⟩
  have HZ := Lib.hid (show z = (b0 && b1 && b2 && b3 && b4 && b5 && b6 && b7 && b8 && b9 && b10 && b11 && b12) from by rw [HZ.out, e0, e1, e2, ← e3, e4, e5, ← e6, ← e7, e8, ← e9, ← e10, ← e11, ← e12])
  have E10 := Lib.hid e10
  have E11 := Lib.hid e11
  have E12 := Lib.hid e12
  have E0 := Lib.hid e0
  have E1 := Lib.hid e1
  have E2 := Lib.hid e2
  have E3 := Lib.hid e3
  have E4 := Lib.hid e4
  have E5 := Lib.hid e5
  have E6 := Lib.hid e6
  have E7 := Lib.hid e7
  have E8 := Lib.hid e8
  have E9 := Lib.hid e9
  clear e0 e1 e2 e3 e4 e5 e6 e7 e8 e9 e10 e11 e12
  obtain ⟨g, w1, r1, hg1, hl1, K1, B1⟩ := box_note w x h
  obtain ⟨g2, w2, r2, hg2, hl2, K2, B2⟩ := box_note w1 y k
  have R1 := Lib.hid (K1.below B2 hl1).range
  have R2 := Lib.hid K2.range
  have P1 := Lib.hid (nblk_of R1.out HX.out.ok.len)
  have P2 := Lib.hid (nblk_of R2.out HY.out.ok.len)
  have HB2 := Lib.hid (B1.trans (B2.mono B1.size))
  clear K1 B1 K2 B2 hg1 hg2 hl1 hl2
  cases b0; rotate_left; cases b1; rotate_left; cases b2; rotate_left; cases b3; rotate_left; cases b4; rotate_left; cases b5; rotate_left; cases b6; rotate_left; cases b7; rotate_left; cases b8; rotate_left; cases b9; rotate_left; cases b10; rotate_left; cases b11; rotate_left; cases b12; rotate_left
  all_goals
    go_enter Try.func13, Try.ntmps13
    go_wp2_with fail
    clear r1 r2
    try (have a := P1.out.c0; have d := P2.out.c0; have e := E0.out; go_simp; go_wp2_with fail; clear a d e)
    try (have a := P1.out.c1; have d := P2.out.c1; have e := E1.out; go_simp; go_wp2_with fail; clear a d e)
    try (have a := P1.out.c2; have d := P2.out.c2; have e := E2.out; go_simp; go_wp2_with fail; clear a d e)
    try (have a := P1.out.c3; have d := P2.out.c3; have e := run_eqCall _ _ _ _ _ _ _ E3.out; go_simp; go_wp2_with fail; clear a d e)
    try (have a := P1.out.c6; have d := P2.out.c6; have e := E4.out; go_simp; go_wp2_with fail; clear a d e)
    try (have a := P1.out.c7; have d := P2.out.c7; have e := E5.out; go_simp; go_wp2_with fail; clear a d e)
    try (have a := P1.out.c8; have d := P2.out.c8; have e := run_eqBall _ _ _ _ _ E6.out; go_simp; go_wp2_with fail; clear a d e)
    try (have a := P1.out.c10; have d := P2.out.c10; have e := run_eqBall _ _ _ _ _ E7.out; go_simp; go_wp2_with fail; clear a d e)
    try (have a := P1.out.c12; have d := P2.out.c12; have e := E8.out; go_simp; go_wp2_with fail; clear a d e)
    try (have a := P1.out.c13; have d := P2.out.c13; have e := fun o1 o2 => run_eqId o1 o2 _ _ HX.out.ok.len HY.out.ok.len _ E9.out; go_simp; go_wp2_with fail; clear a d e)
    try (have a := P1.out.c45; have d := P2.out.c45; rw [← N1.out] at a; rw [← M1.out] at d; go_simp; go_wp2_with fail; refine (same_any x.X y.X n1 m1 h.q k.q h.c k.c w2 N1.out.symm M1.out.symm (HX.out.X.below HB2.out) (HY.out.X.below HB2.out) HX.out.ok.X HY.out.ok.X).mono ?_; rw [← E10.out]; rintro e w' ⟨rfl, rfl⟩; clear a d; go_wp2_with fail)
    try (have a := P1.out.c46; have d := P2.out.c46; rw [← N2.out] at a; rw [← M2.out] at d; go_simp; go_wp2_with fail; have g1 := HX.out.I.below HB2.out; have g3 := HY.out.I.below HB2.out; rw [← N2.out] at g1; rw [← M2.out] at g3; refine (sameIds_any x.I y.I n2 m2 h.r k.r h.d k.d w2 g1 g3).mono ?_; clear g1 g3; rw [← E11.out]; rintro e w3 ⟨rfl, hb⟩; have HB3 := Lib.hid (HB2.out.trans (hb.mono HB2.out.size)); have A47 := Lib.hid (nblk_of (rangeN_on R1.out hb) HX.out.ok.len).c47; have D47 := Lib.hid (nblk_of (rangeN_on R2.out hb) HY.out.ok.len).c47; clear a d hb; go_wp2_with fail)
    try (have a := A47.out; have d := D47.out; rw [← N3.out] at a; rw [← M3.out] at d; go_simp; go_wp2_with fail; have g1 := HX.out.W.below HB3.out; have g3 := HY.out.W.below HB3.out; rw [← N3.out] at g1; rw [← M3.out] at g3; refine (sameWords_any x.W y.W n3 m3 h.s k.s h.e k.e w3 g1 g3).mono ?_; clear g1 g3; rw [← E12.out]; rintro e w4 ⟨rfl, hb⟩; have HB4 := Lib.hid (HB3.out.trans (hb.mono HB3.out.size)); clear hb a d; go_wp2_with fail)
    go_ret
    first
      | exact ⟨by rw [HZ.out]; simp; done, HB4.out⟩
      | exact ⟨by rw [HZ.out]; simp; done, HB3.out⟩
      | exact ⟨by rw [HZ.out]; simp; done, HB2.out⟩
end
section
set_option linter.unusedSimpArgs false
set_option linter.unusedVariables false
open Go.RowKit Sha
def markList : List Int := [8, 167, 44, 2]
theorem markList_bd : ∀ n ∈ markList, 0 ≤ n ∧ n ≤ 255 := by unfold markList; decide
theorem markList_length : markList.length = 4 := rfl
attribute [irreducible] markList
end
section
set_option linter.unusedSimpArgs false
set_option linter.unusedVariables false
open Go.RowKit Sha
/-- Bytes of the call's own, whatever they are. -/
def W8 (w : World) (B : Nat) (v : Value) (n : Nat) : Prop := ∃ xs, Own8 w B 5 v n xs
theorem own8_belowF {w w' : World} {B n : Nat} {v : Value} {xs : List Value} (h : Own8 w B 5 v n xs) (hb : Below w.heap.size w w') : Own8 w' B 5 v n xs :=
  ⟨own_belowS h.row hb, h.ints.carry fun g hg => hb.block g (h.row.lt g hg).2⟩
theorem W8.on {w w' : World} {B n : Nat} {v : Value} (h : W8 w B v n) (hb : Below w.heap.size w w') : W8 w' B v n := by
  obtain ⟨xs, h⟩ := h
  exact ⟨xs, own8_belowF h hb⟩
/-- What is written over a slice leaves another one a slice of bytes. -/
theorem W8.over {w w' : World} {B B' n n' : Nat} {v v' : Value} {xs : List Value} (hv : Own8 w B 5 v n xs) (h : W8 w B' v' n')
    (ho : ∀ k, some k ≠ v.ownBlock → w'.heap[k]? = w.heap[k]?) (hs : ∀ g cs, v.ownBlock = some g → Blk w g cs 5 → ∃ cs', Blk w' g cs' 5 ∧ cs'.length = cs.length ∧ ∀ u ∈ cs', ∃ n, u = Value.int .u8 n) : W8 w' B' v' n' := by
  obtain ⟨ys, hr, hi⟩ := h
  rcases hr.2 with ⟨hv', h0⟩ | ⟨g, cap, cur, hv', hg, hh, h1, h2, h3, h4⟩
  · exact ⟨ys, ⟨hr.1, Or.inl ⟨hv', h0⟩⟩, by rw [hv']; exact Ints8.nil _⟩
  · by_cases e : some g = v.ownBlock
    · obtain ⟨cs', hb', hl, hints⟩ := hs g cur.toList e.symm (by unfold Blk; simpa using hh)
      refine ⟨cs'.take n', ⟨by rw [List.length_take, hl]; simp; omega, Or.inr ⟨g, cap, cs'.toArray, hv', hg, hb', h1, h2, by simp [hl]; omega, by simp⟩⟩, ?_⟩
      rw [hv']
      exact ints_block hb' (by simpa using hints)
    · have hk := ho g e
      refine ⟨ys, ⟨hr.1, Or.inr ⟨g, cap, cur, hv', hg, by rw [hk]; exact hh, h1, h2, h3, h4⟩⟩, ?_⟩
      rw [hv'] at hi ⊢
      exact hi.carry fun g' hg' => by cases hg'; exact hk
/-- .. and the slice of slices as it was. -/
theorem outer_over {w w' : World} {B B' n : Nat} {v v' : Value} {xs : List Value} {ys : List SHdr} (hv : Own8 w B 5 v n xs) (h : w.ownsRow B' 28 1 v' ys.length (ys.map cellS))
    (ho : ∀ k, some k ≠ v.ownBlock → w'.heap[k]? = w.heap[k]?) : w'.ownsRow B' 28 1 v' ys.length (ys.map cellS) := by
  refine ⟨h.1, ?_⟩
  rcases h.2 with h' | ⟨g, cap, cur, hv', hg, hh, h4⟩
  · exact Or.inl h'
  · refine Or.inr ⟨g, cap, cur, hv', hg, ?_, h4⟩
    rw [ho g ?_]
    · exact hh
    · intro e
      rcases hv.row.2 with ⟨hv2, _⟩ | ⟨g2, cap2, cur2, hv2, _, hh2, _⟩
      · rw [hv2] at e; cases e
      · rw [hv2] at e
        cases e
        rw [hh2] at hh
        injection hh with hh; injection hh with _ ht
        exact us_ne ht
end
section
set_option linter.unusedSimpArgs false
set_option linter.unusedVariables false
open Go.RowKit Sha
theorem fput_bytes {zs : List Int} (h : ∀ n ∈ zs, 0 ≤ n ∧ n ≤ 255) : ∀ n ∈ (Frm.put zs).1, 0 ≤ n ∧ n ≤ 255 := by
  unfold Frm.put
  split
  · exact Frm.fr_bytes h
  · simp
theorem fjoin_bytes {l : List (List Int)} (h : ∀ b ∈ l, ∀ n ∈ b, 0 ≤ n ∧ n ≤ 255) : ∀ n ∈ (Frm.join l).1, 0 ≤ n ∧ n ≤ 255 := by
  unfold Frm.join
  split
  · exact Frm.frs_bytes h
  · simp
end
section
set_option linter.unusedSimpArgs false
set_option linter.unusedVariables false
open Go.RowKit Sha
section
variable {P : Program} {ops : Array Oper} {rest : List Oper} {o : Oper} {a : Act} {w : World} {Q : Exit → Act → World → Prop} {K : Act → World → Prop}
theorem made8 (n : Nat) : (madeCells (Value.cells (.int .u8 0)) (n * 1)).toList = (List.replicate n (0 : Int)).map v8 := by
  rw [Nat.mul_one]
  apply List.ext_getElem?
  intro i
  by_cases hi : i < n
  · simp [madeCells, Value.cells, hi, v8, Nat.mod_one]
  · simp [madeCells, Value.cells, hi]
/-- 'make([]byte, n)': noughts. -/
theorem wp_make8 (l c : Operand) (t e : TypeId) (ho : o.op = .makeSlice t l c) (ht : P.underlying t = some (.slice e)) (hi : (P.info? e).map (fun i => (i.zero, i.size, i.bytes)) = some (some (.int .u8 0), 1, 1)) (n : Nat) (hl : a.eval l = .int .i64 n) (hc : a.eval c = .int .i64 n) (hn : n ≤ 1000000)
    (h : ∀ w', w'.ownsRow w.heap.size e 1 (.slice (some ⟨w.heap.size, 0, none⟩) n n) n ((List.replicate n (0 : Int)).map v8) → RowKit.Below w.heap.size w w' → K (a.put o.dst (.slice (some ⟨w.heap.size, 0, none⟩) n n)) w') : o.wp P a w K Q := by
  obtain ⟨i, hi, hz0, hz1, hz2⟩ := info_parts hi
  obtain ⟨w', hrun, r1, r2⟩ := run_make_full (P := P) w w.heap.size t e i (.int .u8 0) 1 ht hi hz0 hz1 .i64 .i64 n (by rw [hz2]; omega) (by unfold maxLen; omega) (Nat.le_refl _)
  unfold Oper.wp
  simp [execOp, ho, hl, hc, hrun, Result.andThen]
  rw [made8] at r1
  exact h w' r1 ((RowKit.Below.refl _ _).grown r2 (Nat.le_refl _) (by simp))
end
theorem zeros_good {w' : World} {B g n : Nat} (h : w'.ownsRow B 5 1 (.slice (some ⟨g, 0, none⟩) n n) n ((List.replicate n (0 : Int)).map v8)) : GoodS w' (List.replicate n 0, some ⟨g, 0, none⟩, n) := by
  obtain ⟨p, cap, hv, hl, hm, hA, hx, hn⟩ := own_at h
  cases hv
  exact ⟨fun m hm => by rw [List.eq_of_mem_replicate hm]; omega, hA, by simp, by unfold maxLen at hm; simp only; omega, hn⟩
theorem put_nil0 : Frm.put [] = ([], 2) := by decide +kernel
theorem put_4001 : Frm.put (List.replicate 4001 0) = ([], 3) := by
  rw [fput_no (by rw [fbad_long (by rw [List.length_replicate]; omega)]; omega), fbad_long (by rw [List.length_replicate]; omega)]
theorem split_bad : Frm.split [1, 0, 0, 0, 67, 190, 183, 232, 98] = ([], 0) := Frm.split_none (by decide +kernel)
theorem split_zero8 : Frm.split (List.replicate 8 0) = ([], 0) := Frm.split_none (by decide +kernel)
theorem split_nil0 : Frm.split [] = ([], 0) := Frm.split_none (by decide)
theorem fsize_0 : fsize 0 = 0 := by decide
theorem fsize_4000 : fsize 4000 = 4008 := by decide
end
section
set_option linter.unusedSimpArgs false
set_option linter.unusedVariables false
open Go.RowKit Sha
def pickOf (x n : Int) : Int := if n < 1 then 0 else x % n
theorem tmod_bd (x n : Int) (h0 : 1 ≤ n) : -n < x.tmod n ∧ x.tmod n < n := by
  rw [Int.tmod_eq_emod]
  have h1 := Int.emod_nonneg x (show n ≠ 0 by omega)
  have h2 := Int.emod_lt_of_pos x (show 0 < n by omega)
  have h3 : (n.natAbs : Int) = n := by omega
  split
  · omega
  · rename_i h
    have h4 : x % n ≠ 0 := fun h5 => h (Or.inr (Int.dvd_of_emod_eq_zero h5))
    omega
theorem pick_pos (x n : Int) (h0 : 1 ≤ n) (h : ¬ x.tmod n < 0) : pickOf x n = x.tmod n := by
  unfold pickOf
  rw [if_neg (by omega)]
  rw [Int.tmod_eq_emod] at h ⊢
  have h2 := Int.emod_lt_of_pos x (show 0 < n by omega)
  have h3 : (n.natAbs : Int) = n := by omega
  split at h <;> rename_i h4 <;> simp [h4] <;> omega
theorem pick_neg (x n : Int) (h0 : 1 ≤ n) (h1 : n ≤ 9223372036854775807) (h : x.tmod n < 0) : pickOf x n = wrap64 (x.tmod n + n) := by
  have hb := tmod_bd x n h0
  have hw : wrap64 (x.tmod n + n) = x.tmod n + n := IntWalk.wrap64_in _ (by omega)
  rw [hw]
  unfold pickOf
  rw [if_neg (by omega)]
  rw [Int.tmod_eq_emod] at h ⊢
  have h2 := Int.emod_nonneg x (show n ≠ 0 by omega)
  have h3 : (n.natAbs : Int) = n := by omega
  split at h <;> rename_i h4 <;> simp [h4] <;> omega
theorem pickOf_bd (x n : Int) (h0 : 1 ≤ n) : 0 ≤ pickOf x n ∧ pickOf x n < n := by
  unfold pickOf
  rw [if_neg (by omega)]
  exact ⟨Int.emod_nonneg x (by omega), Int.emod_lt_of_pos x (by omega)⟩
end
section
set_option linter.unusedSimpArgs false
set_option linter.unusedVariables false
open Go.RowKit Sha
theorem join_err {l : List (List Int)} {b : List Int} {er : Int} (h : (b, er) = Frm.join l) (he : er ≠ 0) : b = [] := by
  unfold Frm.join at h
  split at h
  · cases h; exact absurd rfl he
  · cases h; rfl
theorem join_ok {l : List (List Int)} {b : List Int} (h : (b, (0 : Int)) = Frm.join l) : b = Frm.frs l ∧ ∀ x ∈ l, Frm.Rec x := by
  unfold Frm.join at h
  split at h
  · rename_i h0; cases h; exact ⟨rfl, Frm.joinE_ok h0⟩
  · rename_i h0
    have := (Prod.ext_iff.1 h).2
    exact absurd this.symm h0
theorem fsize_rec {x : List Int} (h : Frm.Rec x) (m : Nat) (hm : m = x.length) : fsize (m : Int) = ((8 + m : Nat) : Int) := by
  unfold fsize
  have h1 := h.one
  have h2 := h.most
  rw [if_neg (by omega)]; omega
theorem frs_take {l : List (List Int)} {k : Nat} (hk : k < l.length) : (Frm.frs (l.take (k + 1))).length = (Frm.frs (l.take k)).length + (8 + l[k].length) := by
  rw [List.take_succ_eq_append_getElem hk, Frm.frs_append, Frm.frs_cons, Frm.frs_nil, List.append_nil, List.length_append, Frm.fr_length]
theorem frs_bound (l : List (List Int)) (h : ∀ x ∈ l, Frm.Rec x) (k : Nat) : (Frm.frs (l.take k)).length ≤ 4008 * k := by
  induction k with
  | zero => simp [Frm.frs_nil]
  | succ k ih =>
    by_cases hk : k < l.length
    · rw [frs_take hk]; have := (h _ (List.getElem_mem hk)).most; omega
    · rw [List.take_of_length_le (by omega)] at ih ⊢; omega
theorem frs_many (l : List (List Int)) : l.length ≤ (Frm.frs l).length := by
  induction l with
  | nil => simp
  | cons b l ih => rw [Frm.frs_cons, List.length_append, Frm.fr_length, List.length_cons]; omega
theorem own_good {w : World} {B n : Nat} {v : Value} {xs : List Int} (h : w.ownsRow B 5 1 v n (xs.map v8)) (hb : ∀ m ∈ xs, 0 ≤ m ∧ m ≤ 255) : ∃ p c, v = .slice p n c ∧ xs.length = n ∧ GoodS w (xs, p, c) := by
  obtain ⟨p, cap, hv, hl, hm, hA, hx, hn⟩ := own_at h
  have hxl : xs.length = n := by simpa using hx
  exact ⟨p, cap, hv, hxl, hb, hA, by simp only; omega, by unfold maxLen at hm; simp only; omega, hn⟩
theorem cut_plain {l : List (List Int)} (h : ∀ x ∈ l, Frm.Rec x) (k cu t : Nat) (ht : t = (Frm.frs (l.take k)).length) (hk : k ≤ l.length) (htc : t ≤ cu) (hc : cu ≤ (Frm.frs l).length) (hlt : ∀ (hkl : k < l.length), cu < t + (8 + l[k].length)) :
    Frm.split ((Frm.frs l).take cu) = (l.take k, t) := by
  by_cases hkl : k < l.length
  · have h1 := Frm.split_torn (l.take k) (l.drop (k + 1)) l[k] (cu - t) (fun c hc => h c (List.mem_of_mem_take hc)) (h _ (List.getElem_mem hkl)) (by have := hlt hkl; omega)
    rw [← List.drop_eq_getElem_cons hkl, List.take_append_drop, ← ht, show t + (cu - t) = cu by omega] at h1
    exact h1
  · have e : l.take k = l := List.take_of_length_le (by omega)
    rw [e] at ht ⊢
    have ec : cu = (Frm.frs l).length := by omega
    rw [ec, List.take_length, Frm.split_join h, ht]
end
section
set_option linter.unusedSimpArgs false
set_option linter.unusedVariables false
open Go.RowKit Sha
theorem bits_u8 (a b : Int) : 0 ≤ bits BinOp.xor IntKind.u8 a b ∧ bits BinOp.xor IntKind.u8 a b ≤ 255 := by
  have h : bits BinOp.xor IntKind.u8 a b = IntKind.u8.wrap ((BitVec.ofInt 8 a ^^^ BitVec.ofInt 8 b).toNat : Int) := rfl
  rw [h, IntKind.wrap_u8]; omega
theorem xor_ne8 (a b : Int) (ha : 0 ≤ a ∧ a ≤ 255) (hb : 0 ≤ b ∧ b ≤ 255) (h0 : b ≠ 0) : bits BinOp.xor IntKind.u8 a b ≠ a := by
  intro h
  have e : bits BinOp.xor IntKind.u8 a b = IntKind.u8.wrap ((BitVec.ofInt 8 a ^^^ BitVec.ofInt 8 b).toNat : Int) := rfl
  rw [e, IntKind.wrap_u8] at h
  have hlt := (BitVec.ofInt 8 a ^^^ BitVec.ofInt 8 b).isLt
  have h1 : (BitVec.ofInt 8 a).toNat = a.toNat := by simp [BitVec.toNat_ofInt]; omega
  have h2 : (BitVec.ofInt 8 b).toNat = b.toNat := by simp [BitVec.toNat_ofInt]; omega
  have h3 : BitVec.ofInt 8 a ^^^ BitVec.ofInt 8 b = BitVec.ofInt 8 a := BitVec.eq_of_toNat_eq (by rw [h1]; omega)
  have h4 := congrArg (BitVec.ofInt 8 a ^^^ ·) h3
  simp only [← BitVec.xor_assoc, BitVec.xor_self, BitVec.zero_xor] at h4
  rw [h4] at h2
  simp at h2
  omega
theorem own_blk {w : World} {B n : Nat} {e : TypeId} {v : Value} {xs : List Value} (h : w.ownsRow B e 1 v n xs) (hn : 0 < n) : ∃ g cap rest, v = .slice (some ⟨g, 0, none⟩) n cap ∧ B ≤ g ∧ n ≤ cap ∧ cap ≤ maxLen ∧ Blk w g (xs ++ rest) e := by
  obtain ⟨_, h⟩ := h
  rcases h with ⟨_, h0⟩ | ⟨g, cap, cur, hv, hg, hh, h1, h2, h3, h4⟩
  · omega
  · refine ⟨g, cap, cur.toList.drop n, hv, hg, h1, h2, ?_⟩
    rw [Nat.mul_one] at h4
    rw [← h4, List.take_append_drop]
    unfold Blk; simpa using hh
theorem Blk.at {w : World} {g : Nat} {xs rest : List Value} {t : TypeId} (h : Blk w g (xs ++ rest) t) : At w (some ⟨g, 0, none⟩) xs := by
  refine Or.inr ⟨g, 0, rfl, fun i v hi => ?_⟩
  rw [Nat.zero_add, h.cell]
  rw [List.getElem?_append_left]
  · exact hi
  · by_cases hl : i < xs.length
    · exact hl
    · rw [List.getElem?_eq_none (by omega)] at hi; cases hi
theorem Blk.front_set {w : World} {g : Nat} {ys : List Int} {rest : List Value} {t : TypeId} (h : Blk w g (ys.map v8 ++ rest) t) (i : Nat) (hi : i < ys.length) (x : Int) : Blk (w.setCell ⟨g, i, none⟩ (v8 x)) g ((ys.set i x).map v8 ++ rest) t := by
  have := h.set i (v8 x)
  rwa [List.set_append_left _ _ (by simpa using hi), ← List.map_set] at this
end
section
set_option linter.unusedSimpArgs false
set_option linter.unusedVariables false
open Go.RowKit Sha
theorem spoilt_plain {l : List (List Int)} {b : List Int} (hb : b = Frm.frs l) (h : ∀ x ∈ l, Frm.Rec x) (hby : ∀ y ∈ l, ∀ n ∈ y, 0 ≤ n ∧ n ≤ 255) (i : Nat) (hi : i < l.length) (t kk : Nat) (ht : t = (Frm.frs (l.take i)).length) (h4 : 4 ≤ kk) (hk : kk < 8 + l[i].length) (old x : Int) (ho : b[t + kk]? = some old) (hx : 0 ≤ x ∧ x ≤ 255) (hne : x ≠ old) :
    Frm.split (b.set (t + kk) x) = (l.take i, t) := by
  have e : l = l.take i ++ l[i] :: l.drop (i + 1) := by rw [← List.drop_eq_getElem_cons hi, List.take_append_drop]
  have h1 := Frm.split_spoilt (l.take i) (l.drop (i + 1)) l[i] kk x (fun c hc => h c (List.mem_of_mem_take hc)) (h _ (List.getElem_mem hi)) (hby _ (List.getElem_mem hi)) hx h4 hk ?_
  · rw [← e, ← ht, ← hb] at h1
    exact h1
  · intro hx2
    have h2 : b[t + kk]? = (Frm.fr l[i])[kk]? := by
      have e2 : Frm.frs l = Frm.frs (l.take i) ++ (Frm.fr l[i] ++ Frm.frs (l.drop (i + 1))) := by
        conv => lhs; rw [e]
        rw [Frm.frs_append, Frm.frs_cons]
      rw [hb, ht, e2, List.getElem?_append_right (by omega), Nat.add_sub_cancel_left, List.getElem?_append_left (by rw [Frm.fr_length]; omega)]
    rw [h2, hx2] at ho
    exact hne (Option.some.inj ho)
theorem spoilt_room {l : List (List Int)} {b : List Int} (hb : b = Frm.frs l) (i : Nat) (hi : i < l.length) (t kk : Nat) (ht : t = (Frm.frs (l.take i)).length) (hk : kk < 8 + l[i].length) : t + kk < b.length := by
  have e : l = l.take i ++ l[i] :: l.drop (i + 1) := by rw [← List.drop_eq_getElem_cons hi, List.take_append_drop]
  rw [hb]
  conv => rhs; rw [e]
  rw [Frm.frs_append, Frm.frs_cons, List.length_append, List.length_append, Frm.fr_length]
  omega
end
section
set_option linter.unusedSimpArgs false
set_option linter.unusedVariables false
open Go.RowKit Sha
theorem wpListIn_cut {F : Fence} {m : Nat} {P : Program} {ops : Array Oper} {Q : Exit → Act → World → Prop} {a : Act} {w : World} {rest : List Oper} {o : Oper}
    (hgd : o.guard = none) (t : TypeId) (x : Operand) (lo hi : Option Operand) (ho : o.op = .slice t x lo hi none) (p : Option Addr) (l h cap : Nat)
    (hr : ∀ w, (Instr.sliceAt t (a.eval x) (lo.map a.eval) (hi.map a.eval) none).run P w = .ok (cutV p l h cap) w) (cs : List Value) (hc : cs.length ≤ cap)
    (hn : ∀ p', (∀ w', At w' p cs → At w' p' ((cs.take h).drop l)) → wpListIn F m P ops Q rest (a.put o.dst (.slice p' (h - l) (cap - l))) w) : wpListIn F m P ops Q (o :: rest) a w := by
  refine wpListIn_plain hgd fun K hK => ?_
  unfold Oper.wpIn
  refine ⟨by simp [Oper.about, ho], ?_⟩
  rw [Oper.semAt_plain F _ _ (by rw [ho]; intro c hc'; cases hc')]
  simp only [execOp, ho, Option.map_none, Sem.run_bind, hr, Result.andThen_ok, Sem.run_pure]
  exact hK _ _ (hn _ (fun _ hA => hA.sub l h cap hc))
/-- An append as a step of a region that draws its order, inside a fence: its plain law serves. -/
theorem stepIn_append {F : Fence} {m : Nat} {P : Program} {ops : Array Oper} {o : Oper} {a : Act} {w : World} {Q : Exit → Act → World → Prop} {K : Act → World → Prop} {E' : Prop}
    (hgd : o.guard = none) (s x : Operand) (t : TypeId) (ho : o.op = .call { callee := .builtin .append, args := #[s, x], argTypes := #[t, t] })
    (h : if Region.wanted o (yielded ops a.tmps) = true then Oper.wp P o a w K Q else True) : if Region.wanted o (yielded ops a.tmps) = true then Oper.wpIn F m P o a w K Q else E' := by
  have hw : Region.wanted o (yielded ops a.tmps) = true := by simp [Region.wanted, hgd]
  rw [if_pos hw] at h ⊢
  unfold Oper.wpIn
  refine ⟨by simp [Oper.about, ho, resolve, Target.leads, Sem.run_pure], ?_⟩
  rw [Oper.semAt_plain F _ _ (by rw [ho]; intro c hc'; cases hc')]
  unfold Oper.wp at h
  simp only [execOp, ho, resolve, invoke, builtin, Sem.run_bind, Sem.run_pure, Result.andThen_ok] at h ⊢
  generalize hr : (Builtin.append_ _ _ _).run P w = r at h ⊢
  cases r with
  | ok v w' => exact h
  | halt x w' => cases x <;> exact h
/-- An end and a record, as they come: good in the world in which the going began. -/
abbrev Come (w0 : World) := { y : Nat × SHdr // GoodS w0 y.2 ∧ y.2.1.length ≤ 4000 ∧ y.1 ≤ 1000001000 }
def encsC {w0 : World} (y : Come w0) : Array Value := #[.int .i64 (y.1.1 : Nat), cellS y.1.2]
/-- What comes, one by one, from the bytes' beginning on, and where one stands behind it. -/
inductive Along (zs : List Int) : List (Nat × SHdr) → Nat → Prop
  | nil : Along zs [] 0
  | snoc {pre : List (Nat × SHdr)} {k : Nat} (y : Nat × SHdr) : Along zs pre k → y.2.1 = Frm.stands (zs.drop k) → y.1 = k + 8 + y.2.1.length → Along zs (pre ++ [y]) y.1
theorem Along.split {zs : List Int} {pre : List (Nat × SHdr)} {k : Nat} (h : Along zs pre k) : (∀ y ∈ pre, y.2.1 ≠ []) → Frm.split zs = (pre.map (·.2.1) ++ (Frm.split (zs.drop k)).1, k + (Frm.split (zs.drop k)).2) := by
  induction h with
  | nil => intro _; simp
  | @snoc pre k y h1 h2 h3 ih =>
    intro hn
    have hy : y.2.1 ≠ [] := hn y (by simp)
    have := split_go (ih fun z hz => hn z (by simp [hz])) (by rw [← h2]; exact hy)
    rw [← h2, ← h3] at this
    rw [this]; simp
theorem Along.le {zs : List Int} {pre : List (Nat × SHdr)} {k : Nat} (h : Along zs pre k) : (∀ y ∈ pre, y.2.1 ≠ []) → 9 * pre.length ≤ k ∧ k ≤ zs.length := by
  induction h with
  | nil => intro _; simp
  | @snoc pre k y h1 h2 h3 ih =>
    intro hn
    have hy : y.2.1 ≠ [] := hn y (by simp)
    have ⟨i1, i2⟩ := ih fun z hz => hn z (by simp [hz])
    have hs := (Frm.stands_length (zs.drop k) (by rw [← h2]; exact hy)).1
    rw [← h2, List.length_drop] at hs
    have hl : y.2.1.length ≠ 0 := fun e => hy (List.eq_nil_of_length_eq_zero e)
    rw [List.length_append, h3]
    simp; omega
theorem Along.last {zs : List Int} {pre : List (Nat × SHdr)} {y : Nat × SHdr} {k : Nat} (h : Along zs (pre ++ [y]) k) : ∃ k0, Along zs pre k0 ∧ y.2.1 = Frm.stands (zs.drop k0) ∧ y.1 = k0 + 8 + y.2.1.length ∧ k = y.1 := by
  generalize hq : pre ++ [y] = q at h
  cases h with
  | nil => simp at hq
  | snoc z h1 h2 h3 =>
    obtain ⟨rfl, e⟩ := List.append_inj' hq rfl
    cases e
    exact ⟨_, h1, h2, h3, rfl⟩
theorem Along.at {zs : List Int} {pre : List (Nat × SHdr)} {k : Nat} (h : Along zs pre k) : k = ((pre.getLast?).map (·.1)).getD 0 := by
  cases h with
  | nil => rfl
  | snoc y _ _ _ => simp
/-- What a round keeps: what lay below n₀, and one block besides (the iterator's captured variable). -/
def KpB (n₀ Bn : Nat) (A B : World) : Prop := Below n₀ A B ∧ B.heap[Bn]? = A.heap[Bn]?
theorem KpB.refl (n₀ Bn : Nat) (A : World) : KpB n₀ Bn A A := ⟨Below.refl _ _, rfl⟩
theorem KpB.trans {n₀ Bn : Nat} {A B C : World} (h : KpB n₀ Bn A B) (k : KpB n₀ Bn B C) : KpB n₀ Bn A C := ⟨h.1.trans k.1, k.2.trans h.2⟩
theorem KpB.drewN (n₀ Bn : Nat) (A : World) (m : Nat) : KpB n₀ Bn A (A.drewN m) := ⟨below_drewN (Below.refl _ _) m, rfl⟩
theorem kpB_t {n₀ Bn : Nat} {A B C : World} (h : KpB n₀ Bn A B) (k : KpB n₀ Bn B C) : KpB n₀ Bn A C := h.trans k
theorem kpB_b {n₀ Bn : Nat} {w : World} (hn : n₀ ≤ w.heap.size) (hb : Bn < w.heap.size) (W : World) (l : Nat) (o o' : Obj) (hl : w.heap.size ≤ l) (h : W.heap[l]? = some o) (h1 : o.isCells = false) (h2 : o.isWalk = false) : KpB n₀ Bn W (W.putObj l o') :=
  ⟨belowK_b hn W l o o' hl h h1 h2, World.putObj_heap_other (fun e => by omega)⟩
theorem grownBy_drewN (W : World) (m : Nat) : W.grownBy (W.drewN m) none := by
  have h := below_drewN (Below.refl W.heap.size W) m
  exact ⟨h.os, h.tape, h.output, h.size, fun k hk _ => h.block k hk⟩
theorem keepsOthers_drewN (W : World) (m : Nat) : KeepsOthers W (W.drewN m) := KeepsOthers.of_grownBy (grownBy_drewN W m) (fun j o e => by cases e)
end
end Go.Proofs.Yteepaoklibflpaa
