/-
  The law CrcPieces, walked.
-/
import Derived.Test.YthekefecgeimeaaCrcE
namespace Go.Proofs.Ythekefecgeimeaa
set_option linter.unusedSimpArgs false
set_option linter.unusedVariables false
open Go.RowKit Sha
theorem at_cut {w : World} {p : Option Addr} {zs : List Int} (l h : Nat) (hA : At w p (((zs.map v8).take h).drop l)) : At w p (((zs.take h).drop l).map v8) := by
  rwa [List.map_drop, List.map_take]
set_option maxRecDepth 100000 in
set_option maxHeartbeats 1000000 in
theorem pieces_any (zs : List Int) (n : Nat) (p : Option Addr) (cap : Nat) (f s : Int) (w : World) (hl : zs.length = n) (hA : At w p (zs.map v8)) (hc : n ≤ cap) (hm : cap ≤ maxLen) (hp : p = none → cap = 0) (hz : ∀ n ∈ zs, 0 ≤ n ∧ n ≤ 255)
    (hf : -9223372036854775808 ≤ f ∧ f ≤ 9223372036854775807) (hs : -9223372036854775808 ≤ s ∧ s ≤ 9223372036854775807) :
    Calls Try.prog 6 #[.slice p n cap, .int .i64 f, .int .i64 s] w fun e w' => e = .returned (.bool true) ∧ Below w.heap.size w w' := by
  unfold maxLen at hm
  have HA := Lib.hid hA
  have HL := Lib.hid hl
  clear hA hl
  by_cases hlt : 3000 < n
  · go_enter Try.func6, Try.ntmps6
    go_wp2_with fail
    refine (known_any _).mono ?_
    rintro e w1 ⟨rfl, hb1⟩
    go_wp2_with fail
    go_ret
    exact ⟨rfl, hb1⟩
  · go_enter Try.func6, Try.ntmps6
    go_wp2_with fail
    refine (known_any _).mono ?_
    rintro e w1 ⟨rfl, hb1⟩
    have A1 := Lib.hid (HA.out.below hb1)
    have B1 := Lib.hid hb1
    clear hb1
    go_wp2_with fail
    have pf := pickOf_bd f ((n : Int) + 1) (by omega)
    refine (pick_any f _ _ (by omega) (by omega) hf).mono ?_
    rintro e w' ⟨rfl, rfl⟩
    generalize pickOf f ((n : Int) + 1) = i at *
    obtain ⟨i, rfl⟩ := Int.eq_ofNat_of_zero_le pf.1
    have i1 : i ≤ n := by omega
    clear pf
    go_wp2_with fail
    have ps := pickOf_bd s ((n : Int) - (i : Int) + 1) (by omega)
    refine (pick_any s _ _ (by omega) (by omega) hs).mono ?_
    rintro e w' ⟨rfl, rfl⟩
    generalize pickOf s ((n : Int) - (i : Int) + 1) = j at *
    obtain ⟨j, rfl⟩ := Int.eq_ofNat_of_zero_le ps.1
    have j1 : i + j ≤ n := by omega
    clear ps
    have HC1 : Hid (∀ w, (Instr.sliceAt 23 (.slice p n cap) none (some (.int .i64 (i : Int))) none).run Try.prog w = .ok (cutV p 0 i cap) w) := fun w => by
      have := run_cut_h (P := Try.prog) 23 5 p n cap Try.underlying23 kslice1 .i64 (i : Int) (by omega) (by omega) w
      rwa [Int.toNat_natCast] at this
    have HC2 : Hid (∀ w, (Instr.sliceAt 23 (.slice p n cap) (some (.int .i64 (i : Int))) (some (.int .i64 ((i : Int) + (j : Int)))) none).run Try.prog w = .ok (cutV p i (i + j) cap) w) := fun w => by
      have := run_cut_lh (P := Try.prog) 23 5 p n cap Try.underlying23 kslice1 .i64 .i64 (i : Int) ((i : Int) + (j : Int)) (by omega) (by omega) (by omega) w
      rwa [Int.toNat_natCast, show ((i : Int) + (j : Int)).toNat = i + j by omega] at this
    have HC3 : Hid (∀ w, (Instr.sliceAt 23 (.slice p n cap) (some (.int .i64 ((i : Int) + (j : Int)))) none none).run Try.prog w = .ok (cutV p (i + j) n cap) w) := fun w => by
      have := run_cut_l (P := Try.prog) 23 5 p n cap Try.underlying23 kslice1 .i64 ((i : Int) + (j : Int)) (by omega) (by omega) w
      rwa [show ((i : Int) + (j : Int)).toNat = i + j by omega] at this
    go_wp2_with fail
    have hcl : (zs.map v8).length ≤ cap := by rw [List.length_map, HL.out]; exact hc
    refine wp_region_quiet_lit (by kernel_rfl) (by kernel_rfl) ?_
    iterate 2 (go_big_quiet_step (fail))
    (go_big_quiet_want; refine quiet_cut 23 _ _ _ rfl p 0 i cap HC1.out w1 (zs.map v8) A1.out hcl (fun p1 hA1 => ?_); have X1 := Lib.hid (at_cut 0 i hA1); clear hA1; simp only [Act.put, List.setIfInBounds_toArray, List.set_cons_zero, List.set_cons_succ, List.getElem_toArray, List.getElem_cons_succ, List.getElem_cons_zero]; go_big_quiet_on)
    iterate 3 (go_big_quiet_step (fail))
    (go_big_quiet_want; refine quiet_cut 23 _ _ _ rfl p i (i + j) cap HC2.out w1 (zs.map v8) A1.out hcl (fun p2 hA2 => ?_); have Y1 := Lib.hid (at_cut i (i + j) hA2); clear hA2; simp only [Act.put, List.setIfInBounds_toArray, List.set_cons_zero, List.set_cons_succ, List.getElem_toArray, List.getElem_cons_succ, List.getElem_cons_zero]; go_big_quiet_on)
    iterate 2 (go_big_quiet_step (fail))
    (go_big_quiet_want; refine quiet_cut 23 _ _ _ rfl p (i + j) n cap HC3.out w1 (zs.map v8) A1.out hcl (fun p3 hA3 => ?_); have Z1 := Lib.hid (at_cut (i + j) n hA3); clear hA3; simp only [Act.put, List.setIfInBounds_toArray, List.set_cons_zero, List.set_cons_succ, List.getElem_toArray, List.getElem_cons_succ, List.getElem_cons_zero]; go_big_quiet_on)
    iterate 3 (go_big_quiet_step (fail))
    refine wpQuiet_nil ?_
    intro w2 hw2
    obtain ⟨nq, rfl⟩ := hw2
    have A2 := Lib.hid (A1.out.drewN nq)
    have B2 := Lib.hid (below_drewN B1.out nq)
    have X2 := Lib.hid (X1.out.drewN nq)
    have Y2 := Lib.hid (Y1.out.drewN nq)
    have Z2 := Lib.hid (Z1.out.drewN nq)
    clear A1 B1 X1 Y1 Z1
    generalize w1.drewN nq = w2 at *
    obtain ⟨X, hX⟩ : ∃ X, X = (zs.take i).drop 0 := ⟨_, rfl⟩
    obtain ⟨Y, hY⟩ : ∃ Y, Y = (zs.take (i + j)).drop i := ⟨_, rfl⟩
    obtain ⟨Z, hZ⟩ : ∃ Z, Z = (zs.take n).drop (i + j) := ⟨_, rfl⟩
    have hXY : zs.take (i + j) = X ++ Y := by
      rw [hX, hY, List.drop_zero, show zs.take i = (zs.take (i + j)).take i by rw [List.take_take, Nat.min_eq_left (by omega)], List.take_append_drop]
    have hXYZ : zs = X ++ Y ++ Z := by
      rw [← hXY, hZ, show zs.take n = zs from List.take_of_length_le (by rw [HL.out]; omega), List.take_append_drop]
    have lX : X.length = i := by rw [hX]; simp [HL.out]; omega
    have lY : Y.length = j := by rw [hY]; simp [HL.out]; omega
    have lZ : Z.length = n - (i + j) := by rw [hZ]; simp [HL.out]
    have bX : ∀ n ∈ X, 0 ≤ n ∧ n ≤ 255 := fun n hn => hz n (by rw [hXYZ]; simp [hn])
    have bY : ∀ n ∈ Y, 0 ≤ n ∧ n ≤ 255 := fun n hn => hz n (by rw [hXYZ]; simp [hn])
    have bZ : ∀ n ∈ Z, 0 ≤ n ∧ n ≤ 255 := fun n hn => hz n (by rw [hXYZ]; simp [hn])
    rw [← hX] at X2
    rw [← hY] at Y2
    rw [← hZ] at Z2
    have HXY := Lib.hid hXY
    have HXYZ := Lib.hid hXYZ
    have LX := Lib.hid lX
    have LY := Lib.hid lY
    have LZ := Lib.hid lZ
    clear hX hY hZ hXY hXYZ lX lY lZ
    go_wp2_with fail
    refine (csum_any zs n p cap w2 HL.out.symm hz A2.out hc (by omega)).mono ?_
    rintro e w3 ⟨rfl, hb3⟩
    have A3 := Lib.hid (A2.out.below hb3)
    have X3 := Lib.hid (X2.out.below hb3)
    have Y3 := Lib.hid (Y2.out.below hb3)
    have Z3 := Lib.hid (Z2.out.below hb3)
    have B3 := Lib.hid (below_on B2.out hb3)
    clear hb3 A2 X2 Y2 Z2 B2
    go_wp2_with fail
    refine (csum_any X i _ _ w3 LX.out.symm bX X3.out (by omega) (by omega)).mono ?_
    rintro e w4 ⟨rfl, hb4⟩
    have A4 := Lib.hid (A3.out.below hb4)
    have X4 := Lib.hid (X3.out.below hb4)
    have Y4 := Lib.hid (Y3.out.below hb4)
    have Z4 := Lib.hid (Z3.out.below hb4)
    have B4 := Lib.hid (below_on B3.out hb4)
    clear hb4 A3 X3 Y3 Z3 B3
    go_wp2_with fail
    refine (csum_any Y j _ _ w4 LY.out.symm bY Y4.out (by omega) (by omega)).mono ?_
    rintro e w5 ⟨rfl, hb5⟩
    have A5 := Lib.hid (A4.out.below hb5)
    have X5 := Lib.hid (X4.out.below hb5)
    have Y5 := Lib.hid (Y4.out.below hb5)
    have Z5 := Lib.hid (Z4.out.below hb5)
    have B5 := Lib.hid (below_on B4.out hb5)
    clear hb5 A4 X4 Y4 Z4 B4
    go_wp2_with fail
    refine (join_yes _ _ (Crc.sum X) (Crc.sum Y) (j : Int) w5 rfl rfl (by omega) (by omega)).mono ?_
    rintro e w6 ⟨rfl, hb6⟩
    have hj : Crc.join (Crc.sum X) (Crc.sum Y) (j : Int).toNat = Crc.sum (X ++ Y) := by rw [Int.toNat_natCast, Crc.sum_append, Crc.join_eq, LY.out]
    rw [hj]
    have A6 := Lib.hid (A5.out.below hb6)
    have X6 := Lib.hid (X5.out.below hb6)
    have Y6 := Lib.hid (Y5.out.below hb6)
    have Z6 := Lib.hid (Z5.out.below hb6)
    have B6 := Lib.hid (below_on B5.out hb6)
    clear hb6 A5 X5 Y5 Z5 B5 hj
    go_wp2_with fail
    refine (more_len 0 0#32 rfl X i _ _ w6 LX.out bX X6.out (by omega) (by omega)).mono ?_
    rintro e w7 ⟨rfl, hb7⟩
    have A7 := Lib.hid (A6.out.below hb7)
    have Y7 := Lib.hid (Y6.out.below hb7)
    have Z7 := Lib.hid (Z6.out.below hb7)
    have B7 := Lib.hid (below_on B6.out hb7)
    clear hb7 A6 X6 Y6 Z6 B6
    go_wp2_with fail
    refine (more_len _ (Crc.more 0#32 X) rfl Y j _ _ w7 LY.out bY Y7.out (by omega) (by omega)).mono ?_
    rintro e w8 ⟨rfl, hb8⟩
    have A8 := Lib.hid (A7.out.below hb8)
    have Z8 := Lib.hid (Z7.out.below hb8)
    have B8 := Lib.hid (below_on B7.out hb8)
    clear hb8 A7 Y7 Z7 B7
    go_wp2_with fail
    refine (more_len _ (Crc.more (Crc.more 0#32 X) Y) rfl Z _ _ _ w8 LZ.out bZ Z8.out (by omega) (by omega)).mono ?_
    rintro e w9 ⟨rfl, hb9⟩
    have hmore : Crc.more (Crc.more (Crc.more 0#32 X) Y) Z = Crc.sum zs := by rw [HXYZ.out, Crc.sum_eq, Crc.more_append, Crc.more_append]
    rw [hmore]
    have A9 := Lib.hid (A8.out.below hb9)
    have Z9 := Lib.hid (Z8.out.below hb9)
    have B9 := Lib.hid (below_on B8.out hb9)
    clear hb9 A8 Z8 B8 hmore
    go_wp2_with fail
    have hp9 : At w9 p ((X ++ Y).map v8) := by
      have := A9.out
      rw [HXYZ.out, List.map_append (l₁ := X ++ Y)] at this
      exact this.front
    have P9 := Lib.hid hp9
    clear hp9
    refine (csum_any (X ++ Y) (i + j) _ _ w9 (by rw [List.length_append, LX.out, LY.out]) (fun n hn => (List.mem_append.1 hn).elim (bX n) (bY n)) P9.out (by omega) (by omega)).mono ?_
    rintro e wa ⟨rfl, hba⟩
    have Za := Lib.hid (Z9.out.below hba)
    have Ba := Lib.hid (below_on B9.out hba)
    clear hba A9 Z9 B9
    go_wp2_with fail
    refine (csum_any Z _ _ _ wa LZ.out.symm bZ Za.out (by omega) (by omega)).mono ?_
    rintro e wb ⟨rfl, hbb⟩
    have Bb := Lib.hid (below_on Ba.out hbb)
    clear hbb Za Ba
    go_wp2_with fail
    refine (joins_true _ _ _ (Crc.sum (X ++ Y)) (Crc.sum Z) _ wb rfl rfl (by omega) (by omega) ?_).mono ?_
    · rw [HXYZ.out, Crc.sum_append, Crc.join_eq, LZ.out]; congr 4
    rintro e wc ⟨rfl, hbc⟩
    go_wp2_with fail
    go_ret
    exact ⟨rfl, below_on Bb.out hbc⟩
end Go.Proofs.Ythekefecgeimeaa
