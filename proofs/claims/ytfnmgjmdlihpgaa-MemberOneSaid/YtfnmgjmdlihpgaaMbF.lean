/-
  The chapter's examples; the law MemberTells.
-/
import Derived.Test.YtfnmgjmdlihpgaaMbE
namespace Go.Proofs.Ytfnmgjmdlihpgaa
set_option linter.unusedSimpArgs false
set_option linter.unusedVariables false
open Go.RowKit Sha
theorem Below.go {w w' w'' : World} (h : Below w.heap.size w w') (h2 : Below w'.heap.size w' w'') : Below w.heap.size w w'' := h.trans (h2.mono h.size)
section
attribute [local go_sem ↓] execOp_loadM execOp_storeM execOp_eqlM
set_option maxHeartbeats 2000000 in
theorem awake_any (w : World) : Calls Try.prog 18 #[] w (BoolDone true w) := by
  have B0 := Lib.hid (Below.refl w.heap.size w)
  go_enter Try.func18, Try.ntmps18
  go_wp2_with fail
  refine (of_any _ _ _).mono ?_
  rintro e w1 ⟨rfl, hb1⟩
  have B1 := Lib.hid (Below.go B0.out hb1)
  clear hb1
  go_wp2_with fail
  refine (of_any _ _ _).mono ?_
  rintro e w2 ⟨rfl, hb2⟩
  have B2 := Lib.hid (Below.go B1.out hb2)
  clear hb2
  go_wp2_with fail
  refine (of_any _ _ _).mono ?_
  rintro e w3 ⟨rfl, hb3⟩
  have B3 := Lib.hid (Below.go B2.out hb3)
  clear hb3
  go_wp2_with fail
  refine (left_true ⟨2, 1, 3⟩ ⟨2, 2, 3⟩ ⟨2, 2, 3⟩ _ (by decide) (by decide)).mono ?_
  rintro e w4 ⟨rfl, hb4⟩
  have B4 := Lib.hid (Below.go B3.out hb4)
  clear hb4
  go_wp2_with fail
  refine (of_any _ _ _).mono ?_
  rintro e w5 ⟨rfl, hb5⟩
  have B5 := Lib.hid (Below.go B4.out hb5)
  clear hb5
  go_wp2_with fail
  refine (of_any _ _ _).mono ?_
  rintro e w6 ⟨rfl, hb6⟩
  have B6 := Lib.hid (Below.go B5.out hb6)
  clear hb6
  go_wp2_with fail
  refine (of_any _ _ _).mono ?_
  rintro e w7 ⟨rfl, hb7⟩
  have B7 := Lib.hid (Below.go B6.out hb7)
  clear hb7
  go_wp2_with fail
  refine (left_true ⟨2, 1, 4⟩ ⟨2, 3, 3⟩ ⟨2, 1, 4⟩ _ (by decide) (by decide)).mono ?_
  rintro e w8 ⟨rfl, hb8⟩
  have B8 := Lib.hid (Below.go B7.out hb8)
  clear hb8
  go_wp2_with fail
  refine (of_any _ _ _).mono ?_
  rintro e w9 ⟨rfl, hb9⟩
  have B9 := Lib.hid (Below.go B8.out hb9)
  clear hb9
  go_wp2_with fail
  refine (of_any _ _ _).mono ?_
  rintro e w10 ⟨rfl, hb10⟩
  have B10 := Lib.hid (Below.go B9.out hb10)
  clear hb10
  go_wp2_with fail
  refine (of_any _ _ _).mono ?_
  rintro e w11 ⟨rfl, hb11⟩
  have B11 := Lib.hid (Below.go B10.out hb11)
  clear hb11
  go_wp2_with fail
  refine (answers_true ⟨2, 1, 3⟩ ⟨2, 2, 3⟩ ⟨2, 1, 4⟩ true _ (by decide)).mono ?_
  rintro e w12 ⟨rfl, hb12⟩
  have B12 := Lib.hid (Below.go B11.out hb12)
  clear hb12
  go_wp2_with fail
  go_ret
  exact ⟨rfl, B12.out⟩
theorem merge_at (a b c : Mb) (z : Int) (w : World) (h1 : a.merge b = c) (h2 : a.berr b = z) : Calls Try.prog 8 #[mv a, mv b] w (MbDone c z w) := by have := merge_any a b w; rwa [h1, h2] at this
theorem refute_at (a b c : Mb) (t : Bool) (z : Int) (w : World) (h : a.refute b = (c, t, z)) : Calls Try.prog 10 #[mv a, mv b] w (RefDone (c, t, z) w) := by have := refute_any a b w; rwa [h] at this
set_option maxHeartbeats 2000000 in
theorem known_any (w : World) : Calls Try.prog 4 #[] w (BoolDone true w) := by
  have B0 := Lib.hid (Below.refl w.heap.size w)
  go_enter Try.func4, Try.ntmps4
  go_wp2_with fail
  refine (of_any _ _ _).mono ?_
  rintro e w1 ⟨rfl, hb1⟩
  have B1 := Lib.hid (Below.go B0.out hb1)
  clear hb1
  go_wp2_with fail
  refine (of_any _ _ _).mono ?_
  rintro e w2 ⟨rfl, hb2⟩
  have B2 := Lib.hid (Below.go B1.out hb2)
  clear hb2
  go_wp2_with fail
  refine (of_any _ _ _).mono ?_
  rintro e w3 ⟨rfl, hb3⟩
  have B3 := Lib.hid (Below.go B2.out hb3)
  clear hb3
  go_wp2_with fail
  refine (left_true ⟨2, 4, 2⟩ ⟨2, 3, 2⟩ ⟨2, 4, 2⟩ _ (by decide) (by decide)).mono ?_
  rintro e w4 ⟨rfl, hb4⟩
  have B4 := Lib.hid (Below.go B3.out hb4)
  clear hb4
  go_wp2_with fail
  refine (of_any _ _ _).mono ?_
  rintro e w5 ⟨rfl, hb5⟩
  have B5 := Lib.hid (Below.go B4.out hb5)
  clear hb5
  go_wp2_with fail
  refine (of_any _ _ _).mono ?_
  rintro e w6 ⟨rfl, hb6⟩
  have B6 := Lib.hid (Below.go B5.out hb6)
  clear hb6
  go_wp2_with fail
  refine (of_any _ _ _).mono ?_
  rintro e w7 ⟨rfl, hb7⟩
  have B7 := Lib.hid (Below.go B6.out hb7)
  clear hb7
  go_wp2_with fail
  refine (answers_true ⟨2, 1, 3⟩ ⟨2, 3, 2⟩ ⟨2, 1, 3⟩ false _ (by decide)).mono ?_
  rintro e w8 ⟨rfl, hb8⟩
  have B8 := Lib.hid (Below.go B7.out hb8)
  clear hb8
  go_wp2_with fail
  refine (of_any _ _ _).mono ?_
  rintro e w9 ⟨rfl, hb9⟩
  have B9 := Lib.hid (Below.go B8.out hb9)
  clear hb9
  go_wp2_with fail
  refine (of_any _ _ _).mono ?_
  rintro e w10 ⟨rfl, hb10⟩
  have B10 := Lib.hid (Below.go B9.out hb10)
  clear hb10
  go_wp2_with fail
  refine (of_any _ _ _).mono ?_
  rintro e w11 ⟨rfl, hb11⟩
  have B11 := Lib.hid (Below.go B10.out hb11)
  clear hb11
  go_wp2_with fail
  refine (answers_true ⟨2, 1, 3⟩ ⟨2, 1, 7⟩ ⟨2, 1, 7⟩ false _ (by decide)).mono ?_
  rintro e w12 ⟨rfl, hb12⟩
  have B12 := Lib.hid (Below.go B11.out hb12)
  clear hb12
  go_wp2_with fail
  refine (of_any _ _ _).mono ?_
  rintro e w13 ⟨rfl, hb13⟩
  have B13 := Lib.hid (Below.go B12.out hb13)
  clear hb13
  go_wp2_with fail
  refine (merge_at ⟨2, 1, 1⟩ ⟨3, 1, 1⟩ Mb.none 2 _ (by decide) (by decide)).mono ?_
  rintro e w14 ⟨rfl, hb14⟩
  have B14 := Lib.hid (Below.go B13.out hb14)
  clear hb14
  have s14 := put_run w14 Mb.none
  have B15 := Lib.hid (Below.go B14.out (put_below w14 Mb.none))
  generalize putM w14 Mb.none = w15 at *
  go_wp2_with fail
  refine (of_any _ _ _).mono ?_
  rintro e w16 ⟨rfl, hb16⟩
  have B16 := Lib.hid (Below.go B15.out hb16)
  clear hb16
  go_wp2_with fail
  refine (of_any _ _ _).mono ?_
  rintro e w17 ⟨rfl, hb17⟩
  have B17 := Lib.hid (Below.go B16.out hb17)
  clear hb17
  go_wp2_with fail
  refine (refute_at ⟨2, 2, 1⟩ ⟨2, 3, 1⟩ Mb.none false 2 _ (by decide)).mono ?_
  rintro e w18 ⟨rfl, hb18⟩
  have B18 := Lib.hid (Below.go B17.out hb18)
  clear hb18
  have s18 := put_run w18 Mb.none
  have B19 := Lib.hid (Below.go B18.out (put_below w18 Mb.none))
  generalize putM w18 Mb.none = w19 at *
  go_wp2_with fail
  refine (awake_any _).mono ?_
  rintro e w20 ⟨rfl, hb20⟩
  have B20 := Lib.hid (Below.go B19.out hb20)
  clear hb20
  go_wp2_with fail
  refine (of_any _ _ _).mono ?_
  rintro e w21 ⟨rfl, hb21⟩
  have B21 := Lib.hid (Below.go B20.out hb21)
  clear hb21
  go_wp2_with fail
  refine (check_no (a := ⟨2, 5, 1⟩) (by decide) _).mono ?_
  rintro e w22 ⟨rfl, hb22⟩
  have B22 := Lib.hid (Below.go B21.out hb22)
  clear hb22
  go_wp2_with fail
  go_ret
  exact ⟨rfl, B22.out⟩
set_option maxRecDepth 100000 in
set_option maxHeartbeats 4000000 in
theorem tells_any (a b : Mb) (w : World) : Calls Try.prog 3 #[mv a, mv b] w (BoolDone true w) := by
  have T0 := Lib.hid (TwoM.new a b w)
  have l1 := T0.out.l1
  have l2 := T0.out.l2
  have HM := Lib.hid (merge_any a b)
  have HN := Lib.hid (rmerge_any a b)
  have HR := Lib.hid (refute_any a b)
  have HS := Lib.hid (rrefute_any a b)
  have HQ := run_eqlM (a.merge b) (a.merge b) true (by simp)
  have HP := run_eqlM (a.refute b).1 (a.refute b).1 true (by simp)
  generalize a.merge b = x at *
  generalize a.berr b = z at *
  generalize hr : a.refute b = r at *
  obtain ⟨p, t, y⟩ := r
  clear hr
  simp only at HP
  go_enter Try.func3, Try.ntmps3
  go_wp2_with fail
  refine (HM.out _).mono ?_
  rintro e w1 ⟨rfl, hb1⟩
  have s1 := put_run w1 x
  have P0 := Lib.hid (Put.new w1 x)
  have hb2 := Below.go hb1 P0.out.below
  have T1 := Lib.hid (T0.out.on hb2)
  have l1 := T1.out.l1
  have l2 := T1.out.l2
  clear hb1 hb2
  generalize putM w1 x = w2 at *
  go_wp2_with fail
  refine (HN.out _).mono ?_
  rintro e w3 ⟨rfl, hb3⟩
  have s3 := put_run w3 x
  have P1 := Lib.hid (Put.new w3 x)
  have hb4 := Below.go hb3 P1.out.below
  have T2 := Lib.hid (T1.out.on hb4)
  have P0 := Lib.hid (P0.out.on hb4)
  have l1 := T2.out.l1
  have l2 := T2.out.l2
  clear hb3 hb4
  generalize putM w3 x = w4 at *
  go_wp2_with fail
  refine (HR.out _).mono ?_
  rintro e w5 ⟨rfl, hb5⟩
  have s5 := put_run w5 p
  have P2 := Lib.hid (Put.new w5 p)
  have hb6 := Below.go hb5 P2.out.below
  have T3 := Lib.hid (T2.out.on hb6)
  have P0 := Lib.hid (P0.out.on hb6)
  have P1 := Lib.hid (P1.out.on hb6)
  have l1 := T3.out.l1
  have l2 := T3.out.l2
  clear hb5 hb6
  generalize putM w5 p = w6 at *
  go_wp2_with fail
  refine (HS.out _).mono ?_
  rintro e w7 ⟨rfl, hb7⟩
  have s7 := put_run w7 p
  have P3 := Lib.hid (Put.new w7 p)
  have hb8 := Below.go hb7 P3.out.below
  have T4 := Lib.hid (T3.out.on hb8)
  have P0 := Lib.hid (P0.out.on hb8)
  have P1 := Lib.hid (P1.out.on hb8)
  have P2 := Lib.hid (P2.out.on hb8)
  have l1 := T4.out.l1
  have l2 := T4.out.l2
  clear hb7 hb8
  generalize putM w7 p = w8 at *
  have q0 := P0.out.load
  have q1 := P1.out.load
  have q2 := P2.out.load
  have q3 := P3.out.load
  go_wp2_with fail
  obtain ⟨I, W, hC⟩ := cls_of w8
  have hne : Nonempty I := hC.ne
  have l1 := fun n => run_loadM (rangeM_on (rangeM_of T4.out.k1) (hC.back n))
  have l2 := fun n => run_loadM (rangeM_on (rangeM_of T4.out.k2) (hC.back n))
  have Q1 := Lib.hid (hC.call (P := Try.prog) (f := 12) (args := #[mv a]) (v := .int .i64 a.err) (fun w' hb => check_any a w'))
  have Q2 := Lib.hid (hC.call (P := Try.prog) (f := 13) (args := #[mv a]) (v := .int .i64 a.err) (fun w' hb => rcheck_any a w'))
  have Q3 := Lib.hid (hC.call (P := Try.prog) (f := 14) (args := #[mv a, mv b]) (v := .bool (decide (a.Over b))) (fun w' hb => over_any a b w'))
  have Q4 := Lib.hid (hC.call (P := Try.prog) (f := 15) (args := #[mv a, mv b]) (v := .bool (decide (a.Over b))) (fun w' hb => rover_any a b w'))
  have Q5 := Lib.hid (hC.call (P := Try.prog) (f := 16) (args := #[mv a]) (v := .bool a.live) (fun w' hb => live_any a w'))
  have Q6 := Lib.hid (hC.call (P := Try.prog) (f := 17) (args := #[mv a]) (v := .bool a.live) (fun w' hb => rlive_any a w'))
  have Q7 := Lib.hid (hC.call (P := Try.prog) (f := 18) (args := #[]) (v := .bool true) (fun w' hb => awake_any w'))
  have HC := Lib.hid hC
  clear hC
  generalize decide (a.Over b) = ov at *
  generalize a.err = ae at *
  generalize a.live = al at *
  refine wp_region_cls W (by kernel_rfl) (by kernel_rfl) HC.out.one ?_
  repeat go_big_quiet_step (((first | (go_at_call 12; exact Q1.out _) | (go_at_call 13; exact Q2.out _) | (go_at_call 14; exact Q3.out _) | (go_at_call 15; exact Q4.out _) | (go_at_call 16; exact Q5.out _) | (go_at_call 17; exact Q6.out _) | (go_at_call 18; exact Q7.out _))))
  refine wpQuiet_nil ?_
  rintro _ ⟨m, rfl⟩
  have B := Lib.hid (Below.go T4.out.below (HC.out.back m))
  go_wp2_with fail
  go_ret
  exact ⟨by simp, B.out⟩
end
end Go.Proofs.Ytfnmgjmdlihpgaa
