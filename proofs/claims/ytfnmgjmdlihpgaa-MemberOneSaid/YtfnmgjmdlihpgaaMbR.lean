/-
  The reference's words.
-/
import Derived.Test.YtfnmgjmdlihpgaaMbD
namespace Go.Proofs.Ytfnmgjmdlihpgaa
set_option linter.unusedSimpArgs false
set_option linter.unusedVariables false
open Go.RowKit Sha
theorem rlive_any (m : Mb) (w : World) : Calls Try.prog 17 #[mv m] w (BoolDone m.live w) := by
  by_cases h1 : m.S = 1
  · have HV := Lib.hid (show m.live = true from decide_eq_true (Or.inl h1))
    have t1 : (m.S == 1) = true := by simpa using h1
    clear h1
    go_enter Try.func17, Try.ntmps17
    go_wp2_with fail
    go_ret
    exact ⟨by rw [HV.out]; rfl, (Below.refl _ _).alloc (Nat.le_refl _) _⟩
  · have HV := Lib.hid (show m.live = (m.S == 2) from by unfold Mb.live; simp [h1]; rfl)
    have t1 : (m.S == 1) = false := by simpa using h1
    clear h1
    go_enter Try.func17, Try.ntmps17
    go_wp2_with fail
    go_ret
    exact ⟨by rw [HV.out]; rfl, (Below.refl _ _).alloc (Nat.le_refl _) _⟩
set_option maxHeartbeats 1000000 in
theorem rcheck_any (m : Mb) (w : World) : Calls Try.prog 13 #[mv m] w (ErrDone m.err w) := by
  by_cases h0 : m.I < 1
  · have HV := Lib.hid (show m.err = 2 from if_neg (by unfold Mb.May; omega))
    have t0 : decide (m.I < 1) = true := decide_eq_true (by omega)
    clear h0
    go_enter Try.func13, Try.ntmps13
    go_wp2_with fail
    go_ret
    exact ⟨by rw [HV.out]; rfl, (Below.refl _ _).alloc (Nat.le_refl _) _⟩
  · skip
    by_cases h1 : 64 < m.I
    · have HV := Lib.hid (show m.err = 2 from if_neg (by unfold Mb.May; omega))
      have t0 : decide (m.I < 1) = false := decide_eq_false (by omega)
      have t1 : decide (64 < m.I) = true := decide_eq_true (by omega)
      clear h0 h1
      go_enter Try.func13, Try.ntmps13
      go_wp2_with fail
      go_ret
      exact ⟨by rw [HV.out]; rfl, (Below.refl _ _).alloc (Nat.le_refl _) _⟩
    · skip
      by_cases h2 : m.S < 1
      · have HV := Lib.hid (show m.err = 2 from if_neg (by unfold Mb.May; omega))
        have t0 : decide (m.I < 1) = false := decide_eq_false (by omega)
        have t1 : decide (64 < m.I) = false := decide_eq_false (by omega)
        have t2 : decide (m.S < 1) = true := decide_eq_true (by omega)
        clear h0 h1 h2
        go_enter Try.func13, Try.ntmps13
        go_wp2_with fail
        go_ret
        exact ⟨by rw [HV.out]; rfl, (Below.refl _ _).alloc (Nat.le_refl _) _⟩
      · skip
        by_cases h3 : 4 < m.S
        · have HV := Lib.hid (show m.err = 2 from if_neg (by unfold Mb.May; omega))
          have t0 : decide (m.I < 1) = false := decide_eq_false (by omega)
          have t1 : decide (64 < m.I) = false := decide_eq_false (by omega)
          have t2 : decide (m.S < 1) = false := decide_eq_false (by omega)
          have t3 : decide (4 < m.S) = true := decide_eq_true (by omega)
          clear h0 h1 h2 h3
          go_enter Try.func13, Try.ntmps13
          go_wp2_with fail
          go_ret
          exact ⟨by rw [HV.out]; rfl, (Below.refl _ _).alloc (Nat.le_refl _) _⟩
        · skip
          by_cases h4 : m.N < 0
          · have HV := Lib.hid (show m.err = 2 from if_neg (by unfold Mb.May; omega))
            have t0 : decide (m.I < 1) = false := decide_eq_false (by omega)
            have t1 : decide (64 < m.I) = false := decide_eq_false (by omega)
            have t2 : decide (m.S < 1) = false := decide_eq_false (by omega)
            have t3 : decide (4 < m.S) = false := decide_eq_false (by omega)
            have t4 : decide (m.N < 0) = true := decide_eq_true (by omega)
            clear h0 h1 h2 h3 h4
            go_enter Try.func13, Try.ntmps13
            go_wp2_with fail
            go_ret
            exact ⟨by rw [HV.out]; rfl, (Below.refl _ _).alloc (Nat.le_refl _) _⟩
          · skip
            by_cases h5 : 2147483647 < m.N
            · have HV := Lib.hid (show m.err = 2 from if_neg (by unfold Mb.May; omega))
              have t0 : decide (m.I < 1) = false := decide_eq_false (by omega)
              have t1 : decide (64 < m.I) = false := decide_eq_false (by omega)
              have t2 : decide (m.S < 1) = false := decide_eq_false (by omega)
              have t3 : decide (4 < m.S) = false := decide_eq_false (by omega)
              have t4 : decide (m.N < 0) = false := decide_eq_false (by omega)
              have t5 : decide (2147483647 < m.N) = true := decide_eq_true (by omega)
              clear h0 h1 h2 h3 h4 h5
              go_enter Try.func13, Try.ntmps13
              go_wp2_with fail
              go_ret
              exact ⟨by rw [HV.out]; rfl, (Below.refl _ _).alloc (Nat.le_refl _) _⟩
            · have HV := Lib.hid (show m.err = 0 from if_pos (by unfold Mb.May; omega))
              have t0 : decide (m.I < 1) = false := decide_eq_false (by omega)
              have t1 : decide (64 < m.I) = false := decide_eq_false (by omega)
              have t2 : decide (m.S < 1) = false := decide_eq_false (by omega)
              have t3 : decide (4 < m.S) = false := decide_eq_false (by omega)
              have t4 : decide (m.N < 0) = false := decide_eq_false (by omega)
              have t5 : decide (2147483647 < m.N) = false := decide_eq_false (by omega)
              clear h0 h1 h2 h3 h4 h5
              go_enter Try.func13, Try.ntmps13
              go_wp2_with fail
              go_ret
              exact ⟨by rw [HV.out]; rfl, (Below.refl _ _).alloc (Nat.le_refl _) _⟩
theorem rcheck_ok {a : Mb} (h : a.May) (w : World) : Calls Try.prog 13 #[mv a] w (ErrDone 0 w) := by have := rcheck_any a w; rwa [show a.err = 0 from if_pos h] at this
theorem rcheck_no {a : Mb} (h : ¬ a.May) (w : World) : Calls Try.prog 13 #[mv a] w (ErrDone 2 w) := by have := rcheck_any a w; rwa [show a.err = 2 from if_neg h] at this
section
attribute [local go_sem ↓] execOp_loadM execOp_storeM
set_option maxHeartbeats 1000000 in
theorem rboth_any (a b : Mb) (w : World) : Calls Try.prog 26 #[mv a, mv b] w (BoolDone (decide (a.Both b)) w) := by
  have HT := Lib.hid (TwoM.new a b w)
  have l1 := HT.out.l1
  by_cases ha : a.May
  · have HA := Lib.hid (rcheck_ok ha)
    by_cases hb : b.May
    · have HB := Lib.hid (rcheck_ok hb)
      by_cases hi : a.I = b.I
      · have HV := Lib.hid (show decide (a.Both b) = true from by exact decide_eq_true ⟨ha, hb, hi⟩)
        have t1 : (a.I == b.I) = true := by simpa using hi
        clear hi ha hb
        go_enter Try.func26, Try.ntmps26
        go_wp2_with fail
        refine (HA.out _).mono ?_
        rintro e w1 ⟨rfl, hb1⟩
        have T1 := Lib.hid (HT.out.on hb1)
        have l2 := T1.out.l2
        clear hb1
        go_wp2_with fail
        refine (HB.out _).mono ?_
        rintro e w2 ⟨rfl, hb2⟩
        have T2 := Lib.hid (T1.out.on hb2)
        have c1 : w2.cell? ⟨w.heap.size, 0, none⟩ = some (.int .i64 a.I) := T2.out.k1.cell 0
        have c2 : w2.cell? ⟨w.heap.size + 1, 0, none⟩ = some (.int .i64 b.I) := T2.out.k2.cell 0
        clear hb2
        go_wp2_with fail
        go_ret
        exact ⟨by rw [HV.out]; rfl, T2.out.below⟩
      · have HV := Lib.hid (show decide (a.Both b) = false from by exact decide_eq_false (fun h => hi h.2.2))
        have t1 : (a.I == b.I) = false := by simpa using hi
        clear hi ha hb
        go_enter Try.func26, Try.ntmps26
        go_wp2_with fail
        refine (HA.out _).mono ?_
        rintro e w1 ⟨rfl, hb1⟩
        have T1 := Lib.hid (HT.out.on hb1)
        have l2 := T1.out.l2
        clear hb1
        go_wp2_with fail
        refine (HB.out _).mono ?_
        rintro e w2 ⟨rfl, hb2⟩
        have T2 := Lib.hid (T1.out.on hb2)
        have c1 : w2.cell? ⟨w.heap.size, 0, none⟩ = some (.int .i64 a.I) := T2.out.k1.cell 0
        have c2 : w2.cell? ⟨w.heap.size + 1, 0, none⟩ = some (.int .i64 b.I) := T2.out.k2.cell 0
        clear hb2
        go_wp2_with fail
        go_ret
        exact ⟨by rw [HV.out]; rfl, T2.out.below⟩
    · have HB := Lib.hid (rcheck_no hb)
      have HV := Lib.hid (show decide (a.Both b) = false from by exact decide_eq_false (fun h => hb h.2.1))
      clear ha hb
      go_enter Try.func26, Try.ntmps26
      go_wp2_with fail
      refine (HA.out _).mono ?_
      rintro e w1 ⟨rfl, hb1⟩
      have T1 := Lib.hid (HT.out.on hb1)
      have l2 := T1.out.l2
      clear hb1
      go_wp2_with fail
      refine (HB.out _).mono ?_
      rintro e w2 ⟨rfl, hb2⟩
      have T2 := Lib.hid (T1.out.on hb2)
      have c1 : w2.cell? ⟨w.heap.size, 0, none⟩ = some (.int .i64 a.I) := T2.out.k1.cell 0
      have c2 : w2.cell? ⟨w.heap.size + 1, 0, none⟩ = some (.int .i64 b.I) := T2.out.k2.cell 0
      clear hb2
      go_wp2_with fail
      go_ret
      exact ⟨by rw [HV.out]; rfl, T2.out.below⟩
  · have HA := Lib.hid (rcheck_no ha)
    have HV := Lib.hid (show decide (a.Both b) = false from by exact decide_eq_false (fun h => ha h.1))
    clear ha
    go_enter Try.func26, Try.ntmps26
    go_wp2_with fail
    refine (HA.out _).mono ?_
    rintro e w1 ⟨rfl, hb1⟩
    have T1 := Lib.hid (HT.out.on hb1)
    have l2 := T1.out.l2
    clear hb1
    go_wp2_with fail
    go_ret
    exact ⟨by rw [HV.out]; rfl, T1.out.below⟩
theorem rboth_ok {a b : Mb} (h : a.Both b) (w : World) : Calls Try.prog 26 #[mv a, mv b] w (BoolDone true w) := by have := rboth_any a b w; rwa [show decide (a.Both b) = true from decide_eq_true h] at this
theorem rboth_no {a b : Mb} (h : ¬ a.Both b) (w : World) : Calls Try.prog 26 #[mv a, mv b] w (BoolDone false w) := by have := rboth_any a b w; rwa [show decide (a.Both b) = false from decide_eq_false h] at this
set_option maxHeartbeats 1000000 in
theorem rover_any (a b : Mb) (w : World) : Calls Try.prog 15 #[mv a, mv b] w (BoolDone (decide (a.Over b)) w) := by
  have HT := Lib.hid (TwoM.new a b w)
  have l1 := HT.out.l1
  have l2 := HT.out.l2
  by_cases h : a.Both b
  · have HA := Lib.hid (rboth_ok h)
    by_cases hn : b.N < a.N
    · have HV := Lib.hid (show decide (a.Over b) = true from decide_eq_true ⟨h, Or.inl hn⟩)
      have t1 : decide (b.N < a.N) = true := decide_eq_true hn
      clear h hn
      go_enter Try.func15, Try.ntmps15
      go_wp2_with fail
      refine (HA.out _).mono ?_
      rintro e w1 ⟨rfl, hb1⟩
      have T1 := Lib.hid (HT.out.on hb1)
      clear hb1
      have c1 : w1.cell? ⟨w.heap.size, 2, none⟩ = some (.int .i64 a.N) := T1.out.k1.cell 2
      have c2 : w1.cell? ⟨w.heap.size + 1, 2, none⟩ = some (.int .i64 b.N) := T1.out.k2.cell 2
      have d1 : w1.cell? ⟨w.heap.size, 1, none⟩ = some (.int .i64 a.S) := T1.out.k1.cell 1
      have d2 : w1.cell? ⟨w.heap.size + 1, 1, none⟩ = some (.int .i64 b.S) := T1.out.k2.cell 1
      go_wp2_with fail
      go_ret
      exact ⟨by rw [HV.out]; rfl, T1.out.below⟩
    · have t1 : decide (b.N < a.N) = false := decide_eq_false hn
      by_cases he : a.N = b.N
      · have t2 : (a.N == b.N) = true := by simpa using he
        have HV := Lib.hid (show decide (a.Over b) = decide (b.S < a.S) from by
          rw [decide_eq_decide]; exact ⟨fun x => x.2.elim (fun y => absurd y hn) (fun y => y.2), fun x => ⟨h, Or.inr ⟨he, x⟩⟩⟩)
        clear h hn he
        go_enter Try.func15, Try.ntmps15
        go_wp2_with fail
        refine (HA.out _).mono ?_
        rintro e w1 ⟨rfl, hb1⟩
        have T1 := Lib.hid (HT.out.on hb1)
        clear hb1
        have c1 : w1.cell? ⟨w.heap.size, 2, none⟩ = some (.int .i64 a.N) := T1.out.k1.cell 2
        have c2 : w1.cell? ⟨w.heap.size + 1, 2, none⟩ = some (.int .i64 b.N) := T1.out.k2.cell 2
        have d1 : w1.cell? ⟨w.heap.size, 1, none⟩ = some (.int .i64 a.S) := T1.out.k1.cell 1
        have d2 : w1.cell? ⟨w.heap.size + 1, 1, none⟩ = some (.int .i64 b.S) := T1.out.k2.cell 1
        go_wp2_with fail
        go_ret
        exact ⟨by rw [HV.out]; rfl, T1.out.below⟩
      · have t2 : (a.N == b.N) = false := by simpa using he
        have HV := Lib.hid (show decide (a.Over b) = false from decide_eq_false (fun x => x.2.elim hn (fun y => he y.1)))
        clear h hn he
        go_enter Try.func15, Try.ntmps15
        go_wp2_with fail
        refine (HA.out _).mono ?_
        rintro e w1 ⟨rfl, hb1⟩
        have T1 := Lib.hid (HT.out.on hb1)
        clear hb1
        have c1 : w1.cell? ⟨w.heap.size, 2, none⟩ = some (.int .i64 a.N) := T1.out.k1.cell 2
        have c2 : w1.cell? ⟨w.heap.size + 1, 2, none⟩ = some (.int .i64 b.N) := T1.out.k2.cell 2
        have d1 : w1.cell? ⟨w.heap.size, 1, none⟩ = some (.int .i64 a.S) := T1.out.k1.cell 1
        have d2 : w1.cell? ⟨w.heap.size + 1, 1, none⟩ = some (.int .i64 b.S) := T1.out.k2.cell 1
        go_wp2_with fail
        go_ret
        exact ⟨by rw [HV.out]; rfl, T1.out.below⟩
  · have HA := Lib.hid (rboth_no h)
    have HV := Lib.hid (show decide (a.Over b) = false from decide_eq_false (fun x => h x.1))
    clear h
    go_enter Try.func15, Try.ntmps15
    go_wp2_with fail
    refine (HA.out _).mono ?_
    rintro e w1 ⟨rfl, hb1⟩
    have T1 := Lib.hid (HT.out.on hb1)
    clear hb1
    go_wp2_with fail
    go_ret
    exact ⟨by rw [HV.out]; rfl, T1.out.below⟩
theorem rover_of {a b : Mb} {z : Bool} (h : decide (a.Over b) = z) (w : World) : Calls Try.prog 15 #[mv a, mv b] w (BoolDone z w) := by have := rover_any a b w; rwa [h] at this
set_option maxHeartbeats 1000000 in
theorem rmerge_any (a b : Mb) (w : World) : Calls Try.prog 9 #[mv a, mv b] w (MbDone (a.merge b) (a.berr b) w) := by
  have HT := Lib.hid (TriM.zero a b w)
  have l1 := HT.out.l1
  have l2 := HT.out.l2
  by_cases h : a.Both b
  · have HA := Lib.hid (rboth_ok h)
    have HE := Lib.hid (show a.berr b = 0 from if_pos h)
    by_cases hu : b.Over a
    · have HV := Lib.hid (show a.merge b = b from by unfold Mb.merge; rw [if_pos h, if_neg (fun x => Mb.up_not x hu.2)])
      have HO := Lib.hid (rover_of (decide_eq_true hu))
      clear h hu
      go_enter Try.func9, Try.ntmps9
      go_wp2_with fail
      refine (HA.out _).mono ?_
      rintro e w1 ⟨rfl, hb1⟩
      have T1 := Lib.hid (HT.out.on hb1)
      have m1 := T1.out.l1
      have m2 := T1.out.l2
      clear hb1 l1 l2
      go_wp2_with fail
      refine (HO.out _).mono ?_
      rintro e w2 ⟨rfl, hb2⟩
      have T2 := Lib.hid (T1.out.on hb2)
      have k1 := T2.out.l2
      have s1 := T2.out.st b
      have T3 := Lib.hid (T2.out.set b)
      clear hb2 m1 m2
      generalize w2.setRow (w.heap.size + 1 + 1) (mc b).toArray = w3 at *
      go_wp2_with fail
      exact bodyPost_ret (results_m1 rfl _ _ _ b (.int .i64 0) rfl rfl T3.out.k3) rfl ⟨by rw [HV.out, HE.out], T3.out.below⟩
    · have HV := Lib.hid (show a.merge b = a from Mb.merge_left h (fun x => hu ⟨h.symm, x⟩))
      have HO := Lib.hid (rover_of (decide_eq_false hu))
      clear h hu
      go_enter Try.func9, Try.ntmps9
      go_wp2_with fail
      refine (HA.out _).mono ?_
      rintro e w1 ⟨rfl, hb1⟩
      have T1 := Lib.hid (HT.out.on hb1)
      have m1 := T1.out.l1
      have m2 := T1.out.l2
      clear hb1 l1 l2
      go_wp2_with fail
      refine (HO.out _).mono ?_
      rintro e w2 ⟨rfl, hb2⟩
      have T2 := Lib.hid (T1.out.on hb2)
      have k1 := T2.out.l1
      have s1 := T2.out.st a
      have T3 := Lib.hid (T2.out.set a)
      clear hb2 m1 m2
      generalize w2.setRow (w.heap.size + 1 + 1) (mc a).toArray = w3 at *
      go_wp2_with fail
      exact bodyPost_ret (results_m1 rfl _ _ _ a (.int .i64 0) rfl rfl T3.out.k3) rfl ⟨by rw [HV.out, HE.out], T3.out.below⟩
  · have HA := Lib.hid (rboth_no h)
    have HV := Lib.hid (show a.merge b = Mb.none from if_neg h)
    have HE := Lib.hid (show a.berr b = 2 from if_neg h)
    clear h
    go_enter Try.func9, Try.ntmps9
    go_wp2_with fail
    refine (HA.out _).mono ?_
    rintro e w1 ⟨rfl, hb1⟩
    have T1 := Lib.hid (HT.out.on hb1)
    have s1 := T1.out.st0
    have T2 := Lib.hid (T1.out.set Mb.none)
    clear hb1
    generalize w1.setRow (w.heap.size + 1 + 1) (mc Mb.none).toArray = w2 at *
    go_wp2_with fail
    exact bodyPost_ret (results_m1 rfl _ _ _ Mb.none (.int .i64 2) rfl rfl T2.out.k3) rfl ⟨by rw [HV.out, HE.out], T2.out.below⟩
set_option maxHeartbeats 2000000 in
theorem rrefute_any (a b : Mb) (w : World) : Calls Try.prog 11 #[mv a, mv b] w (RefDone (a.refute b) w) := by
  have HT := Lib.hid (TriM.zero a b w)
  have l1 := HT.out.l1
  have l2 := HT.out.l2
  by_cases h : a.Both b
  · have HA := Lib.hid (rboth_ok h)
    by_cases hs : a.S = 1
    · have t1 : (a.S != 1) = false := by simpa using hs
      by_cases hw : b.S = 1
      · have t2 : (b.S != 1) = false := by simpa using hw
        have t3 : (b.S == 1) = true := by simpa using hw
        have HV := Lib.hid (show a.refute b = (⟨a.I, a.S, if a.N < b.N then b.N else a.N⟩, false, 0) from by unfold Mb.refute; rw [if_neg (fun x => x.elim (fun y => y h) (fun y => y hs)), if_pos hw])
        clear h hs hw
        go_enter Try.func11, Try.ntmps11
        go_wp2_with fail
        refine (HA.out _).mono ?_
        rintro e w1 ⟨rfl, hb1⟩
        have T1 := Lib.hid (HT.out.on hb1)
        clear hb1
        have c1 : w1.cell? ⟨w.heap.size, 2, none⟩ = some (.int .i64 a.N) := T1.out.two.k1.cell 2
        have c2 : w1.cell? ⟨w.heap.size + 1, 2, none⟩ = some (.int .i64 b.N) := T1.out.two.k2.cell 2
        have d1 : w1.cell? ⟨w.heap.size, 1, none⟩ = some (.int .i64 a.S) := T1.out.two.k1.cell 1
        have d2 : w1.cell? ⟨w.heap.size + 1, 1, none⟩ = some (.int .i64 b.S) := T1.out.two.k2.cell 1
        have z1 := T1.out.two.k1.free 2
        have TA := Lib.hid (T1.out.inc a.N)
        have ka := TA.out.l1
        have sa := TA.out.st ⟨a.I, a.S, a.N⟩
        have UA := Lib.hid (TA.out.set ⟨a.I, a.S, a.N⟩)
        have TB := Lib.hid (T1.out.inc b.N)
        have kb := TB.out.l1
        have sb := TB.out.st ⟨a.I, a.S, b.N⟩
        have UB := Lib.hid (TB.out.set ⟨a.I, a.S, b.N⟩)
        generalize (w1.setCell ⟨w.heap.size, 2, none⟩ (.int .i64 a.N)).setRow (w.heap.size + 1 + 1) (mc ⟨a.I, a.S, a.N⟩).toArray = w4 at *
        generalize (w1.setCell ⟨w.heap.size, 2, none⟩ (.int .i64 b.N)).setRow (w.heap.size + 1 + 1) (mc ⟨a.I, a.S, b.N⟩).toArray = w5 at *
        go_wp2_with fail
        · exact bodyPost_ret (results_m2 rfl _ _ _ ⟨a.I, a.S, b.N⟩ (.bool false) (.int .i64 0) rfl rfl rfl UB.out.k3) rfl ⟨by rw [HV.out, if_pos (by omega)], UB.out.below⟩
        · exact bodyPost_ret (results_m2 rfl _ _ _ ⟨a.I, a.S, a.N⟩ (.bool false) (.int .i64 0) rfl rfl rfl UA.out.k3) rfl ⟨by rw [HV.out, if_neg (by omega)], UA.out.below⟩
      · have t2 : (b.S != 1) = true := by simpa using hw
        have t3 : (b.S == 1) = false := by simpa using hw
        by_cases hn : b.N < a.N
        · have t4 : decide (a.N ≤ b.N) = false := decide_eq_false (by omega)
          have HV := Lib.hid (show a.refute b = (a, false, 0) from by unfold Mb.refute; rw [if_neg (fun x => x.elim (fun y => y h) (fun y => y hs)), if_neg hw, if_pos hn])
          clear h hs hw hn
          go_enter Try.func11, Try.ntmps11
          go_wp2_with fail
          refine (HA.out _).mono ?_
          rintro e w1 ⟨rfl, hb1⟩
          have T1 := Lib.hid (HT.out.on hb1)
          clear hb1
          have c1 : w1.cell? ⟨w.heap.size, 2, none⟩ = some (.int .i64 a.N) := T1.out.two.k1.cell 2
          have c2 : w1.cell? ⟨w.heap.size + 1, 2, none⟩ = some (.int .i64 b.N) := T1.out.two.k2.cell 2
          have d1 : w1.cell? ⟨w.heap.size, 1, none⟩ = some (.int .i64 a.S) := T1.out.two.k1.cell 1
          have d2 : w1.cell? ⟨w.heap.size + 1, 1, none⟩ = some (.int .i64 b.S) := T1.out.two.k2.cell 1
          have z1 := T1.out.two.k1.free 2
          have k1 := T1.out.l1
          have s1 := T1.out.st a
          have T2 := Lib.hid (T1.out.set (a))
          generalize w1.setRow (w.heap.size + 1 + 1) (mc (a)).toArray = w2 at *
          go_wp2_with fail
          exact bodyPost_ret (results_m2 rfl _ _ _ (a) (.bool false) (.int .i64 0) rfl rfl rfl T2.out.k3) rfl ⟨by rw [HV.out], T2.out.below⟩
        · have t4 : decide (a.N ≤ b.N) = true := decide_eq_true (by omega)
          by_cases hx : b.N = 2147483647
          · have t5 : (b.N == 2147483647) = true := by simpa using hx
            have HV := Lib.hid (show a.refute b = (Mb.none, false, 5) from by unfold Mb.refute; rw [if_neg (fun x => x.elim (fun y => y h) (fun y => y hs)), if_neg hw, if_neg hn, if_pos hx])
            clear h hs hw hn hx
            go_enter Try.func11, Try.ntmps11
            go_wp2_with fail
            refine (HA.out _).mono ?_
            rintro e w1 ⟨rfl, hb1⟩
            have T1 := Lib.hid (HT.out.on hb1)
            clear hb1
            have c1 : w1.cell? ⟨w.heap.size, 2, none⟩ = some (.int .i64 a.N) := T1.out.two.k1.cell 2
            have c2 : w1.cell? ⟨w.heap.size + 1, 2, none⟩ = some (.int .i64 b.N) := T1.out.two.k2.cell 2
            have d1 : w1.cell? ⟨w.heap.size, 1, none⟩ = some (.int .i64 a.S) := T1.out.two.k1.cell 1
            have d2 : w1.cell? ⟨w.heap.size + 1, 1, none⟩ = some (.int .i64 b.S) := T1.out.two.k2.cell 1
            have z1 := T1.out.two.k1.free 2
            have s1 := T1.out.st0
            have T2 := Lib.hid (T1.out.set (Mb.none))
            generalize w1.setRow (w.heap.size + 1 + 1) (mc (Mb.none)).toArray = w2 at *
            go_wp2_with fail
            exact bodyPost_ret (results_m2 rfl _ _ _ (Mb.none) (.bool false) (.int .i64 5) rfl rfl rfl T2.out.k3) rfl ⟨by rw [HV.out], T2.out.below⟩
          · have t5 : (b.N == 2147483647) = false := by simpa using hx
            have HV := Lib.hid (show a.refute b = (⟨a.I, a.S, b.N + 1⟩, true, 0) from by unfold Mb.refute; rw [if_neg (fun x => x.elim (fun y => y h) (fun y => y hs)), if_neg hw, if_neg hn, if_neg hx])
            have hwr : wrap64 (b.N + 1) = b.N + 1 := IntWalk.wrap64_in _ (by have := h.2.1.2.2; omega)
            have hwr2 : IntKind.i64.wrap (b.N + 1) = b.N + 1 := IntWalk.i64_in _ (by have := h.2.1.2.2; omega)
            clear h hs hw hn hx
            go_enter Try.func11, Try.ntmps11
            go_wp2_with fail
            refine (HA.out _).mono ?_
            rintro e w1 ⟨rfl, hb1⟩
            have T1 := Lib.hid (HT.out.on hb1)
            clear hb1
            have c1 : w1.cell? ⟨w.heap.size, 2, none⟩ = some (.int .i64 a.N) := T1.out.two.k1.cell 2
            have c2 : w1.cell? ⟨w.heap.size + 1, 2, none⟩ = some (.int .i64 b.N) := T1.out.two.k2.cell 2
            have d1 : w1.cell? ⟨w.heap.size, 1, none⟩ = some (.int .i64 a.S) := T1.out.two.k1.cell 1
            have d2 : w1.cell? ⟨w.heap.size + 1, 1, none⟩ = some (.int .i64 b.S) := T1.out.two.k2.cell 1
            have z1 := T1.out.two.k1.free 2
            have TA := Lib.hid (T1.out.inc (b.N + 1))
            have ka := TA.out.l1
            have sa := TA.out.st ⟨a.I, a.S, b.N + 1⟩
            have UA := Lib.hid (TA.out.set ⟨a.I, a.S, b.N + 1⟩)
            generalize (w1.setCell ⟨w.heap.size, 2, none⟩ (.int .i64 (b.N + 1))).setRow (w.heap.size + 1 + 1) (mc ⟨a.I, a.S, b.N + 1⟩).toArray = w4 at *
            go_wp2_with fail
            exact bodyPost_ret (results_m2 rfl _ _ _ ⟨a.I, a.S, b.N + 1⟩ (.bool true) (.int .i64 0) rfl rfl rfl UA.out.k3) rfl ⟨by rw [HV.out], UA.out.below⟩
    · have t1 : (a.S != 1) = true := by simpa using hs
      have HV := Lib.hid (show a.refute b = (Mb.none, false, 2) from by unfold Mb.refute; rw [if_pos (Or.inr hs)])
      clear h hs
      go_enter Try.func11, Try.ntmps11
      go_wp2_with fail
      refine (HA.out _).mono ?_
      rintro e w1 ⟨rfl, hb1⟩
      have T1 := Lib.hid (HT.out.on hb1)
      clear hb1
      have c1 : w1.cell? ⟨w.heap.size, 2, none⟩ = some (.int .i64 a.N) := T1.out.two.k1.cell 2
      have c2 : w1.cell? ⟨w.heap.size + 1, 2, none⟩ = some (.int .i64 b.N) := T1.out.two.k2.cell 2
      have d1 : w1.cell? ⟨w.heap.size, 1, none⟩ = some (.int .i64 a.S) := T1.out.two.k1.cell 1
      have d2 : w1.cell? ⟨w.heap.size + 1, 1, none⟩ = some (.int .i64 b.S) := T1.out.two.k2.cell 1
      have z1 := T1.out.two.k1.free 2
      have s1 := T1.out.st0
      have T2 := Lib.hid (T1.out.set (Mb.none))
      generalize w1.setRow (w.heap.size + 1 + 1) (mc (Mb.none)).toArray = w2 at *
      go_wp2_with fail
      exact bodyPost_ret (results_m2 rfl _ _ _ (Mb.none) (.bool false) (.int .i64 2) rfl rfl rfl T2.out.k3) rfl ⟨by rw [HV.out], T2.out.below⟩
  · have HA := Lib.hid (rboth_no h)
    have HV := Lib.hid (show a.refute b = (Mb.none, false, 2) from by unfold Mb.refute; rw [if_pos (Or.inl h)])
    clear h
    go_enter Try.func11, Try.ntmps11
    go_wp2_with fail
    refine (HA.out _).mono ?_
    rintro e w1 ⟨rfl, hb1⟩
    have T1 := Lib.hid (HT.out.on hb1)
    clear hb1
    have s1 := T1.out.st0
    have T2 := Lib.hid (T1.out.set (Mb.none))
    generalize w1.setRow (w.heap.size + 1 + 1) (mc (Mb.none)).toArray = w2 at *
    go_wp2_with fail
    exact bodyPost_ret (results_m2 rfl _ _ _ (Mb.none) (.bool false) (.int .i64 2) rfl rfl rfl T2.out.k3) rfl ⟨by rw [HV.out], T2.out.below⟩
end
end Go.Proofs.Ytfnmgjmdlihpgaa
