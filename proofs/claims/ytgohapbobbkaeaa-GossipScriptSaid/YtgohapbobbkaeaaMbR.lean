/-
  The reference's words.
-/
import Derived.Test.YtgohapbobbkaeaaMbD
namespace Go.Proofs.Ytgohapbobbkaeaa
set_option linter.unusedSimpArgs false
set_option linter.unusedVariables false
open Go.RowKit Sha
set_option maxHeartbeats 1000000 in
theorem rcheck_any (m : Mb) (w : World) : Calls Try.prog 35 #[mv m] w (ErrDone m.err w) := by
  by_cases h0 : m.I < 1
  · have HV := Lib.hid (show m.err = 2 from if_neg (by unfold Mb.May; omega))
    have t0 : decide (m.I < 1) = true := decide_eq_true (by omega)
    clear h0
    go_enter Try.func35, Try.ntmps35
    go_wp2_with fail
    go_ret
    exact ⟨by rw [HV.out]; rfl, (Below.refl _ _).alloc (Nat.le_refl _) _⟩
  · skip
    by_cases h1 : 64 < m.I
    · have HV := Lib.hid (show m.err = 2 from if_neg (by unfold Mb.May; omega))
      have t0 : decide (m.I < 1) = false := decide_eq_false (by omega)
      have t1 : decide (64 < m.I) = true := decide_eq_true (by omega)
      clear h0 h1
      go_enter Try.func35, Try.ntmps35
      go_wp2_with fail
      go_ret
      exact ⟨by rw [HV.out]; rfl, (Below.refl _ _).alloc (Nat.le_refl _) _⟩
    · skip
      by_cases h2 : m.S < 1
      · have HV := Lib.hid (show m.err = 2 from if_neg (by unfold Mb.May; omega))
        have t0 : decide (m.I < 1) = false := decide_eq_false (by omega)
        have t1 : decide (64 < m.I) = false := decide_eq_false (by omega)
        have t2 : decide (m.S < 1) = true := decide_eq_true (by omega)
        clear h0 h1 h2
        go_enter Try.func35, Try.ntmps35
        go_wp2_with fail
        go_ret
        exact ⟨by rw [HV.out]; rfl, (Below.refl _ _).alloc (Nat.le_refl _) _⟩
      · skip
        by_cases h3 : 4 < m.S
        · have HV := Lib.hid (show m.err = 2 from if_neg (by unfold Mb.May; omega))
          have t0 : decide (m.I < 1) = false := decide_eq_false (by omega)
          have t1 : decide (64 < m.I) = false := decide_eq_false (by omega)
          have t2 : decide (m.S < 1) = false := decide_eq_false (by omega)
          have t3 : decide (4 < m.S) = true := decide_eq_true (by omega)
          clear h0 h1 h2 h3
          go_enter Try.func35, Try.ntmps35
          go_wp2_with fail
          go_ret
          exact ⟨by rw [HV.out]; rfl, (Below.refl _ _).alloc (Nat.le_refl _) _⟩
        · skip
          by_cases h4 : m.N < 0
          · have HV := Lib.hid (show m.err = 2 from if_neg (by unfold Mb.May; omega))
            have t0 : decide (m.I < 1) = false := decide_eq_false (by omega)
            have t1 : decide (64 < m.I) = false := decide_eq_false (by omega)
            have t2 : decide (m.S < 1) = false := decide_eq_false (by omega)
            have t3 : decide (4 < m.S) = false := decide_eq_false (by omega)
            have t4 : decide (m.N < 0) = true := decide_eq_true (by omega)
            clear h0 h1 h2 h3 h4
            go_enter Try.func35, Try.ntmps35
            go_wp2_with fail
            go_ret
            exact ⟨by rw [HV.out]; rfl, (Below.refl _ _).alloc (Nat.le_refl _) _⟩
          · skip
            by_cases h5 : 2147483647 < m.N
            · have HV := Lib.hid (show m.err = 2 from if_neg (by unfold Mb.May; omega))
              have t0 : decide (m.I < 1) = false := decide_eq_false (by omega)
              have t1 : decide (64 < m.I) = false := decide_eq_false (by omega)
              have t2 : decide (m.S < 1) = false := decide_eq_false (by omega)
              have t3 : decide (4 < m.S) = false := decide_eq_false (by omega)
              have t4 : decide (m.N < 0) = false := decide_eq_false (by omega)
              have t5 : decide (2147483647 < m.N) = true := decide_eq_true (by omega)
              clear h0 h1 h2 h3 h4 h5
              go_enter Try.func35, Try.ntmps35
              go_wp2_with fail
              go_ret
              exact ⟨by rw [HV.out]; rfl, (Below.refl _ _).alloc (Nat.le_refl _) _⟩
            · have HV := Lib.hid (show m.err = 0 from if_pos (by unfold Mb.May; omega))
              have t0 : decide (m.I < 1) = false := decide_eq_false (by omega)
              have t1 : decide (64 < m.I) = false := decide_eq_false (by omega)
              have t2 : decide (m.S < 1) = false := decide_eq_false (by omega)
              have t3 : decide (4 < m.S) = false := decide_eq_false (by omega)
              have t4 : decide (m.N < 0) = false := decide_eq_false (by omega)
              have t5 : decide (2147483647 < m.N) = false := decide_eq_false (by omega)
              clear h0 h1 h2 h3 h4 h5
              go_enter Try.func35, Try.ntmps35
              go_wp2_with fail
              go_ret
              exact ⟨by rw [HV.out]; rfl, (Below.refl _ _).alloc (Nat.le_refl _) _⟩
theorem rcheck_ok {a : Mb} (h : a.May) (w : World) : Calls Try.prog 35 #[mv a] w (ErrDone 0 w) := by have := rcheck_any a w; rwa [show a.err = 0 from if_pos h] at this
theorem rcheck_no {a : Mb} (h : ¬ a.May) (w : World) : Calls Try.prog 35 #[mv a] w (ErrDone 2 w) := by have := rcheck_any a w; rwa [show a.err = 2 from if_neg h] at this
section
attribute [local go_sem ↓] execOp_loadM execOp_storeM
set_option maxHeartbeats 1000000 in
theorem rboth_any (a b : Mb) (w : World) : Calls Try.prog 50 #[mv a, mv b] w (BoolDone (decide (a.Both b)) w) := by
  have HT := Lib.hid (TwoM.new a b w)
  have l1 := HT.out.l1
  by_cases ha : a.May
  · have HA := Lib.hid (rcheck_ok ha)
    by_cases hb : b.May
    · have HB := Lib.hid (rcheck_ok hb)
      by_cases hi : a.I = b.I
      · have HV := Lib.hid (show decide (a.Both b) = true from by exact decide_eq_true ⟨ha, hb, hi⟩)
        have t1 : (a.I == b.I) = true := by simpa using hi
        clear hi ha hb
        go_enter Try.func50, Try.ntmps50
        go_wp2_with fail
        refine (HA.out _).mono ?_
        rintro e w1 ⟨rfl, hb1⟩
        have T1 := Lib.hid (HT.out.on hb1)
        have l2 := T1.out.l2
        clear hb1
        go_wp2_with fail
        refine (HB.out _).mono ?_
        rintro e w2 ⟨rfl, hb2⟩
        have T2 := Lib.hid (T1.out.on hb2)
        have c1 : w2.cell? ⟨w.heap.size, 0, none⟩ = some (.int .i64 a.I) := T2.out.k1.cell 0
        have c2 : w2.cell? ⟨w.heap.size + 1, 0, none⟩ = some (.int .i64 b.I) := T2.out.k2.cell 0
        clear hb2
        go_wp2_with fail
        go_ret
        exact ⟨by rw [HV.out]; rfl, T2.out.below⟩
      · have HV := Lib.hid (show decide (a.Both b) = false from by exact decide_eq_false (fun h => hi h.2.2))
        have t1 : (a.I == b.I) = false := by simpa using hi
        clear hi ha hb
        go_enter Try.func50, Try.ntmps50
        go_wp2_with fail
        refine (HA.out _).mono ?_
        rintro e w1 ⟨rfl, hb1⟩
        have T1 := Lib.hid (HT.out.on hb1)
        have l2 := T1.out.l2
        clear hb1
        go_wp2_with fail
        refine (HB.out _).mono ?_
        rintro e w2 ⟨rfl, hb2⟩
        have T2 := Lib.hid (T1.out.on hb2)
        have c1 : w2.cell? ⟨w.heap.size, 0, none⟩ = some (.int .i64 a.I) := T2.out.k1.cell 0
        have c2 : w2.cell? ⟨w.heap.size + 1, 0, none⟩ = some (.int .i64 b.I) := T2.out.k2.cell 0
        clear hb2
        go_wp2_with fail
        go_ret
        exact ⟨by rw [HV.out]; rfl, T2.out.below⟩
    · have HB := Lib.hid (rcheck_no hb)
      have HV := Lib.hid (show decide (a.Both b) = false from by exact decide_eq_false (fun h => hb h.2.1))
      clear ha hb
      go_enter Try.func50, Try.ntmps50
      go_wp2_with fail
      refine (HA.out _).mono ?_
      rintro e w1 ⟨rfl, hb1⟩
      have T1 := Lib.hid (HT.out.on hb1)
      have l2 := T1.out.l2
      clear hb1
      go_wp2_with fail
      refine (HB.out _).mono ?_
      rintro e w2 ⟨rfl, hb2⟩
      have T2 := Lib.hid (T1.out.on hb2)
      have c1 : w2.cell? ⟨w.heap.size, 0, none⟩ = some (.int .i64 a.I) := T2.out.k1.cell 0
      have c2 : w2.cell? ⟨w.heap.size + 1, 0, none⟩ = some (.int .i64 b.I) := T2.out.k2.cell 0
      clear hb2
      go_wp2_with fail
      go_ret
      exact ⟨by rw [HV.out]; rfl, T2.out.below⟩
  · have HA := Lib.hid (rcheck_no ha)
    have HV := Lib.hid (show decide (a.Both b) = false from by exact decide_eq_false (fun h => ha h.1))
    clear ha
    go_enter Try.func50, Try.ntmps50
    go_wp2_with fail
    refine (HA.out _).mono ?_
    rintro e w1 ⟨rfl, hb1⟩
    have T1 := Lib.hid (HT.out.on hb1)
    have l2 := T1.out.l2
    clear hb1
    go_wp2_with fail
    go_ret
    exact ⟨by rw [HV.out]; rfl, T1.out.below⟩
theorem rboth_ok {a b : Mb} (h : a.Both b) (w : World) : Calls Try.prog 50 #[mv a, mv b] w (BoolDone true w) := by have := rboth_any a b w; rwa [show decide (a.Both b) = true from decide_eq_true h] at this
theorem rboth_no {a b : Mb} (h : ¬ a.Both b) (w : World) : Calls Try.prog 50 #[mv a, mv b] w (BoolDone false w) := by have := rboth_any a b w; rwa [show decide (a.Both b) = false from decide_eq_false h] at this
set_option maxHeartbeats 1000000 in
theorem rover_any (a b : Mb) (w : World) : Calls Try.prog 36 #[mv a, mv b] w (BoolDone (decide (a.Over b)) w) := by
  have HT := Lib.hid (TwoM.new a b w)
  have l1 := HT.out.l1
  have l2 := HT.out.l2
  by_cases h : a.Both b
  · have HA := Lib.hid (rboth_ok h)
    by_cases hn : b.N < a.N
    · have HV := Lib.hid (show decide (a.Over b) = true from decide_eq_true ⟨h, Or.inl hn⟩)
      have t1 : decide (b.N < a.N) = true := decide_eq_true hn
      clear h hn
      go_enter Try.func36, Try.ntmps36
      go_wp2_with fail
      refine (HA.out _).mono ?_
      rintro e w1 ⟨rfl, hb1⟩
      have T1 := Lib.hid (HT.out.on hb1)
      clear hb1
      have c1 : w1.cell? ⟨w.heap.size, 2, none⟩ = some (.int .i64 a.N) := T1.out.k1.cell 2
      have c2 : w1.cell? ⟨w.heap.size + 1, 2, none⟩ = some (.int .i64 b.N) := T1.out.k2.cell 2
      have d1 : w1.cell? ⟨w.heap.size, 1, none⟩ = some (.int .i64 a.S) := T1.out.k1.cell 1
      have d2 : w1.cell? ⟨w.heap.size + 1, 1, none⟩ = some (.int .i64 b.S) := T1.out.k2.cell 1
      go_wp2_with fail
      go_ret
      exact ⟨by rw [HV.out]; rfl, T1.out.below⟩
    · have t1 : decide (b.N < a.N) = false := decide_eq_false hn
      by_cases he : a.N = b.N
      · have t2 : (a.N == b.N) = true := by simpa using he
        have HV := Lib.hid (show decide (a.Over b) = decide (b.S < a.S) from by
          rw [decide_eq_decide]; exact ⟨fun x => x.2.elim (fun y => absurd y hn) (fun y => y.2), fun x => ⟨h, Or.inr ⟨he, x⟩⟩⟩)
        clear h hn he
        go_enter Try.func36, Try.ntmps36
        go_wp2_with fail
        refine (HA.out _).mono ?_
        rintro e w1 ⟨rfl, hb1⟩
        have T1 := Lib.hid (HT.out.on hb1)
        clear hb1
        have c1 : w1.cell? ⟨w.heap.size, 2, none⟩ = some (.int .i64 a.N) := T1.out.k1.cell 2
        have c2 : w1.cell? ⟨w.heap.size + 1, 2, none⟩ = some (.int .i64 b.N) := T1.out.k2.cell 2
        have d1 : w1.cell? ⟨w.heap.size, 1, none⟩ = some (.int .i64 a.S) := T1.out.k1.cell 1
        have d2 : w1.cell? ⟨w.heap.size + 1, 1, none⟩ = some (.int .i64 b.S) := T1.out.k2.cell 1
        go_wp2_with fail
        go_ret
        exact ⟨by rw [HV.out]; rfl, T1.out.below⟩
      · have t2 : (a.N == b.N) = false := by simpa using he
        have HV := Lib.hid (show decide (a.Over b) = false from decide_eq_false (fun x => x.2.elim hn (fun y => he y.1)))
        clear h hn he
        go_enter Try.func36, Try.ntmps36
        go_wp2_with fail
        refine (HA.out _).mono ?_
        rintro e w1 ⟨rfl, hb1⟩
        have T1 := Lib.hid (HT.out.on hb1)
        clear hb1
        have c1 : w1.cell? ⟨w.heap.size, 2, none⟩ = some (.int .i64 a.N) := T1.out.k1.cell 2
        have c2 : w1.cell? ⟨w.heap.size + 1, 2, none⟩ = some (.int .i64 b.N) := T1.out.k2.cell 2
        have d1 : w1.cell? ⟨w.heap.size, 1, none⟩ = some (.int .i64 a.S) := T1.out.k1.cell 1
        have d2 : w1.cell? ⟨w.heap.size + 1, 1, none⟩ = some (.int .i64 b.S) := T1.out.k2.cell 1
        go_wp2_with fail
        go_ret
        exact ⟨by rw [HV.out]; rfl, T1.out.below⟩
  · have HA := Lib.hid (rboth_no h)
    have HV := Lib.hid (show decide (a.Over b) = false from decide_eq_false (fun x => h x.1))
    clear h
    go_enter Try.func36, Try.ntmps36
    go_wp2_with fail
    refine (HA.out _).mono ?_
    rintro e w1 ⟨rfl, hb1⟩
    have T1 := Lib.hid (HT.out.on hb1)
    clear hb1
    go_wp2_with fail
    go_ret
    exact ⟨by rw [HV.out]; rfl, T1.out.below⟩
theorem rover_of {a b : Mb} {z : Bool} (h : decide (a.Over b) = z) (w : World) : Calls Try.prog 36 #[mv a, mv b] w (BoolDone z w) := by have := rover_any a b w; rwa [h] at this
end
end Go.Proofs.Ytgohapbobbkaeaa
