/-
  The program's words: what a status is, which words may be.
-/
import Derived.Test.YtgohapbobbkaeaaRows
import Derived.Test.YtgohapbobbkaeaaChecked
import Derived.WalkKit
import Derived.WalkSpells
import Derived.WalkLawsBesides
import Derived.IntWalk
import Derived.Lib.Hide
import Derived.Test.YtgohapbobbkaeaaSha
import Derived.Test.YtgohapbobbkaeaaMb
import Derived.Test.YtgohapbobbkaeaaArr
namespace Go.Proofs.Ytgohapbobbkaeaa
set_option linter.unusedSimpArgs false
set_option linter.unusedVariables false
open Go.RowKit Sha
abbrev mv (m : Mb) : Value := .agg #[.int .i64 m.I, .int .i64 m.S, .int .i64 m.N]
theorem statusOf_any (m : Mb) (w : World) : Calls Try.prog 38 #[mv m] w fun e w' => e = .returned (.int .i64 m.S) ∧ w' = w.alloc (.cells #[.int .i64 m.I, .int .i64 m.S, .int .i64 m.N] 32) := by
  go_enter Try.func38, Try.ntmps38
  go_wp2_with fail
  go_ret
  exact ⟨rfl, rfl⟩
theorem known_s (s : Int) (w : World) : Calls Try.prog 39 #[.int .i64 s] w fun e w' => e = .returned (.bool (decide (1 ≤ s ∧ s ≤ 4))) ∧ w' = w := by
  by_cases h1 : 1 ≤ s
  · have t1 : decide (1 ≤ s) = true := by simpa using h1
    have HV := Lib.hid (show decide (1 ≤ s ∧ s ≤ 4) = decide (s ≤ 4) from by simp [h1])
    clear h1
    go_enter Try.func39, Try.ntmps39
    go_wp2_with fail
    go_ret
    exact ⟨by rw [HV.out]; rfl, rfl⟩
  · have t1 : decide (1 ≤ s) = false := by simpa using h1
    have HV := Lib.hid (show decide (1 ≤ s ∧ s ≤ 4) = false from by simp [h1])
    clear h1
    go_enter Try.func39, Try.ntmps39
    go_wp2_with fail
    go_ret
    exact ⟨by rw [HV.out]; rfl, rfl⟩
set_option maxHeartbeats 1000000 in
theorem check_any (m : Mb) (w : World) : Calls Try.prog 25 #[mv m] w fun e w' => e = .returned (.int .i64 m.err) ∧ Below w.heap.size w w' := by
  by_cases h1 : m.I < 1
  · have HV := Lib.hid (show m.err = 2 from if_neg (by unfold Mb.May; omega))
    have t1 : decide (m.I < 1) = true := by exact decide_eq_true (by omega)
    clear h1
    go_enter Try.func25, Try.ntmps25
    go_wp2_with fail
    go_ret
    exact ⟨by rw [HV.out]; rfl, (Below.refl _ _).alloc (Nat.le_refl _) _⟩
  · skip
    by_cases h2 : 64 < m.I
    · have HV := Lib.hid (show m.err = 2 from if_neg (by unfold Mb.May; omega))
      have t1 : decide (m.I < 1) = false := by exact decide_eq_false (by omega)
      have t2 : decide (64 < m.I) = true := by exact decide_eq_true (by omega)
      clear h1 h2
      go_enter Try.func25, Try.ntmps25
      go_wp2_with fail
      go_ret
      exact ⟨by rw [HV.out]; rfl, (Below.refl _ _).alloc (Nat.le_refl _) _⟩
    · skip
      by_cases h3 : ¬ (1 ≤ m.S ∧ m.S ≤ 4)
      · have HV := Lib.hid (show m.err = 2 from if_neg (by unfold Mb.May; omega))
        have t1 : decide (m.I < 1) = false := by exact decide_eq_false (by omega)
        have t2 : decide (64 < m.I) = false := by exact decide_eq_false (by omega)
        have t3 : decide (1 ≤ m.S ∧ m.S ≤ 4) = false := by exact decide_eq_false (by omega)
        clear h1 h2 h3
        go_enter Try.func25, Try.ntmps25
        go_wp2_with ((first | (go_at_call 38; refine (statusOf_any m _).mono ?_; rintro e w' ⟨rfl, rfl⟩) | (go_at_call 39; refine (known_s _ _).mono ?_; rintro e w' ⟨rfl, rfl⟩; rw [t3])))
        go_ret
        exact ⟨by rw [HV.out]; rfl, ((Below.refl _ _).alloc (Nat.le_refl _) _).alloc (by simp) _⟩
      · skip
        by_cases h4 : m.N < 0
        · have HV := Lib.hid (show m.err = 2 from if_neg (by unfold Mb.May; omega))
          have t1 : decide (m.I < 1) = false := by exact decide_eq_false (by omega)
          have t2 : decide (64 < m.I) = false := by exact decide_eq_false (by omega)
          have t3 : decide (1 ≤ m.S ∧ m.S ≤ 4) = true := by exact decide_eq_true (by omega)
          have t4 : decide (m.N < 0) = true := by exact decide_eq_true (by omega)
          clear h1 h2 h3 h4
          go_enter Try.func25, Try.ntmps25
          go_wp2_with ((first | (go_at_call 38; refine (statusOf_any m _).mono ?_; rintro e w' ⟨rfl, rfl⟩) | (go_at_call 39; refine (known_s _ _).mono ?_; rintro e w' ⟨rfl, rfl⟩; rw [t3])))
          go_ret
          exact ⟨by rw [HV.out]; rfl, ((Below.refl _ _).alloc (Nat.le_refl _) _).alloc (by simp) _⟩
        · skip
          by_cases h5 : 2147483647 < m.N
          · have HV := Lib.hid (show m.err = 2 from if_neg (by unfold Mb.May; omega))
            have t1 : decide (m.I < 1) = false := by exact decide_eq_false (by omega)
            have t2 : decide (64 < m.I) = false := by exact decide_eq_false (by omega)
            have t3 : decide (1 ≤ m.S ∧ m.S ≤ 4) = true := by exact decide_eq_true (by omega)
            have t4 : decide (m.N < 0) = false := by exact decide_eq_false (by omega)
            have t5 : decide (2147483647 < m.N) = true := by exact decide_eq_true (by omega)
            clear h1 h2 h3 h4 h5
            go_enter Try.func25, Try.ntmps25
            go_wp2_with ((first | (go_at_call 38; refine (statusOf_any m _).mono ?_; rintro e w' ⟨rfl, rfl⟩) | (go_at_call 39; refine (known_s _ _).mono ?_; rintro e w' ⟨rfl, rfl⟩; rw [t3])))
            go_ret
            exact ⟨by rw [HV.out]; rfl, ((Below.refl _ _).alloc (Nat.le_refl _) _).alloc (by simp) _⟩
          · have HV := Lib.hid (show m.err = 0 from if_pos (by unfold Mb.May; omega))
            have t1 : decide (m.I < 1) = false := by exact decide_eq_false (by omega)
            have t2 : decide (64 < m.I) = false := by exact decide_eq_false (by omega)
            have t3 : decide (1 ≤ m.S ∧ m.S ≤ 4) = true := by exact decide_eq_true (by omega)
            have t4 : decide (m.N < 0) = false := by exact decide_eq_false (by omega)
            have t5 : decide (2147483647 < m.N) = false := by exact decide_eq_false (by omega)
            clear h1 h2 h3 h4 h5
            go_enter Try.func25, Try.ntmps25
            go_wp2_with ((first | (go_at_call 38; refine (statusOf_any m _).mono ?_; rintro e w' ⟨rfl, rfl⟩) | (go_at_call 39; refine (known_s _ _).mono ?_; rintro e w' ⟨rfl, rfl⟩; rw [t3])))
            go_ret
            exact ⟨by rw [HV.out]; rfl, ((Below.refl _ _).alloc (Nat.le_refl _) _).alloc (by simp) _⟩
end Go.Proofs.Ytgohapbobbkaeaa
