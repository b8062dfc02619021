/-
  The kit's Pick.
-/
import Derived.Test.YtfoomffbjjcjjaaRows
import Derived.WalkKit
import Derived.WalkSpells
import Derived.WalkLawsBesides
import Derived.IntWalk
import Derived.Lib.Hide
import Derived.Test.YtfoomffbjjcjjaaSha
namespace Go.Proofs.Ytfoomffbjjcjjaa
set_option linter.unusedSimpArgs false
set_option linter.unusedVariables false
open Go.RowKit Sha
def pickOf (x n : Int) : Int := if n < 1 then 0 else x % n
theorem tmod_bd (x n : Int) (h0 : 1 ≤ n) : -n < x.tmod n ∧ x.tmod n < n := by
  rw [Int.tmod_eq_emod]
  have h1 := Int.emod_nonneg x (show n ≠ 0 by omega)
  have h2 := Int.emod_lt_of_pos x (show 0 < n by omega)
  have h3 : (n.natAbs : Int) = n := by omega
  split
  · omega
  · rename_i h
    have h4 : x % n ≠ 0 := fun h5 => h (Or.inr (Int.dvd_of_emod_eq_zero h5))
    omega
theorem pick_pos (x n : Int) (h0 : 1 ≤ n) (h : ¬ x.tmod n < 0) : pickOf x n = x.tmod n := by
  unfold pickOf
  rw [if_neg (by omega)]
  rw [Int.tmod_eq_emod] at h ⊢
  have h2 := Int.emod_lt_of_pos x (show 0 < n by omega)
  have h3 : (n.natAbs : Int) = n := by omega
  split at h <;> rename_i h4 <;> simp [h4] <;> omega
theorem pick_neg (x n : Int) (h0 : 1 ≤ n) (h1 : n ≤ 9223372036854775807) (h : x.tmod n < 0) : pickOf x n = wrap64 (x.tmod n + n) := by
  have hb := tmod_bd x n h0
  have hw : wrap64 (x.tmod n + n) = x.tmod n + n := IntWalk.wrap64_in _ (by omega)
  rw [hw]
  unfold pickOf
  rw [if_neg (by omega)]
  rw [Int.tmod_eq_emod] at h ⊢
  have h2 := Int.emod_nonneg x (show n ≠ 0 by omega)
  have h3 : (n.natAbs : Int) = n := by omega
  split at h <;> rename_i h4 <;> simp [h4] <;> omega
theorem pickOf_bd (x n : Int) (h0 : 1 ≤ n) : 0 ≤ pickOf x n ∧ pickOf x n < n := by
  unfold pickOf
  rw [if_neg (by omega)]
  exact ⟨Int.emod_nonneg x (by omega), Int.emod_lt_of_pos x (by omega)⟩
set_option maxHeartbeats 400000 in
theorem pick_any (x n : Int) (w : World) (h0 : 1 ≤ n) (h1 : n ≤ 9223372036854775807) (hx : -9223372036854775808 ≤ x ∧ x ≤ 9223372036854775807) :
    Calls Try.prog 23 #[.int .i64 x, .int .i64 n] w fun e w' => e = .returned (.int .i64 (pickOf x n)) ∧ w = w' := by
  go_enter Try.func23, Try.ntmps23
  by_cases hneg : x.tmod n < 0
  · have HE := Lib.hid (pick_neg x n h0 h1 hneg)
    go_wp2
    go_ret
    exact ⟨ret_int (by rw [HE.out]), rfl⟩
  · have HE := Lib.hid (pick_pos x n h0 hneg)
    go_wp2
    go_ret
    exact ⟨ret_int (by rw [HE.out]), rfl⟩
end Go.Proofs.Ytfoomffbjjcjjaa
