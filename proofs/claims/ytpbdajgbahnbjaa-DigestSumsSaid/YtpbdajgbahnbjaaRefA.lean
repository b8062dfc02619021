/-
  The reference's turned, first, constants and filled.
-/
import Derived.Test.YtpbdajgbahnbjaaRefS
import Derived.Test.YtpbdajgbahnbjaaShaE
namespace Go.Proofs.Ytpbdajgbahnbjaa
set_option linter.unusedSimpArgs false
set_option linter.unusedVariables false
open Go.RowKit Sha
attribute [local go_sem] U_and U_or U_xor U_add U_shl8 U_shr3 U_shr10 U_not U_notmax U_or_int
set_option maxHeartbeats 400000 in
theorem rturned_any (x : W) (n : Int) (w : World) (hn : 1 ≤ n ∧ n ≤ 31) :
    Calls Try.prog 38 #[v32 x, .int .u64 n] w fun e w' => e = .returned (v32 (rotr x n.toNat)) ∧ w = w' := by
  obtain ⟨n, rfl⟩ := Int.eq_ofNat_of_zero_le (show 0 ≤ n by omega)
  go_enter Try.func38, Try.ntmps38
  go_wp2
  go_ret
  exact ⟨ret_int (by rw [U_shr, U_shl, U_or, BitVec.or_comm, rot x n (by omega), Int.toNat_natCast]), rfl⟩
theorem rturned_still (x : W) (n : Int) (w : World) (hn : 1 ≤ n ∧ n ≤ 31) :
    Calls Try.prog 38 #[v32 x, .int .u64 n] w fun e w' => e = .returned (v32 (rotr x n.toNat)) ∧ w' = w := (rturned_any x n w hn).mono fun _ _ ⟨h, h'⟩ => ⟨h, h'.symm⟩
theorem first_row : first8.map v32 = [.int .u32 1779033703, .int .u32 3144134277, .int .u32 1013904242, .int .u32 2773480762, .int .u32 1359893119, .int .u32 2600822924, .int .u32 528734635, .int .u32 1541459225] := by kernel_rfl
theorem at_lit {w : World} {cs : Array Value} {t : TypeId} {l : List Value} (h : l.toArray = cs) : At (w.alloc (.cells cs t)) (some ⟨w.heap.size, 0, none⟩) l := by
  subst h
  refine Or.inr ⟨_, 0, rfl, fun i v hi => ?_⟩
  rw [Nat.zero_add, (Blk.new w l.toArray t).cell]; exact hi
set_option maxHeartbeats 400000 in
theorem rfirst_any (w : World) :
    Calls Try.prog 28 #[] w fun e w' => ∃ g, e = .returned (.slice (some ⟨g, 0, none⟩) 8 8) ∧ At w' (some ⟨g, 0, none⟩) (first8.map v32) ∧ Below w.heap.size w w' := by
  go_enter Try.func28, Try.ntmps28
  go_wp2
  go_ret
  exact ⟨_, rfl, at_lit (by kernel_rfl), (Below.refl _ _).alloc (Nat.le_refl _) _⟩
set_option maxRecDepth 100000 in
set_option maxHeartbeats 400000 in
theorem rconst_any (w : World) :
    Calls Try.prog 29 #[] w fun e w' => ∃ g, e = .returned (.slice (some ⟨g, 0, none⟩) 64 64) ∧ At w' (some ⟨g, 0, none⟩) (kList.map v32) ∧ Below w.heap.size w w' := by
  go_enter Try.func29, Try.ntmps29
  go_wp2
  go_ret
  exact ⟨_, rfl, at_lit (by kernel_rfl), (Below.refl _ _).alloc (Nat.le_refl _) _⟩
end Go.Proofs.Ytpbdajgbahnbjaa
