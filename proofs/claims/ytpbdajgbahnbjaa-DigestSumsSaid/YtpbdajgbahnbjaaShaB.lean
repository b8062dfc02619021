/-
  The contracts of constants and firstState.
-/
import Derived.Test.YtpbdajgbahnbjaaShaA
import Derived.Deep.DeepCutAuto
namespace Go.Proofs.Ytpbdajgbahnbjaa
set_option linter.unusedSimpArgs false
set_option linter.unusedVariables false
open Go.RowKit Sha
attribute [local go_sem] U_and U_or U_xor U_add U_shl8 U_shr3 U_shr10 U_not U_notmax U_or_int
def zeros8 : List W := List.replicate 8 0
theorem zeros8_length : zeros8.length = 8 := rfl
attribute [irreducible] zeros8
theorem info44 : (Try.prog.info? 44).map (fun i => i.zero) = some (some (.agg (zeros8.map v32).toArray)) := by kernel_rfl
theorem size44 : (Try.prog.info? 44).map (fun i => i.size) = some 8 := by kernel_rfl
set_option maxRecDepth 100000 in
theorem constants_any (w : World) : Calls Try.prog 35 #[] w fun e w' => e = .returned (.agg (kList.map v32).toArray) ∧ Below w.heap.size w w' := by
  have lk : (kList.map v32).toArray.size = 64 := by kernel_rfl
  have hsz : (Try.prog.info? 59).map (fun i => i.size) = some (kList.map v32).toArray.size := by rw [size59, lk]
  have hb := Blk.new w ((fill [] 0).map v32).toArray 59
  have HB := Lib.hid hb
  have LK := Lib.hid lk
  clear hb lk
  go_enter Try.func35, Try.ntmps35
  go_wp2_with (first
    | (refine wpList_alloc_arr rfl 59 rfl _ (info59 []) ?_)
    | (refine wpList_build' rfl 59 _ rfl (kList.map v32).toArray (by kernel_rfl) ?_)
    | (refine wpList_store_row rfl 59 _ _ rfl _ _ rfl rfl _ _ HB.out hsz (by rw [LK.out]; simp [fill_length]) (one32 _) ?_))
  refine bodyPost_ret (v := .agg (kList.map v32).toArray) ?_ rfl ⟨rfl, Below.setRow ((Below.refl _ _).alloc (by simp) _) (by omega) _⟩
  exact results_cell_row rfl _ _ _ _ _ _ _ rfl (HB.out.row _) (Try.underlying59) rfl hsz
set_option maxRecDepth 100000 in
theorem first_any (w : World) : Calls Try.prog 25 #[] w fun e w' => e = .returned (.agg (first8.map v32).toArray) ∧ Below w.heap.size w w' := by
  have lk : (first8.map v32).toArray.size = 8 := by kernel_rfl
  have hsz : (Try.prog.info? 44).map (fun i => i.size) = some (first8.map v32).toArray.size := by rw [size44, lk]
  have hb := Blk.new w (zeros8.map v32).toArray 44
  have HB := Lib.hid hb
  have LK := Lib.hid lk
  clear hb lk
  go_enter Try.func25, Try.ntmps25
  go_wp2_with (first
    | (refine wpList_alloc_arr rfl 44 rfl _ info44 ?_)
    | (refine wpList_build' rfl 44 _ rfl (first8.map v32).toArray (by kernel_rfl) ?_)
    | (refine wpList_store_row rfl 44 _ _ rfl _ _ rfl rfl _ _ HB.out hsz (by rw [LK.out]; simp [zeros8_length]) (one32 _) ?_))
  refine bodyPost_ret (v := .agg (first8.map v32).toArray) ?_ rfl ⟨rfl, Below.setRow ((Below.refl _ _).alloc (by simp) _) (by omega) _⟩
  exact results_cell_row rfl _ _ _ _ _ _ _ rfl (HB.out.row _) (Try.underlying44) rfl hsz
end Go.Proofs.Ytpbdajgbahnbjaa
