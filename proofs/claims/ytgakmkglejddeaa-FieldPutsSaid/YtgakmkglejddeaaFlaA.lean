/-
  The law package of fields: num, raw.
-/
import Derived.Test.YtgakmkglejddeaaFldP
import Derived.Test.YtgakmkglejddeaaFldY
import Derived.Test.YtgakmkglejddeaaKitJ
import Derived.Test.YtgakmkglejddeaaKitI
namespace Go.Proofs.Ytgakmkglejddeaa
set_option linter.unusedSimpArgs false
set_option linter.unusedVariables false
open Go.RowKit Sha
open Fld (Itm)
theorem built_num (n : Int) : Try.prog.built 40 [(0, .int .i64 n)] = some (icells ⟨n, [], Fld.zero32⟩ none 0).toArray := by
  unfold icells
  have h : Try.prog.built 40 [(0, .int .i64 n)] = some (((#[Value.int .i64 n, .slice none 0 0] : Array Value)) ++ (Fld.zero32.map v8).toArray) := by kernel_rfl
  rw [h]; simp
theorem built_raw (q : Option Addr) (n c : Nat) (b : List Int) (hn : b.length = n) : Try.prog.built 40 [(1, .slice q n c)] = some (icells ⟨0, b, Fld.zero32⟩ q c).toArray := by
  subst hn
  unfold icells
  have h : Try.prog.built 40 [(1, .slice q b.length c)] = some (((#[Value.int .i64 0, .slice q b.length c] : Array Value)) ++ (Fld.zero32.map v8).toArray) := by kernel_rfl
  rw [h]; simp
@[irreducible] def mkOp (t : TypeId) (parts : Array (Nat × Value)) : Sem Next := do pure (.value (← Instr.build t parts))
theorem execOp_buildItem (ρ : Operand → Value) (dst : Option Tmp) (parts : Array (Nat × Operand)) (ty : TypeId) (pos : String) (after : Array Edge) (guard : Option (Nat × Bool)) :
    execOp ρ { dst := dst, op := .build 40 parts, type := ty, pos := pos, after := after, guard := guard } = mkOp 40 (parts.map fun (i, x) => (i, ρ x)) := by unfold mkOp; rfl
theorem run_mkOp {P : Program} {t : TypeId} {parts : Array (Nat × Value)} {cs : Array Value} (w : World) (h : P.built t parts.toList = some cs) : (mkOp t parts).run P w = .ok (.value (.agg cs)) w := by
  unfold mkOp; simp only [Sem.run_bind, run_build w t _ cs h, Result.andThen_ok, Sem.run_pure]
theorem num_ok (n : Int) (h0 : -9223372036854775808 ≤ n) (h1 : n ≤ 9223372036854775807) : (⟨n, [], Fld.zero32⟩ : Itm).ok := ⟨h0, h1, by simp, by intro n hn; simp [Fld.zero32] at hn; omega, Fld.zero32_length⟩
theorem raw_ok (b : List Int) (h : ∀ n ∈ b, 0 ≤ n ∧ n ≤ 255) : (⟨0, b, Fld.zero32⟩ : Itm).ok := ⟨by simp, by simp, h, by intro n hn; simp [Fld.zero32] at hn; omega, Fld.zero32_length⟩
theorem item_len (x : Itm) (h : x.D.length = 32) (q : Option Addr) (c : Nat) : (icells x q c).length = 34 := by unfold icells; simp [h]
attribute [local go_sem ↓] execOp_buildItem
set_option maxRecDepth 100000 in
set_option maxHeartbeats 400000 in
theorem num_any (n : Int) (w : World) : Calls Try.prog 20 #[.int .i64 n] w fun e w' => e = .returned (.agg (icells ⟨n, [], Fld.zero32⟩ none 0).toArray) ∧ Below w.heap.size w w' := by
  have hsz : (Try.prog.info? 40).map (fun i => i.size) = some (icells ⟨n, [], Fld.zero32⟩ none 0).toArray.size := by rw [item_size, List.size_toArray, item_len _ Fld.zero32_length]
  have hle : ∀ x : Itm, x.D.length = 32 → ∀ q c, (icells ⟨n, [], Fld.zero32⟩ none 0).length = (icells x q c).length := by intro x h q c; rw [item_len _ Fld.zero32_length, item_len _ h]
  have bd := fun w => run_mkOp (P := Try.prog) w (parts := #[(0, .int .i64 n)]) (built_num n)
  go_enter Try.func20, Try.ntmps20
  go_wp2_with (first
    | (refine wpList_alloc_arr rfl 40 rfl _ item_info ?_)
    | (refine wpList_store_row rfl 40 (.tmp 2) (.tmp 4) rfl _ _ rfl rfl 40 _ (heap_alloc_new _ _) hsz (by rw [List.size_toArray, List.size_toArray]; exact (hle _ Fld.zero32_length _ _).symm) (by rw [List.all_toArray, List.all_eq_true]; exact icells_one _ _ _) ?_; rw [World.setRow_alloc_new]))
  refine bodyPost_ret (v := .agg (icells ⟨n, [], Fld.zero32⟩ none 0).toArray) ?_ rfl ⟨rfl, ?_⟩
  · exact results_cell_row rfl _ _ _ _ _ _ _ rfl (heap_alloc_new _ _) (Try.underlying40) rfl hsz
  · exact (Below.refl _ _).alloc (Nat.le_refl _) _
set_option maxRecDepth 100000 in
set_option maxHeartbeats 400000 in
theorem raw_any (b : List Int) (q : Option Addr) (n c : Nat) (hn : b.length = n) (w : World) : Calls Try.prog 24 #[.slice q n c] w fun e w' => e = .returned (.agg (icells ⟨0, b, Fld.zero32⟩ q c).toArray) ∧ Below w.heap.size w w' := by
  have hsz : (Try.prog.info? 40).map (fun i => i.size) = some (icells ⟨0, b, Fld.zero32⟩ q c).toArray.size := by rw [item_size, List.size_toArray, item_len _ Fld.zero32_length]
  have hle : ∀ x : Itm, x.D.length = 32 → ∀ q c, (icells ⟨0, b, Fld.zero32⟩ q c).length = (icells x q c).length := by intro x h q c; rw [item_len _ Fld.zero32_length, item_len _ h]
  have bd := fun w => run_mkOp (P := Try.prog) w (parts := #[(1, .slice q n c)]) (built_raw q n c b hn)
  go_enter Try.func24, Try.ntmps24
  go_wp2_with (first
    | (refine wpList_alloc_arr rfl 40 rfl _ item_info ?_)
    | (refine wpList_store_row rfl 40 (.tmp 2) (.tmp 4) rfl _ _ rfl rfl 40 _ (heap_alloc_new _ _) hsz (by rw [List.size_toArray, List.size_toArray, item_len _ Fld.zero32_length, item_len _ Fld.zero32_length]) (by rw [List.all_toArray, List.all_eq_true]; exact icells_one _ _ _) ?_; rw [World.setRow_alloc_new]))
  refine bodyPost_ret (v := .agg (icells ⟨0, b, Fld.zero32⟩ q c).toArray) ?_ rfl ⟨rfl, ?_⟩
  · exact results_cell_row rfl _ _ _ _ _ _ _ rfl (heap_alloc_new _ _) (Try.underlying40) rfl hsz
  · exact (Below.refl _ _).alloc (Nat.le_refl _) _
end Go.Proofs.Ytgakmkglejddeaa
