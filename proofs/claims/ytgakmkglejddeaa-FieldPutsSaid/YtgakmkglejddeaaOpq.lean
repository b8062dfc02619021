/-
  Structs loaded and built, as one operation each: names that the walk does not open.
-/
import Derived.Test.YtgakmkglejddeaaItm
import Derived.Test.YtgakmkglejddeaaBld
namespace Go.Proofs.Ytgakmkglejddeaa
set_option linter.unusedSimpArgs false
set_option linter.unusedVariables false
open Go.RowKit Sha
open Fld (Itm)
/-! ### Structs loaded and built, as one operation each -/
@[irreducible] def loadOp (t : TypeId) (v : Value) : Sem Next := do pure (.value (← Instr.loadAt t v))
@[irreducible] def buildOp (t : TypeId) (len : Nat) (parts : Array (Nat × Value)) : Sem Next := do pure (.value (← Instr.buildSlice t len parts))
theorem execOp_loadItem (ρ : Operand → Value) (dst : Option Tmp) (x : Operand) (ty : TypeId) (pos : String) (after : Array Edge) (guard : Option (Nat × Bool)) :
    execOp ρ { dst := dst, op := .load 40 x, type := ty, pos := pos, after := after, guard := guard } = loadOp 40 (ρ x) := by unfold loadOp; rfl
theorem execOp_buildItems (ρ : Operand → Value) (dst : Option Tmp) (len : Nat) (parts : Array (Nat × Operand)) (ty : TypeId) (pos : String) (after : Array Edge) (guard : Option (Nat × Bool)) :
    execOp ρ { dst := dst, op := .buildSlice 22 len parts, type := ty, pos := pos, after := after, guard := guard } = buildOp 22 len (parts.map fun (i, x) => (i, ρ x)) := by unfold buildOp; rfl
theorem execOp_loadId (ρ : Operand → Value) (dst : Option Tmp) (x : Operand) (ty : TypeId) (pos : String) (after : Array Edge) (guard : Option (Nat × Bool)) :
    execOp ρ { dst := dst, op := .load 38 x, type := ty, pos := pos, after := after, guard := guard } = loadOp 38 (ρ x) := by unfold loadOp; rfl
theorem run_loadOp {P : Program} {t : TypeId} {v u : Value} {w : World} (h : (Instr.loadAt t v).run P w = .ok u w) : (loadOp t v).run P w = .ok (.value u) w := by
  unfold loadOp; simp only [Sem.run_bind, h, Result.andThen_ok, Sem.run_pure]
theorem run_buildOp {P : Program} {t : TypeId} {len : Nat} {parts : Array (Nat × Value)} {u : Value} {w w' : World} (h : (Instr.buildSlice t len parts).run P w = .ok u w') : (buildOp t len parts).run P w = .ok (.value u) w' := by
  unfold buildOp; simp only [Sem.run_bind, h, Result.andThen_ok, Sem.run_pure]
theorem load_item {w : World} {g : Nat} {x : Itm} {q : Option Addr} {c : Nat} (hx : x.ok) (h : Blk w g (icells x q c) 40) : (loadOp 40 (.pointer (some ⟨g, 0, none⟩))).run Try.prog w = .ok (.value (.agg (icells x q c).toArray)) w :=
  run_loadOp (run_loadAt_mid w g 0 40 _ _ h.range Try.underlying40 rfl (by rw [item_size, icells_length hx]))
theorem item_all : (Try.prog.info? 40).map (fun i => (i.zero, i.size)) = some (some (.agg (icells ⟨0, [], Fld.zero32⟩ none 0).toArray), 34) := by unfold icells; kernel_rfl
theorem item_all3 : (Try.prog.info? 40).map (fun i => (i.zero, i.size, i.bytes)) = some (some (.agg (icells ⟨0, [], Fld.zero32⟩ none 0).toArray), 34, 64) := by unfold icells; kernel_rfl
theorem build_item (w : World) {x : Itm} {q : Option Addr} {c : Nat} (hx : x.ok) : (buildOp 22 1 #[(0, .agg (icells x q c).toArray)]).run Try.prog w = .ok (.value (.slice (some ⟨w.heap.size, 0, none⟩) 1 1)) (w.alloc (.cells (icells x q c).toArray 40)) := by
  have := run_build_items (P := Try.prog) w 22 40 34 _ (by omega) Try.underlying22 item_all [icells x q c] (by intro c hc; simp at hc; subst hc; exact icells_length hx _ _) (by simp)
  exact run_buildOp (by simpa using this)
theorem load_id {w : World} {g o : Nat} {x : Itm} {q : Option Addr} {c : Nat} (hx : x.ok) (h : w.rangeAt g o (icells x q c)) : (loadOp 38 (.pointer (some ⟨g, o + 2, none⟩))).run Try.prog w = .ok (.value (.agg (x.D.map v8).toArray)) w :=
  run_loadOp (run_loadAt_mid w g (o + 2) 38 _ _ (rangeAt_id h) Try.underlying38 rfl (by rw [id_size, List.length_map, hx.len]))
theorem load_at {w : World} {g o : Nat} {x : Itm} {q : Option Addr} {c : Nat} (hx : x.ok) (h : w.rangeAt g o (icells x q c)) : (loadOp 40 (.pointer (some ⟨g, o, none⟩))).run Try.prog w = .ok (.value (.agg (icells x q c).toArray)) w :=
  run_loadOp (run_loadAt_mid w g o 40 _ _ h Try.underlying40 rfl (by rw [item_size, icells_length hx]))
end Go.Proofs.Ytgakmkglejddeaa
