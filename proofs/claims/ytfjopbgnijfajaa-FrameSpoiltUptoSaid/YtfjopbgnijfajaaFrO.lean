/-
  Heads loaded and compared, as one operation each: names that the walk does not open.
-/
import Derived.Test.YtfjopbgnijfajaaFrD
import Derived.Test.YtfjopbgnijfajaaEqa
namespace Go.Proofs.Ytfjopbgnijfajaa
set_option linter.unusedSimpArgs false
set_option linter.unusedVariables false
open Go.RowKit Sha
@[irreducible] def hloadOp (t : TypeId) (v : Value) : Sem Next := do pure (.value (← Instr.loadAt t v))
@[irreducible] def hneqOp (t : TypeId) (x y : Operand) (u v : Value) : Sem Next := do pure (.value (← (do eqGuard .neq t x y u v; binOp .neq t u v)))
theorem execOp_loadHead (ρ : Operand → Value) (dst : Option Tmp) (x : Operand) (ty : TypeId) (pos : String) (after : Array Edge) (guard : Option (Nat × Bool)) :
    execOp ρ { dst := dst, op := .load 46 x, type := ty, pos := pos, after := after, guard := guard } = hloadOp 46 (ρ x) := by unfold hloadOp; rfl
theorem execOp_neqHead (ρ : Operand → Value) (dst : Option Tmp) (x y : Operand) (ty r : TypeId) (pos : String) (after : Array Edge) (guard : Option (Nat × Bool)) :
    execOp ρ { dst := dst, op := .binOp .neq 46 x y r, type := ty, pos := pos, after := after, guard := guard } = hneqOp 46 x y (ρ x) (ρ y) := by unfold hneqOp; rfl
theorem run_neqHead (x y : Operand) (xs ys : List Int) (hx : xs.length = 8) (hy : ys.length = 8) (w : World) : (hneqOp 46 x y (.agg (xs.map v8).toArray) (.agg (ys.map v8).toArray)).run Try.prog w = .ok (.value (.bool (!decide (xs = ys)))) w := by
  have h := run_neq_arr (P := Try.prog) w x y 46 5 8 .u8 Try.underlying46 Try.underlying5 kslice1 xs ys hx hy
  unfold hneqOp
  rw [Sem.run_bind, h]
  simp only [Result.andThen_ok, Sem.run_pure]
theorem load_head {w : World} {g : Nat} {z : List Int} {t : TypeId} (hz : z.length = 8) (h : Blk w g (z.map v8) t) : (hloadOp 46 (.pointer (some ⟨g, 0, none⟩))).run Try.prog w = .ok (.value (.agg (z.map v8).toArray)) w := by
  unfold hloadOp
  simp only [Instr.loadAt, Instr.sureAddr, Sem.run_bind, Sem.run_pure, Result.andThen_ok, run_loadVar_row w g t 46 _ (0, 0) _ h Try.underlying46 rfl (by rw [sizeHead]; simp [hz])]
end Go.Proofs.Ytfjopbgnijfajaa
