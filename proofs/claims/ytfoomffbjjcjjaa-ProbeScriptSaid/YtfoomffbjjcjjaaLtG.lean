/-
  The law LotNone, over what lots that nobody made are asked to do.
-/
import Derived.Test.YtfoomffbjjcjjaaLtC
namespace Go.Proofs.Ytfoomffbjjcjjaa
set_option linter.unusedSimpArgs false
set_option linter.unusedVariables false
open Go.RowKit Sha Lot
/-- The cells of lots that nobody made. -/
def zeroLot : Array Value := #[.pointer none, .slice none 0 0, .int .i64 0]
def StillDone (v : Value) (w : World) (e : Ending) (w' : World) : Prop := e = .returned v ∧ Below w.heap.size w w'
def NoneDone (w : World) (e : Ending) (w' : World) : Prop := ∃ q c, e = .returned (.slice q 0 c) ∧ Below w.heap.size w w'
structure LotsNone : Prop where
  draw : ∀ (p : Option Addr) (w : World), (∀ a, p = some a → ∃ b, a = ⟨b, 0, none⟩ ∧ Blk w b zeroLot.toList 64) → Calls Try.prog 46 #[.pointer p] w (StillDone (v64 0) w)
  pick : ∀ (p : Option Addr) (n : Int) (w : World), (∀ a, p = some a → ∃ b, a = ⟨b, 0, none⟩ ∧ Blk w b zeroLot.toList 64) → -9223372036854775808 ≤ n ∧ n ≤ 9223372036854775807 → Calls Try.prog 38 #[.pointer p, .int .i64 n] w (StillDone (v64 0) w)
  shuffle : ∀ (p : Option Addr) (n : Int) (w : World), (∀ a, p = some a → ∃ b, a = ⟨b, 0, none⟩ ∧ Blk w b zeroLot.toList 64) → -9223372036854775808 ≤ n ∧ n ≤ 9223372036854775807 → Calls Try.prog 43 #[.pointer p, .int .i64 n] w (NoneDone w)
  used : ∀ (p : Option Addr) (w : World), (∀ a, p = some a → ∃ b, a = ⟨b, 0, none⟩ ∧ Blk w b zeroLot.toList 64) → Calls Try.prog 19 #[.pointer p] w (StillDone (v64 0) w)
theorem built_zero : Try.prog.built 64 [] = some zeroLot := by kernel_rfl
end Go.Proofs.Ytfoomffbjjcjjaa
