/-
  What the rows of this seat ask of the program itself.
-/
import Derived.Test.YtfafgnefibgaaaaOpen
import Derived.Test.YtfafgnefibgaaaaPost
import Derived.Test.YtfafgnefibgaaaaRows
namespace Go.Proofs.Ytfafgnefibgaaaa
set_option linter.unusedSimpArgs false
set_option linter.unusedVariables false
theorem Try.own : ownKnob Try.prog.godebug = none := by kernel_rfl
theorem Try.laidOut : laidOutB Try.prog = true := by kernel_rfl
theorem cells26 : Try.prog.cellsOf 26 = 32 := by kernel_rfl
theorem cells5 : Try.prog.cellsOf 5 = 1 := by kernel_rfl
theorem read26 : Try.prog.readableRec 26 = true ∧ 26 < Try.prog.types.size := ⟨by kernel_rfl, by decide +kernel⟩
end Go.Proofs.Ytfafgnefibgaaaa
