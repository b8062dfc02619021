/-
  The laws of stage 14, over the program as it landed.
-/
import Derived.Test.YtfoomffbjjcjjaaPvH
import Derived.Test.YtfoomffbjjcjjaaPlQ
namespace Go.Proofs.Ytfoomffbjjcjjaa
set_option linter.unusedSimpArgs false
set_option linter.unusedVariables false
open Go.RowKit Sha Lot
theorem plKnown (w : World) : Calls Try.prog 5 #[] w fun e w' => e = .returned (.bool true) ∧ Below w.heap.size w w' := pknown_any probeOK w
end Go.Proofs.Ytfoomffbjjcjjaa
