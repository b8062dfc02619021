/-
  The laws of words, as their last texts want them.
-/
import Derived.Test.YtfnmgjmdlihpgaaMbH
namespace Go.Proofs.Ytfnmgjmdlihpgaa
set_option linter.unusedSimpArgs false
set_option linter.unusedVariables false
open Go.RowKit Sha
theorem tells_law (a b : Mb) (w : World) (ha : a.ok) (hb : b.ok) : Calls Try.prog 3 #[mv a, mv b] w fun e w' => e = .returned (.bool true) ∧ Below w.heap.size w w' := tells_any a b w
theorem known_law (w : World) : Calls Try.prog 4 #[] w fun e w' => e = .returned (.bool true) ∧ Below w.heap.size w w' := known_any w
theorem refutes_law (a b : Mb) (w : World) (ha : a.ok) (hb : b.ok) : Calls Try.prog 7 #[mv a, mv b] w fun e w' => e = .returned (.bool true) ∧ Below w.heap.size w w' := refutes_any a b w
theorem orders_law (a b c : Mb) (w : World) (ha : a.ok) (hb : b.ok) (hc : c.ok) : Calls Try.prog 6 #[mv a, mv b, mv c] w fun e w' => e = .returned (.bool true) ∧ Below w.heap.size w w' := order_law a b c w
end Go.Proofs.Ytfnmgjmdlihpgaa
