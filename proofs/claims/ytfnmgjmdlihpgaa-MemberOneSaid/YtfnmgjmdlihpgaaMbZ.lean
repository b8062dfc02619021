/-
  The law MemberOne, as its last text wants it.
-/
import Derived.Test.YtfnmgjmdlihpgaaMbK
namespace Go.Proofs.Ytfnmgjmdlihpgaa
set_option linter.unusedSimpArgs false
set_option linter.unusedVariables false
open Go.RowKit Sha
theorem one_law (l : List Mb) (n : Nat) (q : Option Addr) (cap : Nat) (ks : List Int) (m : Nat) (p : Option Addr) (d : Nat) (w : World) (hn : l.length = n) (hl : GoodW w l q cap) (hm : ks.length = m) (hk : GoodN w ks p d) :
    Calls Try.prog 5 #[.slice q n cap, .slice p m d] w fun e w' => e = .returned (.bool true) ∧ Below w.heap.size w w' := one_any l n q cap ks m p d w hn hl hm hk
end Go.Proofs.Ytfnmgjmdlihpgaa
