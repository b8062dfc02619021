/-
  The laws of stage 13 but one, as their last texts want them.
-/
import Derived.Test.YtgohapbobbkaeaaGsE
import Derived.Test.YtgohapbobbkaeaaGlC
import Derived.Test.YtgohapbobbkaeaaGlD
import Derived.Test.YtgohapbobbkaeaaGlF
namespace Go.Proofs.Ytgohapbobbkaeaa
set_option linter.unusedSimpArgs false
set_option linter.unusedVariables false
open Go.RowKit Sha
theorem gknown_law (w : World) : Calls Try.prog 5 #[] w fun e w' => e = .returned (.bool true) ∧ Below w.heap.size w w' := gknown_any gossipOK w
theorem gnone_law (m : Mb) (n : Int) (w : World) (hm : m.ok) (hn : -9223372036854775808 ≤ n ∧ n ≤ 9223372036854775807) :
    Calls Try.prog 4 #[mv m, .int .i64 n] w fun e w' => e = .returned (.bool true) ∧ Below w.heap.size w w' := gnonelaw_any gossipOK m n w
theorem gnewest_law (l : List Mb) (n : Nat) (q : Option Addr) (c : Nat) (w : World) (hn : l.length = n) (hl : GoodW w l q c) :
    Calls Try.prog 7 #[.slice q n c] w fun e w' => e = .returned (.bool true) ∧ Below w.heap.size w w' := gnewest_any gossipOK l n q c w hn hl
theorem goften_law (nd : Int) (who : List Int) (nw : Nat) (pw : Option Addr) (cw : Nat) (por : List Int) (np : Nat) (pp : Option Addr) (cp : Nat) (w : World) (hnd : -9223372036854775808 ≤ nd ∧ nd ≤ 9223372036854775807) (hw : who.length = nw) (hgw : GoodN w who pw cw) (hp : por.length = np) (hgp : GoodN w por pp cp) :
    Calls Try.prog 6 #[.int .i64 nd, .slice pw nw cw, .slice pp np cp] w fun e w' => e = .returned (.bool true) ∧ Below w.heap.size w w' := goften_any gossipOK nd who nw pw cw por np pp cp w hnd hw hgw hp hgp
end Go.Proofs.Ytgohapbobbkaeaa
