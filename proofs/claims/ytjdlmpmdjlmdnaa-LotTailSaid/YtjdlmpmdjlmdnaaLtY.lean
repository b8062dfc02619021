/-
  The laws of lots, their contracts over the program's own (lotsOK, lotsNone: LtZ).
-/
import Derived.Test.YtjdlmpmdjlmdnaaLtZ
import Derived.Test.YtjdlmpmdjlmdnaaLtE
import Derived.Test.YtjdlmpmdjlmdnaaLtF
namespace Go.Proofs.Ytjdlmpmdjlmdnaa
set_option linter.unusedSimpArgs false
set_option linter.unusedVariables false
open Go.RowKit Sha Lot
theorem script_law (l : List Int) (n : Nat) (p : Option Addr) (cap : Nat) (ks : List Int) (m : Nat) (q : Option Addr) (d : Nat) (w : World) (hn : l.length = n) (hl : GoodN w l p cap) (hm : ks.length = m) (hk : GoodN w ks q d) :
    Calls Try.prog 3 #[.slice p n cap, .slice q m d] w fun e w' => e = .returned (.bool true) ∧ Below w.heap.size w w' := script_any lotsOK l n p cap ks m q d w hn hl hm hk
theorem none_law (n : Int) (w : World) (hn : -9223372036854775808 ≤ n ∧ n ≤ 9223372036854775807) :
    Calls Try.prog 4 #[.int .i64 n] w fun e w' => e = .returned (.bool true) ∧ Below w.heap.size w w' := none_any lotsOK lotsNone n w hn
theorem known_law (w : World) : Calls Try.prog 5 #[] w fun e w' => e = .returned (.bool true) ∧ Below w.heap.size w w' := known_any lotsOK w
theorem orders_law (l : List Int) (n : Nat) (p : Option Addr) (cap : Nat) (x : Int) (w : World) (hn : l.length = n) (hl : GoodN w l p cap) (hx : -9223372036854775808 ≤ x ∧ x ≤ 9223372036854775807) :
    Calls Try.prog 6 #[.slice p n cap, .int .i64 x] w fun e w' => e = .returned (.bool true) ∧ Below w.heap.size w w' := orders_any lotsOK l n p cap x w hn hl hx
theorem tail_law (l : List Int) (n : Nat) (p : Option Addr) (cap : Nat) (x : Int) (ks : List Int) (m : Nat) (q : Option Addr) (d : Nat) (w : World) (hn : l.length = n) (hl : GoodN w l p cap) (hx : -9223372036854775808 ≤ x ∧ x ≤ 9223372036854775807) (hm : ks.length = m) (hk : GoodN w ks q d) :
    Calls Try.prog 7 #[.slice p n cap, .int .i64 x, .slice q m d] w fun e w' => e = .returned (.bool true) ∧ Below w.heap.size w w' := tail_any lotsOK l n p cap x ks m q d w hn hl hx hm hk
end Go.Proofs.Ytjdlmpmdjlmdnaa
