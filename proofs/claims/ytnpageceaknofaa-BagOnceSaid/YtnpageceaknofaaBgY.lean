/-
  The laws of bags, their contracts over the program's own (numBagOK, textBagOK, bagsNone: BgZ).
-/
import Derived.Test.YtnpageceaknofaaBgZ
import Derived.Test.YtnpageceaknofaaBgE
import Derived.Test.YtnpageceaknofaaBgO
import Derived.Test.YtnpageceaknofaaBgS
namespace Go.Proofs.Ytnpageceaknofaa
set_option linter.unusedSimpArgs false
set_option linter.unusedVariables false
open Go.RowKit Sha Bag
theorem bagScript_law (r : Int) (acts : List (Int × Int)) (n : Nat) (p : Option Addr) (cap : Nat) (w : World) (hr : -9223372036854775808 ≤ r ∧ r ≤ 9223372036854775807) (hn : acts.length = n) (ha : GoodA w acts p cap) :
    Calls Try.prog 3 #[.int .i64 r, .slice p n cap] w fun e w' => e = .returned (.bool true) ∧ Below w.heap.size w w' := script_any numBagOK r acts n p cap w hr hn ha
theorem bagNone_law (x i : Int) (w : World) (hx : -9223372036854775808 ≤ x ∧ x ≤ 9223372036854775807) (hi : -9223372036854775808 ≤ i ∧ i ≤ 9223372036854775807) :
    Calls Try.prog 4 #[.int .i64 x, .int .i64 i] w fun e w' => e = .returned (.bool true) ∧ Below w.heap.size w w' := none_any numBagOK bagsNone x i w hx hi
theorem bagKnown_law (w : World) : Calls Try.prog 5 #[] w fun e w' => e = .returned (.bool true) ∧ Below w.heap.size w w' := known_any numBagOK w
theorem bagOrder_law (l : List ByteArray) (n : Nat) (p : Option Addr) (cap : Nat) (bs : List Bool) (m : Nat) (q : Option Addr) (d : Nat) (w : World) (hn : l.length = n) (hl : GoodT w l p cap) (hm : bs.length = m) (hb : GoodB w bs q d) :
    Calls Try.prog 6 #[.slice p n cap, .slice q m d] w fun e w' => e = .returned (.bool true) ∧ Below w.heap.size w w' := order_any numBagOK textBagOK l n p cap bs m q d w hn hl hm hb
theorem bagOnce_law (l : List ByteArray) (n : Nat) (p : Option Addr) (cap : Nat) (x : Int) (s : ByteArray) (w : World) (hn : l.length = n) (hl : GoodT w l p cap) (hx : -9223372036854775808 ≤ x ∧ x ≤ 9223372036854775807) (_ : s.size ≤ maxLen) :
    Calls Try.prog 7 #[.slice p n cap, .int .i64 x, .string s] w fun e w' => e = .returned (.bool true) ∧ Below w.heap.size w w' := once_any numBagOK textBagOK l n p cap x s w hn hl hx
end Go.Proofs.Ytnpageceaknofaa
