/-
  The laws of disks, their contracts over the program's own (disksOK, disksNone: DkZ).
-/
import Derived.Test.YtooljhdfmfkpeaaDkZ
import Derived.Test.YtooljhdfmfkpeaaDkI
import Derived.Test.YtooljhdfmfkpeaaDkL
import Derived.Test.YtooljhdfmfkpeaaDkN
import Derived.Test.YtooljhdfmfkpeaaDkP
namespace Go.Proofs.Ytooljhdfmfkpeaa
set_option linter.unusedSimpArgs false
set_option linter.unusedVariables false
open Go.RowKit Sha Dsk
theorem goodC_of {w : World} {zs : List Int} {n : Nat} {p : Option Addr} {cap : Nat} (h1 : zs.length = n) (h2 : At w p (zs.map v8)) (h3 : n ≤ cap) (h4 : cap ≤ maxLen) (h5 : p = none → cap = 0) (h6 : ∀ n ∈ zs, 0 ≤ n ∧ n ≤ 255) : GoodC w zs p cap :=
  ⟨h6, h2, by omega, by unfold maxLen at h4; omega, h5⟩
theorem diskScript_law (r : Int) (acts : List ActD) (n : Nat) (p : Option Addr) (cap : Nat) (w : World) (hr : -9223372036854775808 ≤ r ∧ r ≤ 9223372036854775807) (hn : acts.length = n) (ha : GoodD w acts p cap) :
    Calls Try.prog 3 #[.int .i64 r, .slice p n cap] w fun e w' => e = .returned (.bool true) ∧ Below w.heap.size w w' := script_any disksOK r acts n p cap w hr hn ha
theorem diskNone_law (zs : List Int) (n : Nat) (p : Option Addr) (cap : Nat) (x : Int) (w : World) (h1 : zs.length = n) (h2 : At w p (zs.map v8)) (h3 : n ≤ cap) (h4 : cap ≤ maxLen) (h5 : p = none → cap = 0) (h6 : ∀ n ∈ zs, 0 ≤ n ∧ n ≤ 255) (hx : -9223372036854775808 ≤ x ∧ x ≤ 9223372036854775807) :
    Calls Try.prog 4 #[.slice p n cap, .int .i64 x] w fun e w' => e = .returned (.bool true) ∧ Below w.heap.size w w' := none_any disksOK disksNone zs n p cap x w h1 (goodC_of h1 h2 h3 h4 h5 h6) hx
theorem diskKnown_law (w : World) : Calls Try.prog 5 #[] w fun e w' => e = .returned (.bool true) ∧ Below w.heap.size w w' := known_any disksOK w
theorem diskFirm_law (r : Int) (acts : List ActD) (n : Nat) (p : Option Addr) (cap : Nat) (w : World) (hr : -9223372036854775808 ≤ r ∧ r ≤ 9223372036854775807) (hn : acts.length = n) (ha : GoodD w acts p cap) :
    Calls Try.prog 6 #[.int .i64 r, .slice p n cap] w fun e w' => e = .returned (.bool true) ∧ Below w.heap.size w w' := firm_any disksOK r acts n p cap w hr hn ha
theorem diskSwitch_law (a : List Int) (na : Nat) (pa : Option Addr) (ca : Nat) (l : List Int) (nl : Nat) (pl : Option Addr) (cl : Nat) (x : List Int) (nx : Nat) (px : Option Addr) (cx : Nat) (q k : Int) (w : World)
    (a1 : a.length = na) (a2 : At w pa (a.map v8)) (a3 : na ≤ ca) (a4 : ca ≤ maxLen) (a5 : pa = none → ca = 0) (a6 : ∀ n ∈ a, 0 ≤ n ∧ n ≤ 255)
    (l1 : l.length = nl) (l2 : At w pl (l.map v8)) (l3 : nl ≤ cl) (l4 : cl ≤ maxLen) (l5 : pl = none → cl = 0) (l6 : ∀ n ∈ l, 0 ≤ n ∧ n ≤ 255)
    (x1 : x.length = nx) (x2 : At w px (x.map v8)) (x3 : nx ≤ cx) (x4 : cx ≤ maxLen) (x5 : px = none → cx = 0) (x6 : ∀ n ∈ x, 0 ≤ n ∧ n ≤ 255)
    (hq : -9223372036854775808 ≤ q ∧ q ≤ 9223372036854775807) (hk : -9223372036854775808 ≤ k ∧ k ≤ 9223372036854775807) :
    Calls Try.prog 7 #[.slice pa na ca, .slice pl nl cl, .slice px nx cx, .int .i64 q, .int .i64 k] w fun e w' => e = .returned (.bool true) ∧ Below w.heap.size w w' :=
  switch_any disksOK a na pa ca l nl pl cl x nx px cx q k w a1 (goodC_of a1 a2 a3 a4 a5 a6) l1 (goodC_of l1 l2 l3 l4 l5 l6) x1 (goodC_of x1 x2 x3 x4 x5 x6) hq hk
end Go.Proofs.Ytooljhdfmfkpeaa
