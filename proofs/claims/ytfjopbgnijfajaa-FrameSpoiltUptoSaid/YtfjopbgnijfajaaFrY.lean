/-
  The laws of frames, their contracts over the program's own (frameOK: FrZ).
-/
import Derived.Test.YtfjopbgnijfajaaFrZ
namespace Go.Proofs.Ytfjopbgnijfajaa
set_option linter.unusedSimpArgs false
set_option linter.unusedVariables false
open Go.RowKit Sha
theorem awakeOK (w : World) : Calls Try.prog 10 #[] w fun e w' => e = .returned (.bool true) ∧ Below w.heap.size w w' := awake_any frameOK w
theorem knownOK (w : World) : Calls Try.prog 5 #[] w fun e w' => e = .returned (.bool true) ∧ Below w.heap.size w w' := known_any frameOK w
theorem good_bytes {zs : List Int} {n : Nat} {p : Option Addr} {cap : Nat} {w : World} (hl : zs.length = n) (hA : At w p (zs.map v8)) (hc : n ≤ cap) (hm : cap ≤ maxLen) (hp : p = none → cap = 0) (hz : ∀ n ∈ zs, 0 ≤ n ∧ n ≤ 255) : GoodS w (zs, p, cap) :=
  ⟨hz, hA, by simp only; omega, by unfold maxLen at hm; simp only; omega, hp⟩
theorem fsplits_law (zs : List Int) (n : Nat) (p : Option Addr) (cap : Nat) (w : World) (hl : zs.length = n) (hA : At w p (zs.map v8)) (hc : n ≤ cap) (hm : cap ≤ maxLen) (hp : p = none → cap = 0) (hz : ∀ n ∈ zs, 0 ≤ n ∧ n ≤ 255) :
    Calls Try.prog 4 #[.slice p n cap] w fun e w' => e = .returned (.bool true) ∧ Below w.heap.size w w' := fsplits_any frameOK awakeOK zs n p cap w hl (good_bytes hl hA hc hm hp hz)
theorem frtorn_law (l : List (List Int)) (n : Nat) (q : Option Addr) (c : Nat) (x : Int) (zs : List Int) (zn : Nat) (zp : Option Addr) (zc : Nat) (w : World) (h : Recs w q n c l) (hx : -9223372036854775808 ≤ x ∧ x ≤ 9223372036854775807)
    (hl : zs.length = zn) (hA : At w zp (zs.map v8)) (hc : zn ≤ zc) (hm : zc ≤ maxLen) (hp : zp = none → zc = 0) (hz : ∀ n ∈ zs, 0 ≤ n ∧ n ≤ 255) :
    Calls Try.prog 7 #[.slice q n c, .int .i64 x, .slice zp zn zc] w fun e w' => e = .returned (.bool true) ∧ Below w.heap.size w w' := frtorn_any frameOK awakeOK l n q c x zs zn zp zc w h hx hl (good_bytes hl hA hc hm hp hz)
theorem frspoilt_law (l : List (List Int)) (n : Nat) (q : Option Addr) (c : Nat) (wh pl by_ : Int) (w : World) (h : Recs w q n c l) (hwh : -9223372036854775808 ≤ wh ∧ wh ≤ 9223372036854775807) (hpl : -9223372036854775808 ≤ pl ∧ pl ≤ 9223372036854775807) (hby : 0 ≤ by_ ∧ by_ ≤ 255) (hbig : n ≤ 2000000) :
    Calls Try.prog 8 #[.slice q n c, .int .i64 wh, .int .i64 pl, .int .u8 by_] w fun e w' => e = .returned (.bool true) ∧ Below w.heap.size w w' := frspoilt_any frameOK awakeOK l n q c wh pl by_ w h hwh hpl hby hbig
end Go.Proofs.Ytfjopbgnijfajaa
