/-
  Plain mathematics of a digest's text, the order and the weight of digests.
-/
import Derived.Test.YtpbdajgbahnbjaaSha2
import Derived.Laws.BytesArg
namespace Go.Proofs.Ytpbdajgbahnbjaa
set_option linter.unusedSimpArgs false
set_option linter.unusedVariables false
namespace Sha
/-- The digit of a number below 16, as a byte. -/
def digit (n : Int) : Int := if n < 10 then 48 + n else 87 + n
def zero64 : List Int := List.replicate 64 0
theorem zero64_length : zero64.length = 64 := rfl
def textUpto (zs : List Int) : Nat → List Int
  | 0 => zero64
  | i + 1 => ((textUpto zs i).set (2 * i) (digit (zs.getD i 0 / 16))).set (2 * i + 1) (digit (zs.getD i 0 % 16))
theorem textUpto_zero (zs : List Int) : textUpto zs 0 = zero64 := rfl
theorem textUpto_length (zs : List Int) (i : Nat) : (textUpto zs i).length = 64 := by
  induction i with
  | zero => rfl
  | succ i ih => simp [textUpto, ih]
theorem textUpto_succ (zs : List Int) (i : Nat) (x : Int) (hx : x = zs.getD i 0) :
    (textUpto zs (i + 1)).map v8 = (((textUpto zs i).map v8).set (2 * i) (v8 (digit (x / 16)))).set (2 * i + 1) (v8 (digit (x % 16))) := by
  subst hx; simp [textUpto, List.map_set]
/-- The text of a digest, as bytes. -/
def text (zs : List Int) : List Int := textUpto zs 32
theorem text_eq (zs : List Int) : text zs = textUpto zs 32 := rfl
attribute [irreducible] zero64 textUpto digit text
end Sha
end Go.Proofs.Ytpbdajgbahnbjaa
