/-
  Words in memory: three cells each, one behind the other.
-/
import Derived.Test.YtgohapbobbkaeaaMbP
import Derived.Test.YtgohapbobbkaeaaSl
namespace Go.Proofs.Ytgohapbobbkaeaa
set_option linter.unusedSimpArgs false
set_option linter.unusedVariables false
open Go.RowKit Sha
theorem wflat_length (l : List Mb) : (l.flatMap mc).length = l.length * 3 := by
  induction l with
  | nil => rfl
  | cons x l ih => rw [List.flatMap_cons, List.length_append, ih, List.length_cons]; simp; omega
theorem wflat_get (l : List Mb) (i : Nat) (hi : i < l.length) (r : Nat) (hr : r < 3) : (l.flatMap mc)[i * 3 + r]? = (mc l[i])[r]? := by
  induction l generalizing i with
  | nil => simp at hi
  | cons x l ih =>
    rw [List.flatMap_cons]
    cases i with
    | zero => simp only [Nat.zero_mul, Nat.zero_add]; rw [List.getElem?_append_left (by simpa using hr)]; rfl
    | succ i =>
      rw [List.getElem?_append_right (by simp; omega), show (i + 1) * 3 + r - (mc x).length = i * 3 + r by simp; omega]
      simpa using ih i (by simpa using hi)
theorem wflat_inv (l : List Mb) (j : Nat) (v : Value) (hv : (l.flatMap mc)[j]? = some v) : ∃ (i r : Nat) (hi : i < l.length), r < 3 ∧ j = i * 3 + r ∧ (mc l[i])[r]? = some v := by
  have hj := (List.getElem?_eq_some_iff.1 hv).1
  rw [wflat_length] at hj
  have hi : j / 3 < l.length := by omega
  refine ⟨j / 3, j % 3, hi, by omega, by omega, ?_⟩
  rw [← wflat_get l _ hi _ (by omega), show j / 3 * 3 + j % 3 = j by omega]; exact hv
structure GoodW (w : World) (l : List Mb) (q : Option Addr) (cap : Nat) : Prop where
  ok : ∀ x ∈ l, x.ok
  at_ : At w q (l.flatMap mc)
  le : l.length ≤ cap
  max : cap ≤ 9223372036854775807
  nil : q = none → cap = 0
theorem GoodW.below {w w' : World} {l : List Mb} {q : Option Addr} {cap : Nat} (h : GoodW w l q cap) (hb : Below w.heap.size w w') : GoodW w' l q cap := ⟨h.ok, h.at_.below hb, h.le, h.max, h.nil⟩
/-- The i-th word: where it lies. -/
theorem GoodW.get {w : World} {l : List Mb} {q : Option Addr} {cap : Nat} (h : GoodW w l q cap) (i : Nat) (hi : i < l.length) : ∃ b off, q = some ⟨b, off, none⟩ ∧ w.rangeAt b (off + i * 3) (mc l[i]) := by
  obtain ⟨b, off, rfl, hc⟩ := h.at_.addr (by rw [wflat_length]; omega)
  refine ⟨b, off, rfl, fun j v hv => ?_⟩
  have hj : j < 3 := by have := (List.getElem?_eq_some_iff.1 hv).1; simpa using this
  rw [Nat.add_assoc]
  exact hc _ v (by rw [wflat_get l i hi j hj]; exact hv)
end Go.Proofs.Ytgohapbobbkaeaa
