/-
  Acts (pairs of numbers) in memory, for seats without bags (from XActs).
-/
import Derived.Test.YtfoomffbjjcjjaaNums
namespace Go.Proofs.Ytfoomffbjjcjjaa
set_option linter.unusedSimpArgs false
set_option linter.unusedVariables false
open Go.RowKit Sha
abbrev actCells (a : Int × Int) : List Value := [v64 a.1, v64 a.2]
structure GoodA (w : World) (acts : List (Int × Int)) (p : Option Addr) (cap : Nat) : Prop where
  nums : ∀ a ∈ acts, (-9223372036854775808 ≤ a.1 ∧ a.1 ≤ 9223372036854775807) ∧ -9223372036854775808 ≤ a.2 ∧ a.2 ≤ 9223372036854775807
  at_ : At w p (acts.flatMap actCells)
  le : acts.length ≤ cap
  max : cap ≤ 9223372036854775807
  nil : p = none → cap = 0
theorem GoodA.below {w w' : World} {acts : List (Int × Int)} {p : Option Addr} {cap : Nat} (h : GoodA w acts p cap) (hb : Below w.heap.size w w') : GoodA w' acts p cap := ⟨h.nums, h.at_.below hb, h.le, h.max, h.nil⟩
theorem acts_length (acts : List (Int × Int)) : (acts.flatMap actCells).length = 2 * acts.length := by
  induction acts with
  | nil => rfl
  | cons a acts ih => rw [List.flatMap_cons, List.length_append, ih]; simp; omega
theorem acts_get (acts : List (Int × Int)) (k : Nat) (h : k < acts.length) : (acts.flatMap actCells)[2 * k]? = some (v64 acts[k].1) ∧ (acts.flatMap actCells)[2 * k + 1]? = some (v64 acts[k].2) := by
  induction acts generalizing k with
  | nil => simp at h
  | cons a acts ih =>
    cases k with
    | zero => simp [List.flatMap_cons]
    | succ k =>
      have := ih k (by simpa using h)
      rw [List.flatMap_cons]
      refine ⟨?_, ?_⟩
      · rw [List.getElem?_append_right (by simp; omega)]
        rw [show 2 * (k + 1) - (actCells a).length = 2 * k by simp; omega]
        simpa using this.1
      · rw [List.getElem?_append_right (by simp; omega)]
        rw [show 2 * (k + 1) + 1 - (actCells a).length = 2 * k + 1 by simp; omega]
        simpa using this.2
/-- Where the acts lie, and two cells of each. -/
theorem GoodA.cells {w : World} {acts : List (Int × Int)} {p : Option Addr} {cap : Nat} (h : GoodA w acts p cap) (h0 : 0 < acts.length) :
    ∃ g off, p = some ⟨g, off, none⟩ ∧ ∀ k (hk : k < acts.length), w.cell? ⟨g, off + k * 2, none⟩ = some (v64 acts[k].1) ∧ w.cell? ⟨g, off + k * 2 + 1, none⟩ = some (v64 acts[k].2) := by
  obtain ⟨g, off, hp, hc⟩ := h.at_.addr (by rw [acts_length]; omega)
  exact ⟨g, off, hp, fun k hk => ⟨by rw [Nat.mul_comm]; exact hc _ _ (acts_get acts k hk).1, by rw [Nat.mul_comm, Nat.add_assoc]; exact hc _ _ (acts_get acts k hk).2⟩⟩
end Go.Proofs.Ytfoomffbjjcjjaa
