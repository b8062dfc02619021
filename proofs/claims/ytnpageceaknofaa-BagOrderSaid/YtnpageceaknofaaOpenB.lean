/-
  A slice of truths among the arguments, opened.
-/
import Derived.Test.YtnpageceaknofaaRowB
import Derived.Test.YtnpageceaknofaaBgO
import Derived.Deep.Grids
namespace Go.Proofs.Ytnpageceaknofaa
set_option linter.unusedSimpArgs false
set_option linter.unusedVariables false
open Go.ChangeShapes Go.WideShapes Go.ChangeAt Go.RowKit Sha
/-- Cells one behind the other, known by their numbers, as a list at an address. -/
theorem at_of_cells {w : World} {a : Addr} {cs : List Value} (h : ∀ i v, cs[i]? = some v → w.cell? (a.add i) = some v) : At w (some a) cs := by
  by_cases h0 : cs = []
  · exact .inl h0
  · have hl : 0 < cs.length := List.length_pos_iff.2 h0
    have h1 := h 0 cs[0] (List.getElem?_eq_getElem hl)
    have hsp : a.spot = none := by
      have : a.add 0 = a := by simp [Addr.add]
      rw [this] at h1
      cases hs : a.spot with
      | none => rfl
      | some s =>
        unfold World.cell? at h1
        split at h1
        · simp [hs] at h1
        · cases h1
    obtain ⟨b, off, sp⟩ := a
    simp only at hsp
    subst hsp
    refine Or.inr ⟨b, off, rfl, fun i v hi => ?_⟩
    have h2 := h i v hi
    rwa [Addr.add_mid] at h2
section
variable {H : Type} {enc : TypeId × Value → H} {P : Program} {w : World} {base : Nat} {held : Bool}
theorem open_truths {r : Reach} {b0 : Nat} {t e : TypeId} {v : Value} {d : DataW H} {p : List MemPlace} (ht : P.underlying t = some (.slice e)) (he : P.underlying e = some .bool) (hc : P.cellsOf e = 1)
    (hv : Value.okWide P w r b0 t v) (h : DataW.Trod enc P w base (fun _ => true) held t v d p) :
    ∃ (q : Option Addr) (xs : List Bool) (len cap : Nat), v = .slice q len cap ∧ xs.length = len ∧ GoodB w xs q cap := by
  obtain ⟨a0, len0, cap0, rfl⟩ := okWide_slice ht hv
  obtain ⟨fuel, hf⟩ := h
  rcases Deep.open_bools ht he hc hf with ⟨hcs, hx⟩ | ⟨a, len, cap, B, hcs, _, hl, hm, hx, hcell⟩
  · simp [Value.cells] at hcs
    obtain ⟨rfl, rfl, rfl⟩ := hcs
    exact ⟨none, [], 0, 0, rfl, rfl, At.nil _ _, by simp, by omega⟩
  · simp [Value.cells] at hcs
    obtain ⟨rfl, rfl, rfl⟩ := hcs
    refine ⟨some a, (List.range len0).map B, len0, cap0, rfl, by simp, at_of_cells fun i v hi => ?_, by simpa using hl, by unfold maxLen at hm; omega⟩
    rw [List.map_map, List.getElem?_map] at hi
    by_cases hlt : i < len0
    · rw [List.getElem?_range hlt] at hi
      simp at hi
      rw [← hi]
      exact hcell i (by omega)
    · rw [List.getElem?_eq_none (by simp; omega)] at hi; cases hi
end
end Go.Proofs.Ytnpageceaknofaa
