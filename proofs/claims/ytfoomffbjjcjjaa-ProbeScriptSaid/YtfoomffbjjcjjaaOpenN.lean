/-
  A slice of numbers (int) among the arguments, opened.
-/
import Derived.Test.YtfoomffbjjcjjaaRowB
import Derived.Test.YtfoomffbjjcjjaaNums
import Derived.ChangeSlices
namespace Go.Proofs.Ytfoomffbjjcjjaa
set_option linter.unusedSimpArgs false
set_option linter.unusedVariables false
open Go.ChangeShapes Go.WideShapes Go.ChangeAt Go.RowKit Sha
section
variable {H : Type} {enc : TypeId × Value → H} {P : Program} {w : World} {base : Nat} {spare : Nat → Bool} {held : Bool}
theorem open_nums {r : Reach} {b0 : Nat} {t e : TypeId} {v : Value} {d : DataW H} {p : List MemPlace} (ht : P.underlying t = some (.slice e)) (he : P.underlying e = some (.int .i64)) (hc : P.cellsOf e = 1)
    (hv : Value.okWide P w r b0 t v) (h : DataW.Trod enc P w base spare held t v d p) :
    ∃ (q : Option Addr) (xs : List Int) (len cap : Nat), v = .slice q len cap ∧ xs.length = len ∧ GoodN w xs q cap := by
  obtain ⟨a0, len0, cap0, rfl⟩ := okWide_slice ht hv
  obtain ⟨fuel, hf⟩ := h
  rcases open_ints ht he hc hf with ⟨hcs, hx⟩ | ⟨a, len, cap, zs, hcs, _, hl, hm, hz, hx, hcell, hwz⟩
  · simp [Value.cells] at hcs
    obtain ⟨rfl, rfl, rfl⟩ := hcs
    exact ⟨none, [], 0, 0, rfl, rfl, by simp, At.nil _ _, by simp, by omega, fun _ => rfl⟩
  · simp [Value.cells] at hcs
    obtain ⟨rfl, rfl, rfl⟩ := hcs
    have hzl : len0 ≤ zs.length := by rw [hz]; split <;> omega
    have hlen : (zs.take len0).length = len0 := by simp; omega
    refine ⟨some a, zs.take len0, len0, cap0, rfl, hlen, fun n hn => bounds_i64 (hwz n (List.mem_of_mem_take hn)), ?_, by rw [hlen]; exact hl, by unfold maxLen at hm; omega, fun h => by cases h⟩
    by_cases h0 : len0 = 0
    · subst h0; simp; exact At.nil _ _
    · have h1 := hcell 0 (by omega)
      have hsp : a.spot = none := by
        have : a.add 0 = a := by simp [Addr.add]
        rw [this] at h1
        cases hs : a.spot with
        | none => rfl
        | some s =>
          unfold World.cell? at h1
          split at h1
          · simp [hs] at h1
          · cases h1
      obtain ⟨b, off, sp⟩ := a
      simp only at hsp
      subst hsp
      refine Or.inr ⟨b, off, rfl, fun i v hi => ?_⟩
      rw [List.getElem?_map] at hi
      rcases Nat.lt_or_ge i len0 with hlt | hge
      · rw [List.getElem?_take, if_pos hlt, List.getElem?_eq_getElem (by omega)] at hi
        simp at hi
        subst hi
        have := hcell i (by omega)
        rw [Addr.add_mid] at this
        rw [this]; simp [v64, List.getElem?_eq_getElem (show i < zs.length by omega)]
      · rw [List.getElem?_eq_none (by simp; omega)] at hi; cases hi
end
end Go.Proofs.Ytfoomffbjjcjjaa
