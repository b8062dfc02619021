/-
  A slice of bytes in memory that is looked through, opened.
-/
import Derived.Test.YtgohapbobbkaeaaRowB
import Derived.Test.YtgohapbobbkaeaaSha
import Derived.Test.YtgohapbobbkaeaaSl
import Derived.ChangeSlices
import Derived.OpenShut
import Derived.Deep.Slices
import Derived.Deep.Strs
namespace Go.Proofs.Ytgohapbobbkaeaa
set_option linter.unusedSimpArgs false
set_option linter.unusedVariables false
open Go.ChangeShapes Go.WideShapes Go.ChangeAt Go.RowKit Sha
section
variable {H : Type} {enc : TypeId × Value → H} {P : Program} {w : World} {base : Nat} {spare : Nat → Bool} {held : Bool}
/-- A slice of bytes in memory: its numbers. -/
theorem cells_bytesl {t e : TypeId} {fuel : Nat} {cs : List Value} {x : DataW H × List MemPlace} (ht : P.underlying t = some (.slice e)) (he : P.underlying e = some (.int .u8)) (hc : P.cellsOf e = 1)
    (hf : DataW.trod enc P w base spare held fuel t cs = some x) :
    ∃ (q : Option Addr) (xs : List Int) (cap : Nat), cs = [.slice q xs.length cap] ∧ At w q (xs.map v8) ∧ xs.length ≤ cap ∧ cap ≤ maxLen ∧ (q = none → cap = 0) ∧ (∀ n ∈ xs, 0 ≤ n ∧ n ≤ 255) := by
  rcases open_ints ht he hc hf with ⟨hcs, hx⟩ | ⟨a, len, cap, zs, hcs, _, hl, hm, hz, hx, hcell, hwz⟩
  · exact ⟨none, [], 0, hcs, At.nil _ _, Nat.le_refl _, by simp [maxLen], fun _ => rfl, by simp⟩
  · have hzl : len ≤ zs.length := by rw [hz]; split <;> omega
    have hlen : (zs.take len).length = len := by simp; omega
    refine ⟨some a, zs.take len, cap, by rw [hlen]; exact hcs, ?_, by rw [hlen]; exact hl, hm, (fun h => by cases h), fun n hn => bounds_u8 (hwz n (List.mem_of_mem_take hn))⟩
    by_cases h0 : len = 0
    · subst h0; simp; exact At.nil _ _
    · have h1 := hcell 0 (by omega)
      have hsp : a.spot = none := by
        have : a.add 0 = a := by simp [Addr.add]
        rw [this] at h1
        cases hs : a.spot with
        | none => rfl
        | some s =>
          unfold World.cell? at h1
          split at h1
          · simp [hs] at h1
          · cases h1
      obtain ⟨b, off, sp⟩ := a
      simp only at hsp
      subst hsp
      refine Or.inr ⟨b, off, rfl, fun i v hi => ?_⟩
      rw [List.getElem?_map] at hi
      rcases Nat.lt_or_ge i len with hlt | hge
      · rw [List.getElem?_take, if_pos hlt, List.getElem?_eq_getElem (by omega)] at hi
        simp at hi
        subst hi
        have := hcell i (by omega)
        rw [Addr.add_mid] at this
        rw [this]; simp [v8, List.getElem?_eq_getElem (show i < zs.length by omega)]
      · rw [List.getElem?_eq_none (by simp; omega)] at hi; cases hi
end
end Go.Proofs.Ytgohapbobbkaeaa
