/-
  Numbers of the call's own behind a call on an object.
-/
import Derived.Test.YtfoomffbjjcjjaaObj
import Derived.Test.YtfoomffbjjcjjaaNums
namespace Go.Proofs.Ytfoomffbjjcjjaa
set_option linter.unusedSimpArgs false
set_option linter.unusedVariables false
open Go.RowKit Sha
theorem Own64.touch {fp : List Nat} {w w' : World} {B n : Nat} {e : TypeId} {v : Value} {xs : List Value} (h : Own64 w B e v n xs) (ht : Touch fp w w') (hg : ∀ g, v.ownBlock = some g → g ∉ fp) : Own64 w' B e v n xs := by
  refine ⟨⟨h.row.1, ?_⟩, h.ints.carry fun g e => ht.block g (h.row.lt g e).2 (hg g e)⟩
  rcases h.row.2 with h' | ⟨g, cap, cur, hv, hgB, hh, h4⟩
  · exact .inl h'
  · have hb : v.ownBlock = some g := by rw [hv]; rfl
    exact .inr ⟨g, cap, cur, hv, hgB, by rw [ht.block g (h.row.lt g hb).2 (hg g hb)]; exact hh, h4⟩
theorem Own64.weak {w : World} {B B' n : Nat} {e : TypeId} {v : Value} {xs : List Value} (h : Own64 w B e v n xs) (hb : B' ≤ B) : Own64 w B' e v n xs := by
  refine ⟨⟨h.row.1, ?_⟩, h.ints⟩
  rcases h.row.2 with h' | ⟨g, cap, cur, hv, hgB, h4⟩
  · exact .inl h'
  · exact .inr ⟨g, cap, cur, hv, Nat.le_trans hb hgB, h4⟩
end Go.Proofs.Ytfoomffbjjcjjaa
