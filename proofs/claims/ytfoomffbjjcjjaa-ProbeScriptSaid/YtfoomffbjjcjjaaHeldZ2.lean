/-
  HeldZ, where one of two may come up. General: no program is named here.
-/
import Derived.Test.YtfoomffbjjcjjaaHeldZ
namespace Go.Proofs.Ytfoomffbjjcjjaa
set_option linter.unusedSimpArgs false
set_option linter.unusedVariables false
section
variable {P : Program} {md : Region.Mode} {Q : Exit → Act → World → Prop} {S : World → Prop} {l : List Oper} {n f : Nat} {listed : Array Bool} {a : Act} {w : World}
theorem z_ready2 (i j : Nat) (hi : Nat.blt i l.length = true) (hj : Nat.blt j l.length = true) (hin : Nat.blt i n = true) (hjn : Nat.blt j n = true) (hr : Region.ready md l.toArray listed = [i, j]) (inv : HeadInv md l.toArray n listed)
    (h1 : ∀ K' : Act → World → Prop, Shut (∀ a w, S w → (S w → HeadInv md l.toArray n (listed.setIfInBounds i true) → AnyZ P md l.toArray Q S n f (listed.setIfInBounds i true) a w) → K' a w) → if Region.wanted (l[i]'(blt_ltz hi)) (yielded l.toArray a.tmps) = true then Oper.wp P (l[i]'(blt_ltz hi)) a w K' Q else K' (a.put (l[i]'(blt_ltz hi)).dst undef) w)
    (h2 : ∀ K' : Act → World → Prop, Shut (∀ a w, S w → (S w → HeadInv md l.toArray n (listed.setIfInBounds j true) → AnyZ P md l.toArray Q S n f (listed.setIfInBounds j true) a w) → K' a w) → if Region.wanted (l[j]'(blt_ltz hj)) (yielded l.toArray a.tmps) = true then Oper.wp P (l[j]'(blt_ltz hj)) a w K' Q else K' (a.put (l[j]'(blt_ltz hj)).dst undef) w) :
    AnyZ P md l.toArray Q S n (f + 1) listed a w := by
  refine ⟨fun h0 => (by rw [hr] at h0; cases h0), fun k hk => ?_⟩
  have hk' := hk
  rw [hr] at hk'
  have hkij : k = i ∨ k = j := by simpa using hk'
  rcases hkij with hki | hki
  · have hinv := inv.set hk (by rw [hki]; exact blt_ltz hin)
    subst hki
    exact wpOp_step (at_toArrayz (blt_ltz hi)) (fun K' hK => h1 K' (fun a w hS hW => hK a w ⟨fun _ => hS, hW hS hinv⟩))
  · have hinv := inv.set hk (by rw [hki]; exact blt_ltz hjn)
    subst hki
    exact wpOp_step (at_toArrayz (blt_ltz hj)) (fun K' hK => h2 K' (fun a w hS hW => hK a w ⟨fun _ => hS, hW hS hinv⟩))
end
end Go.Proofs.Ytfoomffbjjcjjaa
