/-
  A drawn region walked by hand, operation by operation: what reads what is held, or no world, is taken first; what alone may come up is carried out. General: no program is named here.
-/
import Derived.Deep.RegionHeld3
namespace Go.Proofs.Ytfoomffbjjcjjaa
set_option linter.unusedSimpArgs false
set_option linter.unusedVariables false
section
variable {P : Program} {md : Region.Mode} {l : List Oper} {Q : Exit → Act → World → Prop} {S : World → Prop} {fuel : Nat} {listed : Array Bool} {a : Act} {w : World}
theorem blt_lt {i n : Nat} (h : Nat.blt i n = true) : i < n := Nat.le_of_ble_eq_true h
theorem at_toArray {i : Nat} (h : i < l.length) : l.toArray[i]? = some l[i] := by simp [h]
theorem take_at (i : Nat) (hlen : Nat.blt i l.length = true) {v : Value} (hs : Region.noSelect l.toArray = true) (hf : Region.free md l.toArray listed i = true) (hr : (Region.ready md l.toArray listed).contains i = true)
    (hQ : ∀ c a w, Q (.panic c) (a.put (l[i]'(blt_lt hlen)).dst v) w → Q (.panic c) a w) (hw : Region.wanted (l[i]'(blt_lt hlen)) (yielded l.toArray a.tmps) = true)
    (hy : ∀ w, S w → (execOp a.eval (l[i]'(blt_lt hlen))).run P w = .ok (.value v) w) (hS : S w)
    (h : wpAnyH P md l.toArray Q S fuel (listed.setIfInBounds i true) (a.put (l[i]'(blt_lt hlen)).dst v) w) : wpAnyH P md l.toArray Q S (fuel + 1) listed a w :=
  wpAnyH_take (at_toArray (blt_lt hlen)) hs hf hr hQ (Or.inl ⟨hw, hy⟩) hS h
theorem pass_at (i : Nat) (hlen : Nat.blt i l.length = true) (hs : Region.noSelect l.toArray = true) (hf : Region.free md l.toArray listed i = true) (hr : (Region.ready md l.toArray listed).contains i = true)
    (hQ : ∀ c a w, Q (.panic c) (a.put (l[i]'(blt_lt hlen)).dst undef) w → Q (.panic c) a w) (hw : Region.wanted (l[i]'(blt_lt hlen)) (yielded l.toArray a.tmps) = false) (hS : S w)
    (h : wpAnyH P md l.toArray Q S fuel (listed.setIfInBounds i true) (a.put (l[i]'(blt_lt hlen)).dst undef) w) : wpAnyH P md l.toArray Q S (fuel + 1) listed a w :=
  wpAnyH_take (at_toArray (blt_lt hlen)) hs hf hr hQ (Or.inr ⟨hw, rfl⟩) hS h
theorem ready_at (i : Nat) (hlen : Nat.blt i l.length = true) (hr : Region.ready md l.toArray listed = [i])
    (h : ∀ K' : Act → World → Prop, Shut (∀ a w, S w → (S w → wpAnyH P md l.toArray Q S fuel (listed.setIfInBounds i true) a w) → K' a w) → if Region.wanted (l[i]'(blt_lt hlen)) (yielded l.toArray a.tmps) = true then Oper.wp P (l[i]'(blt_lt hlen)) a w K' Q else K' (a.put (l[i]'(blt_lt hlen)).dst undef) w) :
    wpAnyH P md l.toArray Q S (fuel + 1) listed a w :=
  wpAnyH_ready hr (by simp) (AllReadyH.cons (at_toArray (blt_lt hlen)) h AllReadyH.nil)
theorem ready2_at (i j : Nat) (hi : Nat.blt i l.length = true) (hj : Nat.blt j l.length = true) (hr : Region.ready md l.toArray listed = [i, j])
    (h1 : ∀ K' : Act → World → Prop, Shut (∀ a w, S w → (S w → wpAnyH P md l.toArray Q S fuel (listed.setIfInBounds i true) a w) → K' a w) → if Region.wanted (l[i]'(blt_lt hi)) (yielded l.toArray a.tmps) = true then Oper.wp P (l[i]'(blt_lt hi)) a w K' Q else K' (a.put (l[i]'(blt_lt hi)).dst undef) w)
    (h2 : ∀ K' : Act → World → Prop, Shut (∀ a w, S w → (S w → wpAnyH P md l.toArray Q S fuel (listed.setIfInBounds j true) a w) → K' a w) → if Region.wanted (l[j]'(blt_lt hj)) (yielded l.toArray a.tmps) = true then Oper.wp P (l[j]'(blt_lt hj)) a w K' Q else K' (a.put (l[j]'(blt_lt hj)).dst undef) w) :
    wpAnyH P md l.toArray Q S (fuel + 1) listed a w :=
  wpAnyH_ready hr (by simp) (AllReadyH.cons (at_toArray (blt_lt hi)) h1 (AllReadyH.cons (at_toArray (blt_lt hj)) h2 AllReadyH.nil))
end
end Go.Proofs.Ytfoomffbjjcjjaa
