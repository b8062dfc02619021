/-
  A region that draws its order: a head all of whose operations answer the same in every world behind one (they read, and call what only adds to memory), and a tail whose order is forced. General: no program is named here.
-/
import Derived.Test.YtfoomffbjjcjjaaCls
import Derived.Test.YtfoomffbjjcjjaaTail
namespace Go.Proofs.Ytfoomffbjjcjjaa
set_option linter.unusedSimpArgs false
set_option linter.unusedVariables false
open Go.RowKit
theorem region_cls_tail {P : Program} {Q : Exit → Act → World → Prop} {I : Type} (W : I → World) {id : Nat} {a : Act} {w : World} {l : List Oper} (n : Nat) (hm : P.follows .mixedOrders = true) (hB : Region.lexTailB .any l.toArray n = true) (h0 : ∃ k, w.drew = W k)
    (h : wpQuiet P l.toArray (fun w' => ∃ k, w' = W k) (fun a' => ∀ w', (∃ k, w' = W k) → wpList P l.toArray Q (l.drop n) a' w') (l.take n) a) : (Code.region id l.toArray true).wp P Q a w := by
  obtain ⟨hn, H⟩ := head_of_lex n hB h
  refine wp_region_any hm ?_
  have hA := any_of_head (Q := Q) (g := l.length - n) (C := fun w' => ∃ k, w' = W k) (fun listed a' w' hw' hL => by
    have h1 := wpAny_of_seq (md := .any) (Q' := Q) (l.drop n) n listed a' w' (fun j => by simp [List.getElem?_drop]) (by rw [List.length_drop]; exact hL.1) (hL.2 w' hw')
    rwa [List.length_drop] at h1) n _ a w.drew h0 H
  rw [show n + (l.length - n) = l.length by omega] at hA
  simpa using hA
end Go.Proofs.Ytfoomffbjjcjjaa
