/-
  A region that draws its order, all of whose operations answer the same in every world behind one: read, and call what only adds to memory. General: no program is named here.
-/
import Derived.Test.YtfoomffbjjcjjaaSl
import Derived.Deep.Quiet
namespace Go.Proofs.Ytfoomffbjjcjjaa
set_option linter.unusedSimpArgs false
set_option linter.unusedVariables false
open Go.RowKit
variable {P : Program}
theorem wp_region_cls {I : Type} (W : I → World) {id : Nat} {Q : Exit → Act → World → Prop} {a : Act} {w : World} {l : List Oper} (hm : P.follows .mixedOrders = true) (hB : Region.lexB .any l.toArray = true) (h0 : ∃ n, w.drew = W n)
    (h : wpQuiet P l.toArray (fun w' => ∃ n, w' = W n) (fun a' => ∀ w', (∃ n, w' = W n) → Q .normal a' w') l a) : (Code.region id l.toArray true).wp P Q a w :=
  wp_region_quiet (C := fun w' => ∃ n, w' = W n) hm hB h0 (by simpa using h)
/-- The worlds behind one, by number. -/
structure Cls (w : World) (I : Type) (W : I → World) : Prop where
  back : ∀ n, Below w.heap.size w (W n)
  all : ∀ w', Below w.heap.size w w' → ∃ n, w' = W n
theorem cls_of (w : World) : ∃ (I : Type) (W : I → World), Cls w I W := ⟨{w' : World // Below w.heap.size w w'}, Subtype.val, fun n => n.2, fun w' h => ⟨⟨w', h⟩, rfl⟩⟩
section
variable {w : World} {I : Type} {W : I → World}
theorem Cls.ne (h : Cls w I W) : Nonempty I := by
  obtain ⟨n, _⟩ := h.all w (Below.refl _ _)
  exact ⟨n⟩
theorem Cls.one (h : Cls w I W) : ∃ n, w.drew = W n := h.all _ (Below.refl _ _).drew
theorem Cls.cell (h : Cls w I W) {p : Addr} {v : Value} (hc : w.cell? p = some v) : ∀ n, (W n).cell? p = some v := fun n => ((h.back n).cell (World.block_lt_of_cell? w p hc)).trans hc
theorem Cls.call (h : Cls w I W) {f : Nat} {args : Array Value} {v : Value} (hc : ∀ w', Below w.heap.size w w' → Calls P f args w' fun e w'' => e = .returned v ∧ Below w'.heap.size w' w'') : ∀ n, Calls P f args (W n) fun e w'' => e = .returned v ∧ ∃ m, w'' = W m := fun n =>
  (hc _ (h.back n)).mono fun e w'' ⟨he, hb⟩ => ⟨he, h.all _ ((h.back n).trans (hb.mono (h.back n).size))⟩
end
end Go.Proofs.Ytfoomffbjjcjjaa
