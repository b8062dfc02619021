/-
  Words about nodes, as the chapter has them: which may be, which is over which, which is left of two, what a node answers.
-/
import Derived.Lib.Hide
namespace Go.Proofs.Ytgohapbobbkaeaa
set_option linter.unusedSimpArgs false
set_option linter.unusedVariables false
/-- A word: a node's number, a status, an incarnation. -/
structure Mb where
  I : Int
  S : Int
  N : Int
theorem Mb.ext' {a b : Mb} (h1 : a.I = b.I) (h2 : a.S = b.S) (h3 : a.N = b.N) : a = b := by cases a; cases b; cases h1; cases h2; cases h3; rfl
instance : DecidableEq Mb := fun a b =>
  if h : a.I = b.I ∧ a.S = b.S ∧ a.N = b.N then isTrue (Mb.ext' h.1 h.2.1 h.2.2) else isFalse (fun e => h (by subst e; exact ⟨rfl, rfl, rfl⟩))
theorem Mb.eq_iff (a b : Mb) : a = b ↔ a.I = b.I ∧ a.S = b.S ∧ a.N = b.N := ⟨fun e => by subst e; exact ⟨rfl, rfl, rfl⟩, fun h => Mb.ext' h.1 h.2.1 h.2.2⟩
structure Mb.ok (m : Mb) : Prop where
  i : -9223372036854775808 ≤ m.I ∧ m.I ≤ 9223372036854775807
  s : -9223372036854775808 ≤ m.S ∧ m.S ≤ 9223372036854775807
  n : -9223372036854775808 ≤ m.N ∧ m.N ≤ 9223372036854775807
namespace Mb
def none : Mb := ⟨0, 0, 0⟩
theorem none_ok : none.ok := ⟨by decide, by decide, by decide⟩
def May (m : Mb) : Prop := (1 ≤ m.I ∧ m.I ≤ 64) ∧ (1 ≤ m.S ∧ m.S ≤ 4) ∧ 0 ≤ m.N ∧ m.N ≤ 2147483647
instance (m : Mb) : Decidable m.May := by unfold May; infer_instance
def err (m : Mb) : Int := if m.May then 0 else 2
def Both (a b : Mb) : Prop := a.May ∧ b.May ∧ a.I = b.I
instance (a b : Mb) : Decidable (Both a b) := by unfold Both; infer_instance
def berr (a b : Mb) : Int := if Both a b then 0 else 2
/-- Of two words about one node. -/
def Up (a b : Mb) : Prop := b.N < a.N ∨ a.N = b.N ∧ b.S < a.S
instance (a b : Mb) : Decidable (Up a b) := by unfold Up; infer_instance
def Over (a b : Mb) : Prop := Both a b ∧ Up a b
instance (a b : Mb) : Decidable (Over a b) := by unfold Over; infer_instance
def merge (a b : Mb) : Mb := if Both a b then (if Up a b then a else b) else none
def live (m : Mb) : Bool := decide (m.S = 1 ∨ m.S = 2)
/-- What a node is behind a word about itself, whether it is told, and why not. -/
def refute (me w : Mb) : Mb × Bool × Int :=
  if ¬ Both me w ∨ me.S ≠ 1 then (none, false, 2)
  else if w.S = 1 then (⟨me.I, me.S, if me.N < w.N then w.N else me.N⟩, false, 0)
  else if w.N < me.N then (me, false, 0)
  else if w.N = 2147483647 then (none, false, 5)
  else (⟨me.I, me.S, w.N + 1⟩, true, 0)
theorem Both.symm {a b : Mb} (h : a.Both b) : b.Both a := ⟨h.2.1, h.1, h.2.2.symm⟩
theorem up_not {a b : Mb} (h : a.Up b) : ¬ b.Up a := by unfold Up at *; omega
theorem up_trans {a b c : Mb} (h : a.Up b) (h2 : b.Up c) : a.Up c := by unfold Up at *; omega
theorem up_or {a b : Mb} (h : a.I = b.I) : a.Up b ∨ b.Up a ∨ a = b := by
  rw [eq_iff]; unfold Up; omega
theorem merge_left {a b : Mb} (h : a.Both b) (hn : ¬ b.Up a) : merge a b = a := by
  unfold merge
  rw [if_pos h]
  split
  · rfl
  · rcases up_or h.2.2 with x | x | x
    · contradiction
    · contradiction
    · exact x.symm
theorem May.ok {m : Mb} (h : m.May) : m.ok := by
  obtain ⟨h1, h2, h3⟩ := h
  exact ⟨by omega, by omega, by omega⟩
theorem merge_ok (a b : Mb) : (merge a b).ok := by
  unfold merge
  split
  · rename_i h
    split
    · exact h.1.ok
    · exact h.2.1.ok
  · exact none_ok
theorem refute_ok (a b : Mb) : (refute a b).1.ok := by
  unfold refute
  split
  · exact none_ok
  · rename_i h
    have hb : Both a b := Classical.byContradiction fun hn => h (Or.inl hn)
    have h1 := hb.1.ok
    have h2 := hb.2.1.ok
    have h3 : b.N ≤ 2147483647 := hb.2.1.2.2.2
    split
    · refine ⟨h1.i, h1.s, ?_⟩
      show -9223372036854775808 ≤ (if a.N < b.N then b.N else a.N) ∧ (if a.N < b.N then b.N else a.N) ≤ 9223372036854775807
      split
      · exact h2.n
      · exact h1.n
    · split
      · exact h1
      · split
        · exact none_ok
        · have := h2.n
          exact ⟨h1.i, h1.s, by show -9223372036854775808 ≤ b.N + 1 ∧ b.N + 1 ≤ 9223372036854775807; omega⟩
end Mb
end Go.Proofs.Ytgohapbobbkaeaa
