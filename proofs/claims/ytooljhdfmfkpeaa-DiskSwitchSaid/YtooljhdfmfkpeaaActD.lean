/-
  Acts of disks (a kind, a number, bytes) in memory.
-/
import Derived.Test.YtooljhdfmfkpeaaDkA
namespace Go.Proofs.Ytooljhdfmfkpeaa
set_option linter.unusedSimpArgs false
set_option linter.unusedVariables false
open Go.RowKit Sha Dsk
/-- An act, where its bytes lie, how much room they have. -/
structure ActD where
  kind : Int
  num : Int
  b : List Int
  p : Option Addr
  c : Nat
abbrev dcells (a : ActD) : List Value := [i64v a.kind, i64v a.num, .slice a.p a.b.length a.c]
structure GoodD (w : World) (acts : List ActD) (p : Option Addr) (cap : Nat) : Prop where
  nums : ∀ a ∈ acts, fit64 a.kind ∧ fit64 a.num
  bytes : ∀ a ∈ acts, GoodC w a.b a.p a.c
  at_ : At w p (acts.flatMap dcells)
  le : acts.length ≤ cap
  max : cap ≤ 9223372036854775807
  nil : p = none → cap = 0
theorem GoodD.below {w w' : World} {acts : List ActD} {p : Option Addr} {cap : Nat} (h : GoodD w acts p cap) (hb : Below w.heap.size w w') : GoodD w' acts p cap := ⟨h.nums, fun a ha => (h.bytes a ha).below hb, h.at_.below hb, h.le, h.max, h.nil⟩
theorem dacts_length (acts : List ActD) : (acts.flatMap dcells).length = 3 * acts.length := by
  induction acts with
  | nil => rfl
  | cons a acts ih => rw [List.flatMap_cons, List.length_append, ih]; simp; omega
theorem dacts_get (acts : List ActD) (k r : Nat) (h : k < acts.length) (hr : r < 3) : (acts.flatMap dcells)[k * 3 + r]? = (dcells acts[k])[r]? := by
  induction acts generalizing k with
  | nil => simp at h
  | cons a acts ih =>
    rw [List.flatMap_cons]
    cases k with
    | zero =>
      rw [List.getElem?_append_left (by simp; omega)]
      simp
    | succ k =>
      rw [List.getElem?_append_right (by simp; omega)]
      have := ih k (by simpa using h)
      rw [show (k + 1) * 3 + r - (dcells a).length = k * 3 + r by simp; omega, this]
      simp
/-- Where the acts lie, and three cells of each. -/
theorem GoodD.cells {w : World} {acts : List ActD} {p : Option Addr} {cap : Nat} (h : GoodD w acts p cap) (h0 : 0 < acts.length) :
    ∃ g off, p = some ⟨g, off, none⟩ ∧ ∀ k (hk : k < acts.length), w.cell? ⟨g, off + k * 3, none⟩ = some (i64v acts[k].kind) ∧ w.cell? ⟨g, off + k * 3 + 1, none⟩ = some (i64v acts[k].num) ∧ w.cell? ⟨g, off + k * 3 + 2, none⟩ = some (.slice acts[k].p acts[k].b.length acts[k].c) := by
  obtain ⟨g, off, hp, hc⟩ := h.at_.addr (by rw [dacts_length]; omega)
  refine ⟨g, off, hp, fun k hk => ⟨?_, ?_, ?_⟩⟩
  · exact hc (k * 3) _ (by have := dacts_get acts k 0 hk (by omega); simpa using this)
  · rw [Nat.add_assoc]; exact hc (k * 3 + 1) _ (dacts_get acts k 1 hk (by omega))
  · rw [Nat.add_assoc]; exact hc (k * 3 + 2) _ (dacts_get acts k 2 hk (by omega))
end Go.Proofs.Ytooljhdfmfkpeaa
