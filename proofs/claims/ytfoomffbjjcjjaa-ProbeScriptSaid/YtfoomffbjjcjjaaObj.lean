/-
  Objects in memory: what a call on one of them may turn. No program is named here.
-/
import Derived.Test.YtfoomffbjjcjjaaSl
namespace Go.Proofs.Ytfoomffbjjcjjaa
set_option linter.unusedSimpArgs false
set_option linter.unusedVariables false
open Go.RowKit
/-- Behind a call on an object whose blocks are fp: all else lies as it lay. -/
structure Touch (fp : List Nat) (w w' : World) : Prop where
  os : w'.os = w.os
  tape : w'.tape = w.tape
  output : w'.output = w.output
  size : w.heap.size ≤ w'.heap.size
  block : ∀ k, k < w.heap.size → k ∉ fp → w'.heap[k]? = w.heap[k]?
theorem Touch.refl (fp : List Nat) (w : World) : Touch fp w w := ⟨rfl, rfl, rfl, Nat.le_refl _, fun _ _ _ => rfl⟩
theorem Touch.of_below {fp : List Nat} {w w' : World} (h : Below w.heap.size w w') : Touch fp w w' := ⟨h.os, h.tape, h.output, h.size, fun k hk _ => h.block k hk⟩
/-- An object's blocks behind a call: they were its own, or are new. -/
def From (fp fp' : List Nat) (w : World) : Prop := ∀ k ∈ fp', k ∈ fp ∨ w.heap.size ≤ k
theorem From.refl (fp : List Nat) (w : World) : From fp fp w := fun _ h => .inl h
theorem Touch.trans {fp fp1 : List Nat} {a b c : World} (h : Touch fp a b) (k : Touch fp1 b c) (hf : From fp fp1 a) : Touch fp a c :=
  ⟨k.os.trans h.os, k.tape.trans h.tape, k.output.trans h.output, Nat.le_trans h.size k.size, fun i hi hn => (k.block i (Nat.lt_of_lt_of_le hi h.size) fun e => by rcases hf i e with h' | h'; exact hn h'; omega).trans (h.block i hi hn)⟩
theorem From.trans {fp fp1 fp2 : List Nat} {a b : World} (h : From fp fp1 a) (k : From fp1 fp2 b) (hs : a.heap.size ≤ b.heap.size) : From fp fp2 a := fun i hi => by
  rcases k i hi with h' | h'
  · exact h i h'
  · exact .inr (by omega)
theorem Touch.below {fp : List Nat} {w w' : World} {B : Nat} (h : Touch fp w w') (hf : ∀ k ∈ fp, B ≤ k) (hB : B ≤ w.heap.size) : Below B w w' :=
  ⟨h.os, h.tape, h.output, h.size, fun k hk => h.block k (by omega) fun e => by have := hf k e; omega⟩
theorem Touch.drewN {fp : List Nat} {a b : World} (h : Touch fp a b) (m : Nat) : Touch fp a (b.drewN m) := ⟨h.os, h.tape, h.output, h.size, h.block⟩
theorem Touch.setCell {fp : List Nat} {w : World} {g i : Nat} {v : Value} (hg : g ∈ fp) : Touch fp w (w.setCell ⟨g, i, none⟩ v) := by
  have h := (Below.refl g w).setCell (p := ⟨g, i, none⟩) (Nat.le_refl _) v
  exact ⟨h.os, h.tape, h.output, h.size, fun k hk hn => Below.heap_setCell w ⟨g, i, none⟩ v k (fun e => hn (by rw [e]; exact hg))⟩
theorem Touch.setNew {fp : List Nat} {a b : World} {g i : Nat} (h : Touch fp a b) (hg : a.heap.size ≤ g) (v : Value) : Touch fp a (b.setCell ⟨g, i, none⟩ v) := by
  have h2 := (Below.refl g b).setCell (p := ⟨g, i, none⟩) (Nat.le_refl _) v
  exact ⟨h2.os.trans h.os, h2.tape.trans h.tape, h2.output.trans h.output, Nat.le_trans h.size h2.size, fun k hk hn => (h2.block k (by omega)).trans (h.block k hk hn)⟩
theorem Touch.setIn {fp : List Nat} {a b : World} {g i : Nat} (h : Touch fp a b) (hg : g ∈ fp) (v : Value) : Touch fp a (b.setCell ⟨g, i, none⟩ v) := h.trans (Touch.setCell hg) (From.refl _ _)
/-- Two objects' blocks are apart. -/
def Apart (fp gp : List Nat) : Prop := ∀ k, k ∈ fp → k ∈ gp → False
theorem Apart.symm {fp gp : List Nat} (h : Apart fp gp) : Apart gp fp := fun k a b => h k b a
theorem Apart.from_ {fp fp' gp : List Nat} {w : World} (h : Apart fp gp) (hf : From fp fp' w) (hg : ∀ k ∈ gp, k < w.heap.size) : Apart fp' gp := fun k a b => by
  rcases hf k a with h' | h'
  · exact h k h' b
  · have := hg k b; omega
theorem Touch.keep {fp gp : List Nat} {w w' : World} (h : Touch fp w w') (ha : Apart fp gp) (hg : ∀ k ∈ gp, k < w.heap.size) : ∀ k ∈ gp, w'.heap[k]? = w.heap[k]? := fun k hk => h.block k (hg k hk) fun e => ha k e hk
theorem From.low {fp fp' : List Nat} {w : World} {B : Nat} (h : From fp fp' w) (hf : ∀ k ∈ fp, B ≤ k) (hB : B ≤ w.heap.size) : ∀ k ∈ fp', B ≤ k := fun k hk => by
  rcases h k hk with h' | h'
  · exact hf k h'
  · omega
theorem At.blocks {w w' : World} {p : Option Addr} {cs : List Value} (h : At w p cs) (hk : ∀ a, p = some a → w'.heap[a.block]? = w.heap[a.block]?) : At w' p cs := by
  rcases h with h | ⟨b, off, rfl, hc⟩
  · exact .inl h
  · exact .inr ⟨b, off, rfl, fun i v hi => (World.cell?_of_block (w := w) (a := ⟨b, off + i, none⟩) (show w'.heap[b]? = w.heap[b]? from hk ⟨b, off, none⟩ rfl)).trans (hc i v hi)⟩
end Go.Proofs.Ytfoomffbjjcjjaa
