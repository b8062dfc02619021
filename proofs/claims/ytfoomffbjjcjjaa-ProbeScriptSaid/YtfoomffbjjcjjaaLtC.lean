/-
  Two lots side by side in memory; the law package's fresh, awake, known.
-/
import Derived.Test.YtfoomffbjjcjjaaLtA
import Derived.Deep.QuietTactic
import Derived.BigQuiet
namespace Go.Proofs.Ytfoomffbjjcjjaa
set_option linter.unusedSimpArgs false
set_option linter.unusedVariables false
open Go.RowKit Sha Lot
structure Rep (R : LotRep) : Prop where
  low : ∀ {w b fp L N}, R w b fp L N → ∀ k ∈ fp, k < w.heap.size
  keep : ∀ {w w' : World} {b fp L N}, R w b fp L N → (∀ k ∈ fp, w'.heap[k]? = w.heap[k]?) → R w' b fp L N
theorem LotOK.rep {a b c d : Nat} {R : LotRep} (h : LotOK a b c d R) : Rep R := ⟨h.low, h.keep⟩
theorem Rep.on {R : LotRep} (K : Rep R) {w w' : World} {b fp L N} (h : R w b fp L N) (hb : Below w.heap.size w w') : R w' b fp L N := K.keep h fun k hk => hb.block k (K.low h k hk)
/-- Two lots, apart, made since w0. -/
structure Side (R1 R2 : LotRep) (w0 w : World) (b1 : Nat) (f1 : List Nat) (L1 : List Int) (N1 : Nat) (b2 : Nat) (f2 : List Nat) (L2 : List Int) (N2 : Nat) : Prop where
  one : R1 w b1 f1 L1 N1
  two : R2 w b2 f2 L2 N2
  apart : Apart f1 f2
  new1 : ∀ k ∈ f1, w0.heap.size ≤ k
  new2 : ∀ k ∈ f2, w0.heap.size ≤ k
  below : Below w0.heap.size w0 w
section
variable {R1 R2 : LotRep} {w0 w w' : World} {b1 b2 : Nat} {f1 f2 : List Nat} {L1 L2 : List Int} {N1 N2 : Nat}
theorem Side.swap (h : Side R1 R2 w0 w b1 f1 L1 N1 b2 f2 L2 N2) : Side R2 R1 w0 w b2 f2 L2 N2 b1 f1 L1 N1 := ⟨h.two, h.one, h.apart.symm, h.new2, h.new1, h.below⟩
theorem Side.on (K1 : Rep R1) (K2 : Rep R2) (h : Side R1 R2 w0 w b1 f1 L1 N1 b2 f2 L2 N2) (hb : Below w.heap.size w w') : Side R1 R2 w0 w' b1 f1 L1 N1 b2 f2 L2 N2 :=
  ⟨K1.on h.one hb, K2.on h.two hb, h.apart, h.new1, h.new2, h.below.trans (hb.mono h.below.size)⟩
theorem Side.drewN (K1 : Rep R1) (K2 : Rep R2) (h : Side R1 R2 w0 w b1 f1 L1 N1 b2 f2 L2 N2) (m : Nat) : Side R1 R2 w0 (w.drewN m) b1 f1 L1 N1 b2 f2 L2 N2 := h.on K1 K2 (below_drewN (Below.refl _ _) m)
/-- A call on the first one. -/
theorem Side.step1 (K1 : Rep R1) (K2 : Rep R2) (h : Side R1 R2 w0 w b1 f1 L1 N1 b2 f2 L2 N2) {f1' : List Nat} {M : Nat} (hr : R1 w' b1 f1' L1 M) (ht : Touch f1 w w') (hf : From f1 f1' w) : Side R1 R2 w0 w' b1 f1' L1 M b2 f2 L2 N2 :=
  ⟨hr, K2.keep h.two (ht.keep h.apart (K2.low h.two)), h.apart.from_ hf (K2.low h.two), hf.low h.new1 h.below.size, h.new2, h.below.trans (ht.below h.new1 h.below.size)⟩
theorem Side.step2 (K1 : Rep R1) (K2 : Rep R2) (h : Side R1 R2 w0 w b1 f1 L1 N1 b2 f2 L2 N2) {f2' : List Nat} {M : Nat} (hr : R2 w' b2 f2' L2 M) (ht : Touch f2 w w') (hf : From f2 f2' w) : Side R1 R2 w0 w' b1 f1 L1 N1 b2 f2' L2 M :=
  (h.swap.step1 K2 K1 hr ht hf).swap
end
/-- What the program's lots are asked to do. -/
structure LotsOK (R : LotRep) : Prop where
  ok : LotOK 9 46 38 43 R
  used : LotUsed 19 R
def FreshDone (R : LotRep) (L : List Int) (w : World) (e : Ending) (w' : World) : Prop := Below w.heap.size w w' ∧ ∃ b fp, e = .returned (lptr b) ∧ R w' b fp L 0 ∧ ∀ k ∈ fp, w.heap.size ≤ k
theorem at_built (w : World) (cs : List Int) : GoodN (w.alloc (.cells (cs.map v64).toArray 3)) [] none 0 := ⟨by simp, At.nil _ _, by simp, by omega, fun _ => rfl⟩
theorem good_nilN (w : World) : GoodN w [] none 0 := ⟨by simp, At.nil _ _, by simp, by omega, fun _ => rfl⟩
theorem at_markN (w : World) (cs : List Value) (t : TypeId) (fr : Nat × Nat) : At (w.alloc (.cells cs.toArray t fr)) (some ⟨w.heap.size, 0, none⟩) cs := by
  refine Or.inr ⟨_, 0, rfl, fun i v hi => ?_⟩
  rw [Nat.zero_add, cell_of_row _ _ i cs.toArray t fr (heap_alloc_new w _)]
  simpa using hi
theorem good_lit (w : World) (xs : List Int) (cs : Array Value) (n : Nat) (hc : cs = (xs.map v64).toArray) (hn : xs.length = n) (hs : n ≤ 1000) (hx : ∀ n ∈ xs, -9223372036854775808 ≤ n ∧ n ≤ 9223372036854775807) : GoodN (w.alloc (.cells cs 3)) xs (some ⟨w.heap.size, 0, none⟩) n := by
  subst hc
  exact ⟨hx, at_markN w (xs.map v64) 3 (0, 0), by omega, by omega, fun h => by cases h⟩
theorem Side.made {R1 R2 : LotRep} (K1 : Rep R1) {w0 w w' : World} {b1 b2 : Nat} {f1 f2 : List Nat} {L1 L2 : List Int} {N1 N2 : Nat} (h1 : R1 w b1 f1 L1 N1) (n1 : ∀ k ∈ f1, w0.heap.size ≤ k) (hB : Below w0.heap.size w0 w) (hb : Below w.heap.size w w') (h2 : R2 w' b2 f2 L2 N2) (n2 : ∀ k ∈ f2, w.heap.size ≤ k) : Side R1 R2 w0 w' b1 f1 L1 N1 b2 f2 L2 N2 :=
  ⟨K1.on h1 hb, h2, fun k a c => by have := K1.low h1 k a; have := n2 k c; omega, n1, fun k hk => Nat.le_trans hB.size (n2 k hk), hB.trans (hb.mono hB.size)⟩
end Go.Proofs.Ytfoomffbjjcjjaa
