/-
  Objects of whatever state: held, two of them side by side, a call on one. No program is named here.
-/
import Derived.Test.YtfoomffbjjcjjaaObj
import Derived.Test.YtfoomffbjjcjjaaArr
namespace Go.Proofs.Ytfoomffbjjcjjaa
set_option linter.unusedSimpArgs false
set_option linter.unusedVariables false
open Go.RowKit
/-- How an object of state s lies in memory: at a block, over some blocks. -/
abbrev ObjRep (S : Type) := World → Nat → List Nat → S → Prop
abbrev optr (b : Nat) : Value := .pointer (some ⟨b, 0, none⟩)
structure Held {S : Type} (R : ObjRep S) : Prop where
  low : ∀ {w b fp s}, R w b fp s → ∀ k ∈ fp, k < w.heap.size
  keep : ∀ {w w' : World} {b fp s}, R w b fp s → (∀ k ∈ fp, w'.heap[k]? = w.heap[k]?) → R w' b fp s
/-- A call on an object: what it answers, what the object is behind it. -/
def ODone {S : Type} (R : ObjRep S) (b : Nat) (fp : List Nat) (s : S) (v : Value) (w : World) (e : Ending) (w' : World) : Prop :=
  e = .returned v ∧ ∃ fp', R w' b fp' s ∧ Touch fp w w' ∧ From fp fp' w
section
variable {S S1 S2 : Type} {R : ObjRep S} {R1 : ObjRep S1} {R2 : ObjRep S2} {w0 w w' : World} {b b1 b2 : Nat} {fp f1 f2 : List Nat} {s s' : S} {s1 s1' : S1} {s2 s2' : S2}
theorem Held.on (K : Held R) (h : R w b fp s) (hb : Below w.heap.size w w') : R w' b fp s := K.keep h fun k hk => hb.block k (K.low h k hk)
theorem Held.touch (K : Held R) {gp : List Nat} (h : R w b fp s) (ht : Touch gp w w') (ha : Apart gp fp) : R w' b fp s := K.keep h (ht.keep ha (K.low h))
theorem ODone.same (K : Held R) (h : R w b fp s) {v : Value} (hb : Below w.heap.size w w') : ODone R b fp s v w (.returned v) w' := ⟨rfl, fp, K.on h hb, Touch.of_below hb, From.refl _ _⟩
/-- One object, made since w0. -/
structure Solo (R : ObjRep S) (w0 w : World) (b : Nat) (fp : List Nat) (s : S) : Prop where
  one : R w b fp s
  new : ∀ k ∈ fp, w0.heap.size ≤ k
  below : Below w0.heap.size w0 w
theorem Solo.on (K : Held R) (h : Solo R w0 w b fp s) (hb : Below w.heap.size w w') : Solo R w0 w' b fp s := ⟨K.on h.one hb, h.new, h.below.trans (hb.mono h.below.size)⟩
theorem Solo.step (h : Solo R w0 w b fp s) {fp' : List Nat} (hr : R w' b fp' s') (ht : Touch fp w w') (hf : From fp fp' w) : Solo R w0 w' b fp' s' :=
  ⟨hr, hf.low h.new h.below.size, h.below.trans (ht.below h.new h.below.size)⟩
theorem Solo.over (K : Held R) (h : Solo R w0 w b fp s) {v : Value} (hk : ∀ k, some k ≠ v.ownBlock → w'.heap[k]? = w.heap[k]?) (hb : Below w0.heap.size w w') (hg : ∀ g, v.ownBlock = some g → g ∉ fp) : Solo R w0 w' b fp s :=
  ⟨K.keep h.one fun k a => hk k fun e => hg k e.symm a, h.new, h.below.trans hb⟩
/-- Two objects, apart, made since w0. -/
structure Pair (R1 : ObjRep S1) (R2 : ObjRep S2) (w0 w : World) (b1 : Nat) (f1 : List Nat) (s1 : S1) (b2 : Nat) (f2 : List Nat) (s2 : S2) : Prop where
  one : R1 w b1 f1 s1
  two : R2 w b2 f2 s2
  apart : Apart f1 f2
  new1 : ∀ k ∈ f1, w0.heap.size ≤ k
  new2 : ∀ k ∈ f2, w0.heap.size ≤ k
  below : Below w0.heap.size w0 w
theorem Pair.swap (h : Pair R1 R2 w0 w b1 f1 s1 b2 f2 s2) : Pair R2 R1 w0 w b2 f2 s2 b1 f1 s1 := ⟨h.two, h.one, h.apart.symm, h.new2, h.new1, h.below⟩
theorem Pair.on (K1 : Held R1) (K2 : Held R2) (h : Pair R1 R2 w0 w b1 f1 s1 b2 f2 s2) (hb : Below w.heap.size w w') : Pair R1 R2 w0 w' b1 f1 s1 b2 f2 s2 :=
  ⟨K1.on h.one hb, K2.on h.two hb, h.apart, h.new1, h.new2, h.below.trans (hb.mono h.below.size)⟩
theorem Pair.drewN (K1 : Held R1) (K2 : Held R2) (h : Pair R1 R2 w0 w b1 f1 s1 b2 f2 s2) (m : Nat) : Pair R1 R2 w0 (w.drewN m) b1 f1 s1 b2 f2 s2 := h.on K1 K2 (below_drewN (Below.refl _ _) m)
theorem Pair.step1 (K2 : Held R2) (h : Pair R1 R2 w0 w b1 f1 s1 b2 f2 s2) {f1' : List Nat} (hr : R1 w' b1 f1' s1') (ht : Touch f1 w w') (hf : From f1 f1' w) : Pair R1 R2 w0 w' b1 f1' s1' b2 f2 s2 :=
  ⟨hr, K2.touch h.two ht h.apart, h.apart.from_ hf (K2.low h.two), hf.low h.new1 h.below.size, h.new2, h.below.trans (ht.below h.new1 h.below.size)⟩
theorem Pair.step2 (K1 : Held R1) (h : Pair R1 R2 w0 w b1 f1 s1 b2 f2 s2) {f2' : List Nat} (hr : R2 w' b2 f2' s2') (ht : Touch f2 w w') (hf : From f2 f2' w) : Pair R1 R2 w0 w' b1 f1 s1 b2 f2' s2' :=
  (h.swap.step1 K1 hr ht hf).swap
theorem Pair.made (K1 : Held R1) (h1 : R1 w b1 f1 s1) (n1 : ∀ k ∈ f1, w0.heap.size ≤ k) (hB : Below w0.heap.size w0 w) (hb : Below w.heap.size w w') (h2 : R2 w' b2 f2 s2) (n2 : ∀ k ∈ f2, w.heap.size ≤ k) : Pair R1 R2 w0 w' b1 f1 s1 b2 f2 s2 :=
  ⟨K1.on h1 hb, h2, fun k a c => by have := K1.low h1 k a; have := n2 k c; omega, n1, fun k hk => Nat.le_trans hB.size (n2 k hk), hB.trans (hb.mono hB.size)⟩
theorem Pair.over (K1 : Held R1) (K2 : Held R2) {v : Value} (h : Pair R1 R2 w0 w b1 f1 s1 b2 f2 s2)
    (hk : ∀ k, some k ≠ v.ownBlock → w'.heap[k]? = w.heap[k]?) (hb : Below w0.heap.size w w') (hg : ∀ g, v.ownBlock = some g → g ∉ f1 ∧ g ∉ f2) : Pair R1 R2 w0 w' b1 f1 s1 b2 f2 s2 :=
  ⟨K1.keep h.one fun k a => hk k fun e => (hg k e.symm).1 a, K2.keep h.two fun k a => hk k fun e => (hg k e.symm).2 a, h.apart, h.new1, h.new2, h.below.trans hb⟩
theorem Pair.fst (h : Pair R1 R2 w0 w b1 f1 s1 b2 f2 s2) : Solo R1 w0 w b1 f1 s1 := ⟨h.one, h.new1, h.below⟩
/-- Two objects, and a block that is neither's. -/
structure Trio (R1 : ObjRep S1) (R2 : ObjRep S2) (w0 w : World) (b1 : Nat) (f1 : List Nat) (s1 : S1) (b2 : Nat) (f2 : List Nat) (s2 : S2) (g : Nat) (cs : List Value) (t : TypeId) : Prop where
  pair : Pair R1 R2 w0 w b1 f1 s1 b2 f2 s2
  blk : Blk w g cs t
  out1 : g ∉ f1
  out2 : g ∉ f2
variable {g : Nat} {cs : List Value} {t : TypeId}
theorem Trio.swap (h : Trio R1 R2 w0 w b1 f1 s1 b2 f2 s2 g cs t) : Trio R2 R1 w0 w b2 f2 s2 b1 f1 s1 g cs t := ⟨h.pair.swap, h.blk, h.out2, h.out1⟩
theorem Trio.step1 (K2 : Held R2) (h : Trio R1 R2 w0 w b1 f1 s1 b2 f2 s2 g cs t) {f1' : List Nat} (hr : R1 w' b1 f1' s1') (ht : Touch f1 w w') (hf : From f1 f1' w) : Trio R1 R2 w0 w' b1 f1' s1' b2 f2 s2 g cs t :=
  ⟨h.pair.step1 K2 hr ht hf, (ht.block g h.blk.lt h.out1).trans h.blk, fun e => by rcases hf g e with h' | h'; exact h.out1 h'; have := h.blk.lt; omega, h.out2⟩
theorem Trio.step2 (K1 : Held R1) (h : Trio R1 R2 w0 w b1 f1 s1 b2 f2 s2 g cs t) {f2' : List Nat} (hr : R2 w' b2 f2' s2') (ht : Touch f2 w w') (hf : From f2 f2' w) : Trio R1 R2 w0 w' b1 f1 s1 b2 f2' s2' g cs t :=
  (h.swap.step1 K1 hr ht hf).swap
theorem Trio.drewN (K1 : Held R1) (K2 : Held R2) (h : Trio R1 R2 w0 w b1 f1 s1 b2 f2 s2 g cs t) (m : Nat) : Trio R1 R2 w0 (w.drewN m) b1 f1 s1 b2 f2 s2 g cs t := ⟨h.pair.drewN K1 K2 m, h.blk, h.out1, h.out2⟩
theorem Trio.made (K1 : Held R1) (K2 : Held R2) (h : Pair R1 R2 w0 w b1 f1 s1 b2 f2 s2) (c : Array Value) : Trio R1 R2 w0 (w.alloc (.cells c t)) b1 f1 s1 b2 f2 s2 w.heap.size c.toList t :=
  ⟨h.on K1 K2 ((Below.refl _ _).alloc (Nat.le_refl _) _), Blk.new w c t, fun e => by have := K1.low h.one _ e; omega, fun e => by have := K2.low h.two _ e; omega⟩
end
end Go.Proofs.Ytfoomffbjjcjjaa
