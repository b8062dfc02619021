/-
  Objects of whatever state: held, two of them side by side, a call on one. No program is named here.
  A slice that the call itself makes: appended to by whatever slice; what it reads as. For elements of one cell.
  append onto a slice of the call's own, as a step of a region that draws its order; a slice of structs appended to.
  A slice of bytes of the call's own, whose spare room holds numbers too: append keeps it so.
-/
import Derived.Test.YthopfpfmliookaaJp5
import Derived.Laws.AppendOwnNone
import Derived.OwnWalk
import Derived.Deep.Onto
import Derived.Deep.RegionLaw
import Derived.Deep.AppendLies
namespace Go.Proofs.Ythopfpfmliookaa
section
set_option linter.unusedSimpArgs false
set_option linter.unusedVariables false
open Go.RowKit
/-- How an object of state s lies in memory: at a block, over some blocks. -/
abbrev ObjRep (S : Type) := World → Nat → List Nat → S → Prop
abbrev optr (b : Nat) : Value := .pointer (some ⟨b, 0, none⟩)
structure Held {S : Type} (R : ObjRep S) : Prop where
  low : ∀ {w b fp s}, R w b fp s → ∀ k ∈ fp, k < w.heap.size
  keep : ∀ {w w' : World} {b fp s}, R w b fp s → (∀ k ∈ fp, w'.heap[k]? = w.heap[k]?) → R w' b fp s
/-- A call on an object: what it answers, what the object is behind it. -/
def ODone {S : Type} (R : ObjRep S) (b : Nat) (fp : List Nat) (s : S) (v : Value) (w : World) (e : Ending) (w' : World) : Prop :=
  e = .returned v ∧ ∃ fp', R w' b fp' s ∧ Touch fp w w' ∧ From fp fp' w
section
variable {S S1 S2 : Type} {R : ObjRep S} {R1 : ObjRep S1} {R2 : ObjRep S2} {w0 w w' : World} {b b1 b2 : Nat} {fp f1 f2 : List Nat} {s s' : S} {s1 s1' : S1} {s2 s2' : S2}
theorem Held.on (K : Held R) (h : R w b fp s) (hb : Below w.heap.size w w') : R w' b fp s := K.keep h fun k hk => hb.block k (K.low h k hk)
theorem Held.touch (K : Held R) {gp : List Nat} (h : R w b fp s) (ht : Touch gp w w') (ha : Apart gp fp) : R w' b fp s := K.keep h (ht.keep ha (K.low h))
theorem ODone.same (K : Held R) (h : R w b fp s) {v : Value} (hb : Below w.heap.size w w') : ODone R b fp s v w (.returned v) w' := ⟨rfl, fp, K.on h hb, Touch.of_below hb, From.refl _ _⟩
/-- One object, made since w0. -/
structure Solo (R : ObjRep S) (w0 w : World) (b : Nat) (fp : List Nat) (s : S) : Prop where
  one : R w b fp s
  new : ∀ k ∈ fp, w0.heap.size ≤ k
  below : Below w0.heap.size w0 w
theorem Solo.on (K : Held R) (h : Solo R w0 w b fp s) (hb : Below w.heap.size w w') : Solo R w0 w' b fp s := ⟨K.on h.one hb, h.new, h.below.trans (hb.mono h.below.size)⟩
theorem Solo.step (h : Solo R w0 w b fp s) {fp' : List Nat} (hr : R w' b fp' s') (ht : Touch fp w w') (hf : From fp fp' w) : Solo R w0 w' b fp' s' :=
  ⟨hr, hf.low h.new h.below.size, h.below.trans (ht.below h.new h.below.size)⟩
theorem Solo.over (K : Held R) (h : Solo R w0 w b fp s) {v : Value} (hk : ∀ k, some k ≠ v.ownBlock → w'.heap[k]? = w.heap[k]?) (hb : Below w0.heap.size w w') (hg : ∀ g, v.ownBlock = some g → g ∉ fp) : Solo R w0 w' b fp s :=
  ⟨K.keep h.one fun k a => hk k fun e => hg k e.symm a, h.new, h.below.trans hb⟩
/-- Two objects, apart, made since w0. -/
structure Pair (R1 : ObjRep S1) (R2 : ObjRep S2) (w0 w : World) (b1 : Nat) (f1 : List Nat) (s1 : S1) (b2 : Nat) (f2 : List Nat) (s2 : S2) : Prop where
  one : R1 w b1 f1 s1
  two : R2 w b2 f2 s2
  apart : Apart f1 f2
  new1 : ∀ k ∈ f1, w0.heap.size ≤ k
  new2 : ∀ k ∈ f2, w0.heap.size ≤ k
  below : Below w0.heap.size w0 w
theorem Pair.swap (h : Pair R1 R2 w0 w b1 f1 s1 b2 f2 s2) : Pair R2 R1 w0 w b2 f2 s2 b1 f1 s1 := ⟨h.two, h.one, h.apart.symm, h.new2, h.new1, h.below⟩
theorem Pair.on (K1 : Held R1) (K2 : Held R2) (h : Pair R1 R2 w0 w b1 f1 s1 b2 f2 s2) (hb : Below w.heap.size w w') : Pair R1 R2 w0 w' b1 f1 s1 b2 f2 s2 :=
  ⟨K1.on h.one hb, K2.on h.two hb, h.apart, h.new1, h.new2, h.below.trans (hb.mono h.below.size)⟩
theorem Pair.drewN (K1 : Held R1) (K2 : Held R2) (h : Pair R1 R2 w0 w b1 f1 s1 b2 f2 s2) (m : Nat) : Pair R1 R2 w0 (w.drewN m) b1 f1 s1 b2 f2 s2 := h.on K1 K2 (below_drewN (Below.refl _ _) m)
theorem Pair.step1 (K2 : Held R2) (h : Pair R1 R2 w0 w b1 f1 s1 b2 f2 s2) {f1' : List Nat} (hr : R1 w' b1 f1' s1') (ht : Touch f1 w w') (hf : From f1 f1' w) : Pair R1 R2 w0 w' b1 f1' s1' b2 f2 s2 :=
  ⟨hr, K2.touch h.two ht h.apart, h.apart.from_ hf (K2.low h.two), hf.low h.new1 h.below.size, h.new2, h.below.trans (ht.below h.new1 h.below.size)⟩
theorem Pair.step2 (K1 : Held R1) (h : Pair R1 R2 w0 w b1 f1 s1 b2 f2 s2) {f2' : List Nat} (hr : R2 w' b2 f2' s2') (ht : Touch f2 w w') (hf : From f2 f2' w) : Pair R1 R2 w0 w' b1 f1 s1 b2 f2' s2' :=
  (h.swap.step1 K1 hr ht hf).swap
theorem Pair.made (K1 : Held R1) (h1 : R1 w b1 f1 s1) (n1 : ∀ k ∈ f1, w0.heap.size ≤ k) (hB : Below w0.heap.size w0 w) (hb : Below w.heap.size w w') (h2 : R2 w' b2 f2 s2) (n2 : ∀ k ∈ f2, w.heap.size ≤ k) : Pair R1 R2 w0 w' b1 f1 s1 b2 f2 s2 :=
  ⟨K1.on h1 hb, h2, fun k a c => by have := K1.low h1 k a; have := n2 k c; omega, n1, fun k hk => Nat.le_trans hB.size (n2 k hk), hB.trans (hb.mono hB.size)⟩
theorem Pair.over (K1 : Held R1) (K2 : Held R2) {v : Value} (h : Pair R1 R2 w0 w b1 f1 s1 b2 f2 s2)
    (hk : ∀ k, some k ≠ v.ownBlock → w'.heap[k]? = w.heap[k]?) (hb : Below w0.heap.size w w') (hg : ∀ g, v.ownBlock = some g → g ∉ f1 ∧ g ∉ f2) : Pair R1 R2 w0 w' b1 f1 s1 b2 f2 s2 :=
  ⟨K1.keep h.one fun k a => hk k fun e => (hg k e.symm).1 a, K2.keep h.two fun k a => hk k fun e => (hg k e.symm).2 a, h.apart, h.new1, h.new2, h.below.trans hb⟩
theorem Pair.fst (h : Pair R1 R2 w0 w b1 f1 s1 b2 f2 s2) : Solo R1 w0 w b1 f1 s1 := ⟨h.one, h.new1, h.below⟩
/-- Two objects, and a block that is neither's. -/
structure Trio (R1 : ObjRep S1) (R2 : ObjRep S2) (w0 w : World) (b1 : Nat) (f1 : List Nat) (s1 : S1) (b2 : Nat) (f2 : List Nat) (s2 : S2) (g : Nat) (cs : List Value) (t : TypeId) : Prop where
  pair : Pair R1 R2 w0 w b1 f1 s1 b2 f2 s2
  blk : Blk w g cs t
  out1 : g ∉ f1
  out2 : g ∉ f2
variable {g : Nat} {cs : List Value} {t : TypeId}
theorem Trio.swap (h : Trio R1 R2 w0 w b1 f1 s1 b2 f2 s2 g cs t) : Trio R2 R1 w0 w b2 f2 s2 b1 f1 s1 g cs t := ⟨h.pair.swap, h.blk, h.out2, h.out1⟩
theorem Trio.step1 (K2 : Held R2) (h : Trio R1 R2 w0 w b1 f1 s1 b2 f2 s2 g cs t) {f1' : List Nat} (hr : R1 w' b1 f1' s1') (ht : Touch f1 w w') (hf : From f1 f1' w) : Trio R1 R2 w0 w' b1 f1' s1' b2 f2 s2 g cs t :=
  ⟨h.pair.step1 K2 hr ht hf, (ht.block g h.blk.lt h.out1).trans h.blk, fun e => by rcases hf g e with h' | h'; exact h.out1 h'; have := h.blk.lt; omega, h.out2⟩
theorem Trio.step2 (K1 : Held R1) (h : Trio R1 R2 w0 w b1 f1 s1 b2 f2 s2 g cs t) {f2' : List Nat} (hr : R2 w' b2 f2' s2') (ht : Touch f2 w w') (hf : From f2 f2' w) : Trio R1 R2 w0 w' b1 f1 s1 b2 f2' s2' g cs t :=
  (h.swap.step1 K1 hr ht hf).swap
theorem Trio.drewN (K1 : Held R1) (K2 : Held R2) (h : Trio R1 R2 w0 w b1 f1 s1 b2 f2 s2 g cs t) (m : Nat) : Trio R1 R2 w0 (w.drewN m) b1 f1 s1 b2 f2 s2 g cs t := ⟨h.pair.drewN K1 K2 m, h.blk, h.out1, h.out2⟩
theorem Trio.made (K1 : Held R1) (K2 : Held R2) (h : Pair R1 R2 w0 w b1 f1 s1 b2 f2 s2) (c : Array Value) : Trio R1 R2 w0 (w.alloc (.cells c t)) b1 f1 s1 b2 f2 s2 w.heap.size c.toList t :=
  ⟨h.on K1 K2 ((Below.refl _ _).alloc (Nat.le_refl _) _), Blk.new w c t, fun e => by have := K1.low h.one _ e; omega, fun e => by have := K2.low h.two _ e; omega⟩
end
end
section
set_option linter.unusedSimpArgs false
set_option linter.unusedVariables false
variable {P : Program} {ops : Array Oper} {rest : List Oper} {o : Oper} {a : Act} {w : World} {Q : Exit → Act → World → Prop}
/-- How long a slice value is: for a loop's measure. -/
def lenOf : Value → Nat
  | .slice _ n _ => n
  | _ => 0
theorem own_form {B n : Nat} {e : TypeId} {v : Value} {xs : List Value} (h : w.ownsRow B e 1 v n xs) (hn : 0 < n) : ∃ g cap, v = .slice (some ⟨g, 0, none⟩) n cap ∧ B ≤ g ∧ n ≤ cap ∧ cap ≤ maxLen ∧ g < w.heap.size := by
  obtain ⟨_, h⟩ := h
  rcases h with ⟨_, h0⟩ | ⟨g, cap, cur, hv, hg, hh, h1, h2, _⟩
  · omega
  · exact ⟨g, cap, hv, hg, h1, h2, Blk.lt (cs := cur.toList) (t := e) (by unfold Blk; simpa using hh)⟩
theorem own_at {B n : Nat} {e : TypeId} {v : Value} {xs : List Value} (h : w.ownsRow B e 1 v n xs) : ∃ p cap, v = .slice p n cap ∧ n ≤ cap ∧ cap ≤ maxLen ∧ At w p xs ∧ xs.length = n ∧ (p = none → cap = 0) := by
  have hl : xs.length = n := by simpa using h.1
  rcases h.2 with ⟨hv, h0⟩ | ⟨g, cap, cur, hv, hg, hh, h1, h2, h3, h4⟩
  · exact ⟨none, 0, by rw [hv, h0], by omega, by simp [maxLen], Or.inl (List.eq_nil_of_length_eq_zero (by omega)), hl, fun _ => rfl⟩
  · refine ⟨_, cap, hv, h1, h2, Or.inr ⟨g, 0, rfl, fun i v hi => ?_⟩, hl, fun h => by cases h⟩
    subst hv
    have hlt : i < xs.length := by
      by_cases hlt : i < xs.length
      · exact hlt
      · rw [List.getElem?_eq_none (by omega)] at hi; cases hi
    rw [Nat.zero_add, h.cellAt i (by omega)]; exact hi
theorem at_one (w : World) (v : Value) (e : TypeId) : At (w.alloc (.cells #[v] e)) (some ⟨w.heap.size, 0, none⟩) [v] := by
  refine Or.inr ⟨_, 0, rfl, fun i u hi => ?_⟩
  rw [Nat.zero_add, (Blk.new w #[v] e).cell]; exact hi
/-- 'append(v, x...)': v the call's own, x whatever. -/
theorem wpList_app (hgd : o.guard = none) (s x : Operand) (t : TypeId) (ho : o.op = .call { callee := .builtin .append, args := #[s, x], argTypes := #[t, t] })
    (B : Nat) (e : TypeId) {z : Value} {by_ : Nat} (ht : P.underlying t = some (.slice e)) (hi : (P.info? e).map (fun i => (i.zero, i.size, i.bytes)) = some (some z, 1, by_)) (hz : z.cells.size = 1)
    (v : Value) (n : Nat) (xs : List Value) (hs : a.eval s = v) (hown : w.ownsRow B e 1 v n xs)
    (p : Option Addr) (m c : Nat) (news : List Value) (hx : a.eval x = .slice p m c) (hA : At w p news) (hl : news.length = m) (hn : p = none → c = 0) (hmc : m ≤ c) (h1 : ∀ u ∈ news, u.oneCell' = true)
    (hbytes : (n + m) * by_ ≤ 140737488355328) (hmax : n + m ≤ maxLen) (hB : B ≤ w.heap.size)
    (h : ∀ v' w', w'.ownsRow B e 1 v' (n + m) (xs ++ news) → w.grownBy w' v.ownBlock → RowKit.Below B w w' → B ≤ w'.heap.size → (v' = .slice none 0 0 ↔ v = .slice none 0 0 ∧ m = 0) → wpList P ops Q rest (a.put o.dst v') w') : wpList P ops Q (o :: rest) a w := by
  obtain ⟨i, hi, hz0, hz1, hz2⟩ := info_parts hi
  have hblock : ∀ k, v.ownBlock = some k → B ≤ k := by
    intro k hk
    rcases hown.2 with ⟨hv, _⟩ | ⟨g, cap, cur, hv, hg, _⟩
    · rw [hv] at hk; cases hk
    · rw [hv] at hk; cases hk; exact hg
  cases p with
  | none =>
    have hc := hn rfl
    have hm : m = 0 := by omega
    subst hc hm
    have hnews : news = [] := List.eq_nil_of_length_eq_zero hl
    subst hnews
    refine wpList_append_own_none hgd s x t ho B e i 1 ht hi v n xs hs hown hx (h v w (by simpa using hown) ⟨rfl, rfl, rfl, Nat.le_refl _, fun _ _ _ => rfl⟩ (RowKit.Below.refl _ _) hB (by simp))
  | some ad =>
    refine wpList_append_own w hgd s x t ho B e i z 1 by_ ht hi hz0 hz1 hz2 hz (by decide) v n xs hs hown ad m c news hx (by omega) ?_ h1 hmax hbytes hB ?_
    · intro j u hj
      rcases hA with hA | ⟨b, off, hA, hc⟩
      · subst hA; simp at hj
      · cases hA; rw [Addr.add_mid]; exact hc j u hj
    · intro v' w' h1 h2 h3
      exact h v' w' h1 h2 ((RowKit.Below.refl B w).grown h2 hB hblock) (Nat.le_trans hB h2.size) h3
end
section
set_option linter.unusedSimpArgs false
set_option linter.unusedVariables false
variable {P : Program} {ops : Array Oper} {o : Oper} {a : Act} {w : World} {Q : Exit → Act → World → Prop} {K : Act → World → Prop} {E : Prop}
/-- 'append(v, x...)': v the call's own, x whatever. -/
theorem step_app (hgd : o.guard = none) (s x : Operand) (t : TypeId) (ho : o.op = .call { callee := .builtin .append, args := #[s, x], argTypes := #[t, t] })
    (B : Nat) (e : TypeId) {z : Value} {by_ : Nat} (ht : P.underlying t = some (.slice e)) (hi : (P.info? e).map (fun i => (i.zero, i.size, i.bytes)) = some (some z, 1, by_)) (hz : z.cells.size = 1)
    (v : Value) (n : Nat) (xs : List Value) (hs : a.eval s = v) (hown : w.ownsRow B e 1 v n xs)
    (p : Option Addr) (m c : Nat) (news : List Value) (hx : a.eval x = .slice p m c) (hA : At w p news) (hl : news.length = m) (hn : p = none → c = 0) (hmc : m ≤ c) (h1 : ∀ u ∈ news, u.oneCell' = true)
    (hbytes : (n + m) * by_ ≤ 140737488355328) (hmax : n + m ≤ maxLen) (hB : B ≤ w.heap.size)
    (h : ∀ v' w', w'.ownsRow B e 1 v' (n + m) (xs ++ news) → w.grownBy w' v.ownBlock → RowKit.Below B w w' → B ≤ w'.heap.size → K (a.put o.dst v') w') :
    if Region.wanted o (yielded ops a.tmps) = true then Oper.wp P o a w K Q else E := by
  have hw : Region.wanted o (yielded ops a.tmps) = true := by simp [Region.wanted, hgd]
  rw [if_pos hw]
  obtain ⟨i, hi, hz0, hz1, hz2⟩ := info_parts hi
  have hblock : ∀ k, v.ownBlock = some k → B ≤ k := by
    intro k hk
    rcases hown.2 with ⟨hv, _⟩ | ⟨g, cap, cur, hv, hg, _⟩
    · rw [hv] at hk; cases hk
    · rw [hv] at hk; cases hk; exact hg
  cases p with
  | none =>
    have hc := hn rfl
    have hm : m = 0 := by omega
    subst hc hm
    have hnews : news = [] := List.eq_nil_of_length_eq_zero hl
    subst hnews
    have hrun := run_append_owned_none (P := P) (w := w) B t o.type e i 1 ht hi v n xs hown
    unfold Oper.wp
    simp [execOp, ho, resolve, invoke, builtin, hs, hx, hrun, Result.andThen]
    exact h v w (by simpa using hown) ⟨rfl, rfl, rfl, Nat.le_refl _, fun _ _ _ => rfl⟩ (RowKit.Below.refl _ _) hB
  | some ad =>
    refine wp_append_own w s x t ho B e i z 1 by_ ht hi hz0 hz1 hz2 hz (by decide) v n xs hs hown ad m c news hx (by omega) ?_ h1 hmax hbytes hB ?_
    · intro j u hj
      rcases hA with hA | ⟨b, off, hA, hc⟩
      · subst hA; simp at hj
      · cases hA; rw [Addr.add_mid]; exact hc j u hj
    · intro v' w' h1 h2 h3
      exact h v' w' h1 h2 ((RowKit.Below.refl B w).grown h2 hB hblock) (Nat.le_trans hB h2.size)
end
section
set_option linter.unusedSimpArgs false
set_option linter.unusedVariables false
/-- What lies in a slice's block are bytes, behind its length too. -/
def Ints8 (w : World) (v : Value) : Prop := ∀ g, v.ownBlock = some g → ∀ (j : Nat) u, w.cell? ⟨g, j, none⟩ = some u → ∃ n, u = .int .u8 n
structure Own8 (w : World) (B : Nat) (e : TypeId) (v : Value) (n : Nat) (xs : List Value) : Prop where
  row : w.ownsRow B e 1 v n xs
  ints : Ints8 w v
theorem Ints8.nil (w : World) : Ints8 w (.slice none 0 0) := fun g h => by cases h
theorem Own8.nil (w : World) (B : Nat) (e : TypeId) : Own8 w B e (.slice none 0 0) 0 [] := ⟨World.ownsRow_nil _ _ _ _, Ints8.nil _⟩
theorem Ints8.carry {w w' : World} {v : Value} (h : Ints8 w v) (hc : ∀ g, v.ownBlock = some g → w'.heap[g]? = w.heap[g]?) : Ints8 w' v := fun g hg j u hu => h g hg j u (by rw [← hu]; exact (World.cell?_of_block (hc g hg)).symm)
theorem Own8.alloc {w : World} {B n : Nat} {e : TypeId} {v : Value} {xs : List Value} (h : Own8 w B e v n xs) (o : Obj) : Own8 (w.alloc o) B e v n xs :=
  ⟨h.row.alloc o, h.ints.carry fun g hg => (World.grownBy_alloc w o none).block g (h.row.lt g hg).2 (by simp)⟩
theorem ints_block {w : World} {g n c : Nat} {cur : Array Value} {e : TypeId} {fr : Nat × Nat} (hh : w.heap[g]? = some (.cells cur e fr)) (h : ∀ u ∈ cur.toList, ∃ n, u = Value.int .u8 n) : Ints8 w (.slice (some ⟨g, 0, none⟩) n c) := by
  intro g' hg j u hu
  cases hg
  rw [cell_of_row w g j cur e fr hh] at hu
  exact h u (by rw [Array.mem_toList_iff]; exact Array.mem_of_getElem? hu)
theorem ints_zero (k : Nat) : ∀ u ∈ (Builtin.zeroCells (Value.cells (.int .u8 0)) k).toList, ∃ n, u = Value.int .u8 n := by
  intro u hu
  rw [Array.mem_toList_iff] at hu
  obtain ⟨i, hi, rfl⟩ := Array.mem_iff_getElem.1 hu
  have h0 : i % 1 = 0 := by omega
  exact ⟨0, by simp [Builtin.zeroCells, Value.cells, h0]⟩
theorem ints_row {w : World} {g : Nat} {cur : Array Value} {e : TypeId} {fr : Nat × Nat} {n c : Nat} (h : Ints8 w (.slice (some ⟨g, 0, none⟩) n c)) (hh : w.heap[g]? = some (.cells cur e fr)) : ∀ u ∈ cur.toList, ∃ n, u = Value.int .u8 n := by
  intro u hu
  rw [Array.mem_toList_iff] at hu
  obtain ⟨i, hi⟩ := Array.mem_iff_getElem?.1 hu
  exact h g rfl i u (by rw [cell_of_row w g i cur e fr hh]; exact hi)
section
variable {P : Program} {ops : Array Oper} {rest : List Oper} {o : Oper} {a : Act} {w : World} {Q : Exit → Act → World → Prop} {K : Act → World → Prop} {E : Prop}
theorem run_app8 (w : World) (B : Nat) (t ty e : TypeId) (i : TypeInfo) (by_ : Nat) (ht : P.underlying t = some (.slice e)) (hi : P.info? e = some i) (hz : i.zero = some (.int .u8 0)) (h1s : i.size = 1) (hby : i.bytes = by_)
    (v : Value) (n : Nat) (xs : List Value) (hown : Own8 w B e v n xs)
    (ad : Addr) (m c : Nat) (news : List Value) (hl : news.length = m) (hnews : ∀ j u, news[j]? = some u → w.cell? (ad.add j) = some u) (h1 : ∀ u ∈ news, ∃ n, u = Value.int .u8 n)
    (hmax : n + m ≤ maxLen) (hbytes : (n + m) * by_ ≤ 140737488355328) (hB : B ≤ w.heap.size) :
    ∃ v' w', (Builtin.append_ #[t, t] ty #[v, .slice (some ad) m c]).run P w = .ok v' w' ∧ Own8 w' B e v' (n + m) (xs ++ news) ∧ w.grownBy w' v.ownBlock := by
  have hone : ∀ u ∈ news, u.oneCell' = true := fun u hu => by obtain ⟨k, rfl⟩ := h1 u hu; rfl
  obtain ⟨v', w', hr, h2, h3, _⟩ := run_append_own (P := P) w B t ty e i (.int .u8 0) 1 by_ ht hi hz h1s hby rfl (by decide) v n xs hown.row ad m c news (by omega) hnews hone hmax hbytes hB
  refine ⟨v', w', hr, ⟨h2, ?_⟩, h3⟩
  have hsmall : n + m ≤ 9223372036854775807 := by simp only [maxLen] at hmax; omega
  subst hby
  rcases hown.row.2 with ⟨rfl, rfl⟩ | ⟨g, cap, cur, rfl, hbg, hg, hnc, hcm, hcs, htake⟩
  · by_cases hm : m = 0
    · subst hm
      have hn : news = [] := List.eq_nil_of_length_eq_zero hl
      subst hn
      have hr' : (Builtin.append_ #[t, t] ty #[.slice none 0 0, .slice (some ad) 0 c]).run P w = .ok (.slice none 0 0) w := by
        simp [Builtin.append_, run_underlying ht, sizeOf, typeInfo, hi, Builtin.lenOf, Builtin.firstCells, loadCells, loadCellsFrom]
      rw [hr'] at hr
      cases hr
      exact Ints8.nil _
    · have hr' := run_append_nil (P := P) w t ty e i (.int .u8 0) ht hi hz ad m c news (by rw [h1s]; omega) hnews (by omega) (by omega) (by have hb := hbytes; simp only [Nat.zero_add] at hb; omega)
      rw [hr'] at hr
      cases hr
      refine ints_block (heap_alloc_new w.drew _) fun u hu => ?_
      rw [Array.toList_append, List.mem_append] at hu
      rcases hu with hu | hu
      · exact h1 u (by simpa using hu)
      · exact ints_zero _ u hu
  · by_cases hroom : n + m ≤ cap
    · have hfit : n * i.size + news.length ≤ cur.size := by rw [h1s, hcs]; omega
      have hr' := run_append_room (P := P) w t ty e i ht hi g n cap cur hg ad m c news (by rw [h1s]; omega) hnews hone hroom hfit
      rw [hr'] at hr
      cases hr
      refine ints_block (setRow_heap w g cur _ e _ hg) fun u hu => ?_
      have hi := ints_row hown.ints hg
      simp only [List.mem_append] at hu
      rcases hu with (hu | hu) | hu
      · exact hi u (List.mem_of_mem_take hu)
      · exact h1 u hu
      · exact hi u (List.mem_of_mem_drop hu)
    · have holds : ∀ j u, xs[j]? = some u → w.cell? ((⟨g, 0, none⟩ : Addr).add j) = some u := hown.row.cells (g := g) rfl
      have hr' := run_append_grow (P := P) w t ty e i (.int .u8 0) ht hi hz ⟨g, 0, none⟩ n cap xs (by rw [h1s]; exact hown.row.1) holds ad m c news (by rw [h1s]; omega) hnews (by omega) (by omega) (growslice_fits (by omega) hbytes)
      rw [hr'] at hr
      cases hr
      refine ints_block (heap_alloc_new w.drew _) fun u hu => ?_
      rw [Array.toList_append, Array.toList_append, List.mem_append, List.mem_append] at hu
      have hi := ints_row hown.ints hg
      rcases hu with (hu | hu) | hu
      · exact hi u (by
          have : u ∈ xs := by simpa using hu
          rw [← htake] at this
          exact List.mem_of_mem_take this)
      · exact h1 u (by simpa using hu)
      · exact ints_zero _ u hu
theorem wp_app8 (s x : Operand) (t : TypeId) (ho : o.op = .call { callee := .builtin .append, args := #[s, x], argTypes := #[t, t] })
    (B : Nat) (e : TypeId) {by_ : Nat} (ht : P.underlying t = some (.slice e)) (hi : (P.info? e).map (fun i => (i.zero, i.size, i.bytes)) = some (some (.int .u8 0), 1, by_))
    (v : Value) (n : Nat) (xs : List Value) (hs : a.eval s = v) (hown : Own8 w B e v n xs)
    (p : Option Addr) (m c : Nat) (news : List Value) (hx : a.eval x = .slice p m c) (hA : At w p news) (hl : news.length = m) (hn : p = none → c = 0) (hmc : m ≤ c) (h1 : ∀ u ∈ news, ∃ n, u = Value.int .u8 n)
    (hbytes : (n + m) * by_ ≤ 140737488355328) (hmax : n + m ≤ maxLen) (hB : B ≤ w.heap.size)
    (h : ∀ v' w', Own8 w' B e v' (n + m) (xs ++ news) → w.grownBy w' v.ownBlock → RowKit.Below B w w' → B ≤ w'.heap.size → K (a.put o.dst v') w') : o.wp P a w K Q := by
  obtain ⟨i, hi, hz0, hz1, hz2⟩ := info_parts hi
  have hblock : ∀ k, v.ownBlock = some k → B ≤ k := fun k hk => (hown.row.lt k hk).1
  cases p with
  | none =>
    have hc := hn rfl
    have hm : m = 0 := by omega
    subst hc hm
    have hnews : news = [] := List.eq_nil_of_length_eq_zero hl
    subst hnews
    have hrun := run_append_owned_none (P := P) (w := w) B t o.type e i 1 ht hi v n xs hown.row
    unfold Oper.wp
    simp [execOp, ho, resolve, invoke, builtin, hs, hx, hrun, Result.andThen]
    exact h v w (by simpa using hown) ⟨rfl, rfl, rfl, Nat.le_refl _, fun _ _ _ => rfl⟩ (RowKit.Below.refl _ _) hB
  | some ad =>
    obtain ⟨v', w', hr, h2, h3⟩ := run_app8 (P := P) w B t o.type e i by_ ht hi hz0 hz1 hz2 v n xs hown ad m c news hl (by
      intro j u hj
      rcases hA with hA | ⟨b, off, hA, hc⟩
      · subst hA; simp at hj
      · cases hA; rw [Addr.add_mid]; exact hc j u hj) h1 hmax hbytes hB
    unfold Oper.wp
    simp [execOp, ho, resolve, invoke, builtin, hs, hx, hr, Result.andThen]
    exact h v' w' h2 h3 ((RowKit.Below.refl B w).grown h3 hB hblock) (Nat.le_trans hB h3.size)
theorem wpList_app8 (hgd : o.guard = none) (s x : Operand) (t : TypeId) (ho : o.op = .call { callee := .builtin .append, args := #[s, x], argTypes := #[t, t] })
    (B : Nat) (e : TypeId) {by_ : Nat} (ht : P.underlying t = some (.slice e)) (hi : (P.info? e).map (fun i => (i.zero, i.size, i.bytes)) = some (some (.int .u8 0), 1, by_))
    (v : Value) (n : Nat) (xs : List Value) (hs : a.eval s = v) (hown : Own8 w B e v n xs)
    (p : Option Addr) (m c : Nat) (news : List Value) (hx : a.eval x = .slice p m c) (hA : At w p news) (hl : news.length = m) (hn : p = none → c = 0) (hmc : m ≤ c) (h1 : ∀ u ∈ news, ∃ n, u = Value.int .u8 n)
    (hbytes : (n + m) * by_ ≤ 140737488355328) (hmax : n + m ≤ maxLen) (hB : B ≤ w.heap.size)
    (h : ∀ v' w', Own8 w' B e v' (n + m) (xs ++ news) → w.grownBy w' v.ownBlock → RowKit.Below B w w' → B ≤ w'.heap.size → wpList P ops Q rest (a.put o.dst v') w') : wpList P ops Q (o :: rest) a w :=
  wpList_plain hgd fun _ hK => wp_app8 s x t ho B e ht hi v n xs hs hown p m c news hx hA hl hn hmc h1 hbytes hmax hB fun v' w' h1 h2 h3 h4 => hK _ _ (h v' w' h1 h2 h3 h4)
theorem step_app8 (hgd : o.guard = none) (s x : Operand) (t : TypeId) (ho : o.op = .call { callee := .builtin .append, args := #[s, x], argTypes := #[t, t] })
    (B : Nat) (e : TypeId) {by_ : Nat} (ht : P.underlying t = some (.slice e)) (hi : (P.info? e).map (fun i => (i.zero, i.size, i.bytes)) = some (some (.int .u8 0), 1, by_))
    (v : Value) (n : Nat) (xs : List Value) (hs : a.eval s = v) (hown : Own8 w B e v n xs)
    (p : Option Addr) (m c : Nat) (news : List Value) (hx : a.eval x = .slice p m c) (hA : At w p news) (hl : news.length = m) (hn : p = none → c = 0) (hmc : m ≤ c) (h1 : ∀ u ∈ news, ∃ n, u = Value.int .u8 n)
    (hbytes : (n + m) * by_ ≤ 140737488355328) (hmax : n + m ≤ maxLen) (hB : B ≤ w.heap.size)
    (h : ∀ v' w', Own8 w' B e v' (n + m) (xs ++ news) → w.grownBy w' v.ownBlock → RowKit.Below B w w' → B ≤ w'.heap.size → K (a.put o.dst v') w') :
    if Region.wanted o (yielded ops a.tmps) = true then Oper.wp P o a w K Q else E := by
  have hw : Region.wanted o (yielded ops a.tmps) = true := by simp [Region.wanted, hgd]
  rw [if_pos hw]
  exact wp_app8 s x t ho B e ht hi v n xs hs hown p m c news hx hA hl hn hmc h1 hbytes hmax hB h
end
theorem ints_map (l : List Int) : ∀ u ∈ l.map (Value.int .u8), ∃ n, u = Value.int .u8 n := by
  intro u hu
  obtain ⟨n, _, rfl⟩ := List.mem_map.1 hu
  exact ⟨n, rfl⟩
end
end Go.Proofs.Ythopfpfmliookaa
