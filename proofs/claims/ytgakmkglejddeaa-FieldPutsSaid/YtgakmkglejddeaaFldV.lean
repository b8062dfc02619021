/-
  A reader under way; the last part of get: the item is appended.
-/
import Derived.Test.YtgakmkglejddeaaFldU
import Derived.Test.YtgakmkglejddeaaFldW
import Derived.Test.YtgakmkglejddeaaItm
import Derived.Test.YtgakmkglejddeaaOpq
namespace Go.Proofs.Ytgakmkglejddeaa
set_option linter.unusedSimpArgs false
set_option linter.unusedVariables false
open Go.RowKit Sha
open Fld (Itm)
/-! ### The reader's state -/
structure GoodR (w : World) (x : Itm) (q : Option Addr) (c : Nat) : Prop where
  ok : x.ok
  len : c = x.B.length
  max : c ≤ 4000
  at_ : (x.B = [] ∧ q = none) ∨ ∃ g, q = some ⟨g, 0, none⟩ ∧ Blk w g (x.B.map v8) 5
theorem GoodR.good {w : World} {x : Itm} {q : Option Addr} {c : Nat} (h : GoodR w x q c) : GoodI w x q c := by
  refine ⟨h.ok, ?_, by rw [h.len]; exact Nat.le_refl _, by have := h.max; omega, ?_⟩
  · rcases h.at_ with ⟨h1, h2⟩ | ⟨g, h1, h2⟩
    · rw [h1]; exact At.nil _ _
    · exact Or.inr ⟨g, 0, h1, h2.range⟩
  · intro hq
    rcases h.at_ with ⟨h1, h2⟩ | ⟨g, h1, h2⟩
    · rw [h.len, h1]; rfl
    · rw [h1] at hq; cases hq
theorem GoodR.carry {w w' : World} {x : Itm} {q : Option Addr} {c : Nat} (h : GoodR w x q c) (hc : ∀ g cs, Blk w g cs 5 → Blk w' g cs 5) : GoodR w' x q c :=
  ⟨h.ok, h.len, h.max, h.at_.imp id fun ⟨g, h1, h2⟩ => ⟨g, h1, hc _ _ h2⟩⟩
theorem ri_ne : (40 : TypeId) ≠ 65 := by decide
theorem ur_ne : (5 : TypeId) ≠ 65 := by decide
theorem iu_ne : (5 : TypeId) ≠ 40 := by decide
theorem blk_ne {w : World} {g g' : Nat} {cs cs' : List Value} {t t' : TypeId} (h : Blk w g cs t) (h' : Blk w g' cs' t') (hne : t ≠ t') : g ≠ g' := by
  rintro rfl
  unfold Blk at h h'
  rw [h] at h'
  injection h' with h'
  injection h' with _ ht
  exact hne ht
structure RSt (w0 : World) (ga : Nat) (bs : List Int) (p : Option Addr) (n c : Nat) (st : Nat × List Itm) (v : Value) (ys : List Hdr) (w : World) : Prop where
  blk : Blk w ga [.slice p n c, .int .i64 (st.1 : Int), v] 65
  own : w.ownsRow w0.heap.size 40 34 v st.2.length (ys.flatMap cellsI)
  items : ys.map (·.1) = st.2
  good : ∀ y ∈ ys, GoodR w y.1 y.2.1 y.2.2
  at_ : st.1 ≤ n
  few : st.2.length ≤ st.1
  below : Below w0.heap.size w0 w
def RAt (w0 : World) (ga : Nat) (bs : List Int) (p : Option Addr) (n c : Nat) (st : Nat × List Itm) (w : World) : Prop := ∃ v ys, RSt w0 ga bs p n c st v ys w
def GDone (w0 : World) (ga : Nat) (bs : List Int) (p : Option Addr) (n c : Nat) (l : Int) (st : Nat × List Itm) (w : World) (e : Ending) (w' : World) : Prop :=
  e = .returned (.tuple #[.int .i64 (Fld.getS bs l st).2.1, .int .i64 (Fld.getS bs l st).2.2]) ∧ RAt w0 ga bs p n c (Fld.getS bs l st).1 w' ∧ ItersKept w w'
theorem only_setNew {a w : World} {ga g : Nat} (h : a.grownBy w (some ga)) (hg : a.heap.size ≤ g) (i : Nat) (u : Value) : a.grownBy (w.setCell ⟨g, i, none⟩ u) (some ga) :=
  ⟨h.os, h.tape, h.output, by simpa [World.setCell] using h.size, fun k hk hne => (Below.heap_setCell w _ u k (by show k ≠ g; omega)).trans (h.block k hk hne)⟩
/-- What is there when the item is read, ahead of the append. -/
structure GStep (w0 w : World) (ga gx : Nat) (bs : List Int) (p : Option Addr) (n c : Nat) (st : Nat × List Itm) (v : Value) (ys : List Hdr) (at2 : Nat) (x : Itm) (q : Option Addr) (qc : Nat) (w2 : World) : Prop where
  blk : Blk w2 ga [.slice p n c, .int .i64 (at2 : Int), v] 65
  item : Blk w2 gx (icells x q qc) 40
  own : w2.ownsRow w0.heap.size 40 34 v st.2.length (ys.flatMap cellsI)
  items : ys.map (·.1) = st.2
  good : ∀ y ∈ ys, GoodR w2 y.1 y.2.1 y.2.2
  goodx : GoodR w2 x q qc
  below : Below w0.heap.size w0 w2
  size : w0.heap.size ≤ w2.heap.size
  iters : ItersKept w w2
  apart : v.ownBlock ≠ some gx
theorem RSt.step {w0 w : World} {ga gx : Nat} {bs : List Int} {p : Option Addr} {n c : Nat} {st : Nat × List Itm} {v : Value} {ys : List Hdr} {at2 : Nat} {x : Itm} {q : Option Addr} {qc : Nat} {w2 : World} (h : RSt w0 ga bs p n c st v ys w) (hb : w0.heap.size ≤ ga)
    (ho : w.grownBy w2 (some ga)) (hk : Blk w2 ga [.slice p n c, .int .i64 (at2 : Int), v] 65) (hi : Blk w2 gx (icells x q qc) 40) (hx : GoodR w2 x q qc) (hgx : w.heap.size ≤ gx) : GStep w0 w ga gx bs p n c st v ys at2 x q qc w2 :=
  ⟨hk, hi, h.own.kept ho (Or.inr (own_ne h.own h.blk ri_ne)), h.items, fun y hy => (h.good y hy).carry fun g cs hg => hg.grow ho (fun e => blk_ne hg h.blk ur_ne (Option.some.inj e).symm), hx,
    below_only h.below ho hb h.below.size, Nat.le_trans h.below.size ho.size, iters_of (others_only ho 5) ⟨_, _, h.blk⟩, fun e => by have := (h.own.lt gx e).2; omega⟩
/-- .. an error is told: nothing is appended. -/
theorem RSt.err {w0 w : World} {ga : Nat} {bs : List Int} {p : Option Addr} {n c : Nat} {st : Nat × List Itm} {v : Value} {ys : List Hdr} {at2 : Nat} {w2 : World} (h : RSt w0 ga bs p n c st v ys w) (hb : w0.heap.size ≤ ga)
    (ho : w.grownBy w2 (some ga)) (hk : Blk w2 ga [.slice p n c, .int .i64 (at2 : Int), v] 65) (ha : at2 ≤ n) (hf : st.2.length ≤ at2) : RAt w0 ga bs p n c (at2, st.2) w2 :=
  ⟨v, ys, hk, h.own.kept ho (Or.inr (own_ne h.own h.blk ri_ne)), h.items, fun y hy => (h.good y hy).carry fun g cs hg => hg.grow ho (fun e => blk_ne hg h.blk ur_ne (Option.some.inj e).symm), ha, hf, below_only h.below ho hb h.below.size⟩
theorem GStep.drew {w0 w : World} {ga gx : Nat} {bs : List Int} {p : Option Addr} {n c : Nat} {st : Nat × List Itm} {v : Value} {ys : List Hdr} {at2 : Nat} {x : Itm} {q : Option Addr} {qc : Nat} {w2 : World} (h : GStep w0 w ga gx bs p n c st v ys at2 x q qc w2) (k : Nat) : GStep w0 w ga gx bs p n c st v ys at2 x q qc (w2.drewN k) :=
  ⟨h.blk, h.item, h.own, h.items, fun y hy => (h.good y hy).carry fun _ _ h => h, h.goodx.carry fun _ _ h => h, below_drewN h.below k, h.size, h.iters, h.apart⟩
/-- Behind the append and the store. -/
theorem GStep.done {w0 w : World} {ga gx : Nat} {bs : List Int} {p : Option Addr} {n c : Nat} {st : Nat × List Itm} {v v' : Value} {ys : List Hdr} {at2 : Nat} {x : Itm} {q : Option Addr} {qc : Nat} {w2 w5 : World} (h : GStep w0 w ga gx bs p n c st v ys at2 x q qc w2) (hb : w0.heap.size ≤ ga) (o : Obj)
    (hg : (w2.alloc o).grownBy w5 v.ownBlock) (hown : w5.ownsRow w0.heap.size 40 34 v' (st.2.length + 1) (ys.flatMap cellsI ++ icells x q qc)) (ha : at2 ≤ n) (hf : st.2.length + 1 ≤ at2) :
    RAt w0 ga bs p n c (at2, st.2 ++ [x]) (w5.setCell ⟨ga, 2, none⟩ v') ∧ ItersKept w (w5.setCell ⟨ga, 2, none⟩ v') ∧ Blk w5 ga [.slice p n c, .int .i64 (at2 : Int), v] 65 ∧ Blk w5 gx (icells x q qc) 40 := by
  have hoA := h.own.alloc o
  have hkA := h.blk.old o
  have hk5 := hkA.grow hg (own_ne hoA hkA ri_ne)
  have hu : ∀ g cs, Blk w2 g cs 5 → Blk (w5.setCell ⟨ga, 2, none⟩ v') g cs 5 := fun g cs hgb => by
    have h1 := hgb.old o
    exact (h1.grow hg (own_ne hoA h1 (fun e => iu_ne e.symm))).setOther _ _ (blk_ne hgb h.blk ur_ne)
  have hi5 : Blk w5 gx (icells x q qc) 40 := (h.item.old o).grow hg h.apart
  have hO : Lib.OthersKept 40 (some ga) w2 w5 := ((Lib.OthersKept.refl _ _ _).alloc o).grown hg (own_kind hoA)
  refine ⟨⟨v', ys ++ [(x, q, qc)], hk5.set 2 v', ?_, by simp [h.items], fun y hy => ?_, ha, by simpa using hf, ?_⟩, ?_, hk5, hi5⟩
  · have := own_set hown hk5 ri_ne 2 v'
    simpa [cellsI] using this
  · rcases List.mem_append.1 hy with hy | hy
    · exact (h.good y hy).carry hu
    · simp at hy; subst hy; exact h.goodx.carry hu
  · exact ((h.below.alloc h.size o).grown hg (by simp; have := h.size; omega) (fun k hk => (hoA.lt k hk).1)).setCell hb _
  · exact h.iters.trans (iters_of (others_set hO 2 v') ⟨_, _, h.blk⟩)
end Go.Proofs.Ytgakmkglejddeaa
