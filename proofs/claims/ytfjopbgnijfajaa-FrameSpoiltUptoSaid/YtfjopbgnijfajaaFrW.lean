/-
  Going through frames by an iterator function: which records come, what has come so far; a cut in a fence. No function of the program is named here.
-/
import Derived.Test.YtfjopbgnijfajaaFrC
import Derived.RangeFuncNested
import Derived.RangeFuncBound
import Derived.RangeFuncBox
import Derived.RangeFuncCalls
import Derived.RangeFuncLeaves
import Derived.Shelf.Abstract
import Derived.Shelf.RegionOpen
import Derived.WalkKit
import Derived.OwnWalkIn
import Derived.TacticsInMore
import Derived.LoopNIn
import Derived.LoopIn
import Derived.Maps.AppendAt
namespace Go.Proofs.Ytfjopbgnijfajaa
set_option linter.unusedSimpArgs false
set_option linter.unusedVariables false
open Go.RowKit Sha
theorem wpListIn_cut {F : Fence} {m : Nat} {P : Program} {ops : Array Oper} {Q : Exit → Act → World → Prop} {a : Act} {w : World} {rest : List Oper} {o : Oper}
    (hgd : o.guard = none) (t : TypeId) (x : Operand) (lo hi : Option Operand) (ho : o.op = .slice t x lo hi none) (p : Option Addr) (l h cap : Nat)
    (hr : ∀ w, (Instr.sliceAt t (a.eval x) (lo.map a.eval) (hi.map a.eval) none).run P w = .ok (cutV p l h cap) w) (cs : List Value) (hc : cs.length ≤ cap)
    (hn : ∀ p', (∀ w', At w' p cs → At w' p' ((cs.take h).drop l)) → wpListIn F m P ops Q rest (a.put o.dst (.slice p' (h - l) (cap - l))) w) : wpListIn F m P ops Q (o :: rest) a w := by
  refine wpListIn_plain hgd fun K hK => ?_
  unfold Oper.wpIn
  refine ⟨by simp [Oper.about, ho], ?_⟩
  rw [Oper.semAt_plain F _ _ (by rw [ho]; intro c hc'; cases hc')]
  simp only [execOp, ho, Option.map_none, Sem.run_bind, hr, Result.andThen_ok, Sem.run_pure]
  exact hK _ _ (hn _ (fun _ hA => hA.sub l h cap hc))
/-- An append as a step of a region that draws its order, inside a fence: its plain law serves. -/
theorem stepIn_append {F : Fence} {m : Nat} {P : Program} {ops : Array Oper} {o : Oper} {a : Act} {w : World} {Q : Exit → Act → World → Prop} {K : Act → World → Prop} {E' : Prop}
    (hgd : o.guard = none) (s x : Operand) (t : TypeId) (ho : o.op = .call { callee := .builtin .append, args := #[s, x], argTypes := #[t, t] })
    (h : if Region.wanted o (yielded ops a.tmps) = true then Oper.wp P o a w K Q else True) : if Region.wanted o (yielded ops a.tmps) = true then Oper.wpIn F m P o a w K Q else E' := by
  have hw : Region.wanted o (yielded ops a.tmps) = true := by simp [Region.wanted, hgd]
  rw [if_pos hw] at h ⊢
  unfold Oper.wpIn
  refine ⟨by simp [Oper.about, ho, resolve, Target.leads, Sem.run_pure], ?_⟩
  rw [Oper.semAt_plain F _ _ (by rw [ho]; intro c hc'; cases hc')]
  unfold Oper.wp at h
  simp only [execOp, ho, resolve, invoke, builtin, Sem.run_bind, Sem.run_pure, Result.andThen_ok] at h ⊢
  generalize hr : (Builtin.append_ _ _ _).run P w = r at h ⊢
  cases r with
  | ok v w' => exact h
  | halt x w' => cases x <;> exact h
/-- An end and a record, as they come: good in the world in which the going began. -/
abbrev Come (w0 : World) := { y : Nat × SHdr // GoodS w0 y.2 ∧ y.2.1.length ≤ 4000 ∧ y.1 ≤ 1000001000 }
def encsC {w0 : World} (y : Come w0) : Array Value := #[.int .i64 (y.1.1 : Nat), cellS y.1.2]
/-- What comes, one by one, from the bytes' beginning on, and where one stands behind it. -/
inductive Along (zs : List Int) : List (Nat × SHdr) → Nat → Prop
  | nil : Along zs [] 0
  | snoc {pre : List (Nat × SHdr)} {k : Nat} (y : Nat × SHdr) : Along zs pre k → y.2.1 = Frm.stands (zs.drop k) → y.1 = k + 8 + y.2.1.length → Along zs (pre ++ [y]) y.1
theorem Along.split {zs : List Int} {pre : List (Nat × SHdr)} {k : Nat} (h : Along zs pre k) : (∀ y ∈ pre, y.2.1 ≠ []) → Frm.split zs = (pre.map (·.2.1) ++ (Frm.split (zs.drop k)).1, k + (Frm.split (zs.drop k)).2) := by
  induction h with
  | nil => intro _; simp
  | @snoc pre k y h1 h2 h3 ih =>
    intro hn
    have hy : y.2.1 ≠ [] := hn y (by simp)
    have := split_go (ih fun z hz => hn z (by simp [hz])) (by rw [← h2]; exact hy)
    rw [← h2, ← h3] at this
    rw [this]; simp
theorem Along.le {zs : List Int} {pre : List (Nat × SHdr)} {k : Nat} (h : Along zs pre k) : (∀ y ∈ pre, y.2.1 ≠ []) → 9 * pre.length ≤ k ∧ k ≤ zs.length := by
  induction h with
  | nil => intro _; simp
  | @snoc pre k y h1 h2 h3 ih =>
    intro hn
    have hy : y.2.1 ≠ [] := hn y (by simp)
    have ⟨i1, i2⟩ := ih fun z hz => hn z (by simp [hz])
    have hs := (Frm.stands_length (zs.drop k) (by rw [← h2]; exact hy)).1
    rw [← h2, List.length_drop] at hs
    have hl : y.2.1.length ≠ 0 := fun e => hy (List.eq_nil_of_length_eq_zero e)
    rw [List.length_append, h3]
    simp; omega
theorem Along.last {zs : List Int} {pre : List (Nat × SHdr)} {y : Nat × SHdr} {k : Nat} (h : Along zs (pre ++ [y]) k) : ∃ k0, Along zs pre k0 ∧ y.2.1 = Frm.stands (zs.drop k0) ∧ y.1 = k0 + 8 + y.2.1.length ∧ k = y.1 := by
  generalize hq : pre ++ [y] = q at h
  cases h with
  | nil => simp at hq
  | snoc z h1 h2 h3 =>
    obtain ⟨rfl, e⟩ := List.append_inj' hq rfl
    cases e
    exact ⟨_, h1, h2, h3, rfl⟩
theorem Along.at {zs : List Int} {pre : List (Nat × SHdr)} {k : Nat} (h : Along zs pre k) : k = ((pre.getLast?).map (·.1)).getD 0 := by
  cases h with
  | nil => rfl
  | snoc y _ _ _ => simp
/-- What a round keeps: what lay below n₀, and one block besides (the iterator's captured variable). -/
def KpB (n₀ Bn : Nat) (A B : World) : Prop := Below n₀ A B ∧ B.heap[Bn]? = A.heap[Bn]?
theorem KpB.refl (n₀ Bn : Nat) (A : World) : KpB n₀ Bn A A := ⟨Below.refl _ _, rfl⟩
theorem KpB.trans {n₀ Bn : Nat} {A B C : World} (h : KpB n₀ Bn A B) (k : KpB n₀ Bn B C) : KpB n₀ Bn A C := ⟨h.1.trans k.1, k.2.trans h.2⟩
theorem KpB.drewN (n₀ Bn : Nat) (A : World) (m : Nat) : KpB n₀ Bn A (A.drewN m) := ⟨below_drewN (Below.refl _ _) m, rfl⟩
theorem kpB_t {n₀ Bn : Nat} {A B C : World} (h : KpB n₀ Bn A B) (k : KpB n₀ Bn B C) : KpB n₀ Bn A C := h.trans k
theorem kpB_b {n₀ Bn : Nat} {w : World} (hn : n₀ ≤ w.heap.size) (hb : Bn < w.heap.size) (W : World) (l : Nat) (o o' : Obj) (hl : w.heap.size ≤ l) (h : W.heap[l]? = some o) (h1 : o.isCells = false) (h2 : o.isWalk = false) : KpB n₀ Bn W (W.putObj l o') :=
  ⟨belowK_b hn W l o o' hl h h1 h2, World.putObj_heap_other (fun e => by omega)⟩
theorem grownBy_drewN (W : World) (m : Nat) : W.grownBy (W.drewN m) none := by
  have h := below_drewN (Below.refl W.heap.size W) m
  exact ⟨h.os, h.tape, h.output, h.size, fun k hk _ => h.block k hk⟩
theorem keepsOthers_drewN (W : World) (m : Nat) : KeepsOthers W (W.drewN m) := KeepsOthers.of_grownBy (grownBy_drewN W m) (fun j o e => by cases e)
end Go.Proofs.Ytfjopbgnijfajaa
