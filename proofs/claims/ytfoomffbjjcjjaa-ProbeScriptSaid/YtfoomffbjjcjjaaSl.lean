/-
  Slices of one-cell elements in a walk: what a slice reads as, whatever its address; cut; an element; a part as an array.
-/
import Derived.Test.YtfoomffbjjcjjaaArr
import Derived.Deep.MidRow
import Derived.Laws.Cover3
namespace Go.Proofs.Ytfoomffbjjcjjaa
set_option linter.unusedSimpArgs false
set_option linter.unusedVariables false
variable {P : Program}
/-- From address a on the cells cs lie. (An empty list lies anywhere.) -/
def At (w : World) (a : Option Addr) (cs : List Value) : Prop := cs = [] ∨ ∃ b off, a = some ⟨b, off, none⟩ ∧ ∀ i v, cs[i]? = some v → w.cell? ⟨b, off + i, none⟩ = some v
theorem At.nil (w : World) (a : Option Addr) : At w a [] := Or.inl rfl
theorem At.carry {w w' : World} {a : Option Addr} {cs : List Value} (h : At w a cs) (hc : ∀ p v, w.cell? p = some v → w'.cell? p = some v) : At w' a cs := by
  rcases h with h | ⟨b, off, ha, hc'⟩
  · exact Or.inl h
  · exact Or.inr ⟨b, off, ha, fun i v hi => hc _ _ (hc' i v hi)⟩
theorem At.below {w w' : World} {a : Option Addr} {cs : List Value} (h : At w a cs) (hb : RowKit.Below w.heap.size w w') : At w' a cs :=
  h.carry fun p v hv => by rw [hb.cell (World.block_lt_of_cell? w p hv)]; exact hv
theorem At.drew {w : World} {a : Option Addr} {cs : List Value} (h : At w a cs) : At w.drew a cs := h
theorem At.drewN {w : World} {a : Option Addr} {cs : List Value} (h : At w a cs) (n : Nat) : At (w.drewN n) a cs := h
theorem At.alloc {w : World} {a : Option Addr} {cs : List Value} (h : At w a cs) (o : Obj) : At (w.alloc o) a cs :=
  h.below (RowKit.Below.alloc (RowKit.Below.refl _ _) (Nat.le_refl _) o)
theorem At.addr {w : World} {a : Option Addr} {cs : List Value} (h : At w a cs) (hn : 0 < cs.length) : ∃ b off, a = some ⟨b, off, none⟩ ∧ ∀ i v, cs[i]? = some v → w.cell? ⟨b, off + i, none⟩ = some v := by
  rcases h with h | h
  · subst h; simp at hn
  · exact h
theorem At.sub {w : World} {a : Option Addr} {cs : List Value} (h : At w a cs) (lo hi cap : Nat) (hc : cs.length ≤ cap) : At w (if cap = lo then a else a.map (·.add lo)) ((cs.take hi).drop lo) := by
  by_cases e : cap = lo
  · left; simp; omega
  rw [if_neg e]
  rcases h with h | ⟨b, off, ha, hc'⟩
  · left; simp [h]
  · refine Or.inr ⟨b, off + lo, by rw [ha]; simp [Addr.add_mid], fun i v hi' => ?_⟩
    rw [List.getElem?_drop, List.getElem?_take] at hi'
    split at hi'
    · have := hc' (lo + i) v hi'
      rwa [← Nat.add_assoc] at this
    · cases hi'
theorem At.range {w : World} {b off : Nat} {cs : List Value} (h : At w (some ⟨b, off, none⟩) cs) : w.rangeAt b off cs := by
  rcases h with h | ⟨b', off', ha, hc'⟩
  · subst h; intro j v hv; simp at hv
  · cases ha; exact hc'
/-- A cut: where the capacity is used up the address stays. -/
def cutV (p : Option Addr) (l h cap : Nat) : Value := .slice (if cap = l then p else p.map (·.add l)) (h - l) (cap - l)
theorem size_one {e : TypeId} (he : (P.info? e).map (fun i => i.size) = some 1) (w : World) : (sizeOf e).run P w = .ok 1 w := by
  cases hq : P.info? e with
  | none => simp [hq] at he
  | some j => simp [hq] at he; simp [sizeOf, typeInfo, hq, he]
theorem elem_of {t e : TypeId} (hu : P.underlying t = some (.slice e)) : P.elem t = e := by simp [Program.elem, hu]
section
variable (t e : TypeId) (p : Option Addr) (len cap : Nat) (hu : P.underlying t = some (.slice e)) (he : (P.info? e).map (fun i => i.size) = some 1)
include hu he
theorem run_cut_lh (kl kh : IntKind) (l h : Int) (h0 : 0 ≤ l) (h1 : l ≤ h) (h2 : h ≤ cap) (w : World) :
    (Instr.sliceAt t (.slice p len cap) (some (.int kl l)) (some (.int kh h)) none).run P w = .ok (cutV p l.toNat h.toNat cap) w := by
  have hu' : P.underlying t = some (.slice (P.elem t)) := by rw [elem_of hu]; exact hu
  rw [run_sliceAt_slice w t _ _ _ _ hu', run_slice_lh w t p len cap hu' kl kh l h h0 h1 h2, elem_of hu, size_one he]
  simp [Result.andThen, sliced, cutV]
theorem run_cut_h (kh : IntKind) (h : Int) (h0 : 0 ≤ h) (h2 : h ≤ cap) (w : World) :
    (Instr.sliceAt t (.slice p len cap) none (some (.int kh h)) none).run P w = .ok (cutV p 0 h.toNat cap) w := by
  have hu' : P.underlying t = some (.slice (P.elem t)) := by rw [elem_of hu]; exact hu
  rw [run_sliceAt_slice w t _ _ _ _ hu', run_slice_h w t p len cap hu' kh h h0 h2, elem_of hu, size_one he]
  simp [Result.andThen, sliced, cutV]
theorem run_cut_l (kl : IntKind) (l : Int) (h0 : 0 ≤ l) (h1 : l ≤ len) (w : World) :
    (Instr.sliceAt t (.slice p len cap) (some (.int kl l)) none none).run P w = .ok (cutV p l.toNat len cap) w := by
  have hu' : P.underlying t = some (.slice (P.elem t)) := by rw [elem_of hu]; exact hu
  rw [run_sliceAt_slice w t _ _ _ _ hu', run_slice_l w t p len cap hu' kl l h0 h1, elem_of hu, size_one he]
  simp [Result.andThen, sliced, cutV]
end
section
variable {ops : Array Oper} {rest : List Oper} {o : Oper} {a : Act} {w : World} {Q : Exit → Act → World → Prop} {C : World → Prop} {K : Act → Prop}
theorem quiet_cut (t : TypeId) (x : Operand) (lo hi : Option Operand) (ho : o.op = .slice t x lo hi none) (p : Option Addr) (l h cap : Nat)
    (hr : ∀ w, (Instr.sliceAt t (a.eval x) (lo.map a.eval) (hi.map a.eval) none).run P w = .ok (cutV p l h cap) w) (w0 : World) (cs : List Value) (hA : At w0 p cs) (hc : cs.length ≤ cap)
    (hn : ∀ p', At w0 p' ((cs.take h).drop l) → K (a.put o.dst (.slice p' (h - l) (cap - l)))) : o.quiet P a C K :=
  ⟨cutV p l h cap, fun w _ => by
    unfold Oper.quietAt execOp
    simp only [ho, Option.map_none, Sem.run_bind, hr, Result.andThen_ok, Sem.run_pure]
    exact ⟨rfl, rfl⟩, hn _ (hA.sub l h cap hc)⟩
theorem quiet_array (t : TypeId) (x : Operand) (ho : o.op = .sliceToArrayPointer t x) (e : TypeId) (n : Nat) (p : Option Addr) (len cap : Nat) (hu : P.underlying t = some (.array n e)) (hn : n ≤ len)
    (hx : a.eval x = .slice p len cap) (h : K (a.put o.dst (.pointer p))) : o.quiet P a C K :=
  ⟨.pointer p, fun w _ => by
    unfold Oper.quietAt execOp
    simp only [ho, hx, Sem.run_bind, run_arrayAt w t e n p len cap hu hn, Result.andThen_ok, Sem.run_pure]
    exact ⟨rfl, rfl⟩, h⟩
theorem quiet_load_mid (ty : TypeId) (x : Operand) (ho : o.op = .load ty x) (b off : Nat) (hx : a.eval x = .pointer (some ⟨b, off, none⟩)) (cs : List Value) (d : TypeDesc) (hC : ∀ w, C w → w.rangeAt b off cs)
    (hu : P.underlying ty = some d) (hd : d.isRow = true) (hi : (P.info? ty).map (·.size) = some cs.length) (h : K (a.put o.dst (.agg cs.toArray))) : o.quiet P a C K :=
  ⟨.agg cs.toArray, fun w hw => by
    unfold Oper.quietAt execOp
    simp only [ho, hx, Instr.loadAt, Instr.sureAddr, Sem.run_bind, Sem.run_pure, Result.andThen_ok, run_loadVar_mid w b off ty cs d (hC w hw) hu hd hi]
    exact ⟨rfl, rfl⟩, h⟩
theorem Blk.range {w : World} {g : Nat} {cs : List Value} {t : TypeId} (h : Blk w g cs t) : w.rangeAt g 0 cs := fun j v hv => by rw [Nat.zero_add, h.cell]; exact hv
theorem yields_move {ops : Array Oper} (hw : Region.wanted o (yielded ops a.tmps) = true) (x : Operand) (ho : o.op = .move x) (V : Value) (hx : a.eval x = V) : Yields P ops o V a :=
  .inl ⟨hw, fun w => by
    unfold execOp
    simp only [ho, hx, Sem.run_pure]⟩
theorem yields_cut {ops : Array Oper} (hw : Region.wanted o (yielded ops a.tmps) = true) (t : TypeId) (x : Operand) (lo hi : Option Operand) (ho : o.op = .slice t x lo hi none) (V : Value)
    (hr : ∀ w, (Instr.sliceAt t (a.eval x) (lo.map a.eval) (hi.map a.eval) none).run P w = .ok V w) : Yields P ops o V a :=
  .inl ⟨hw, fun w => by
    unfold execOp
    simp only [ho, Option.map_none, Sem.run_bind, hr, Result.andThen_ok, Sem.run_pure]⟩
/-- The same at the list of a plain region. -/
theorem wpList_cut (hgd : o.guard = none) (t : TypeId) (x : Operand) (lo hi : Option Operand) (ho : o.op = .slice t x lo hi none) (p : Option Addr) (l h cap : Nat)
    (hr : ∀ w, (Instr.sliceAt t (a.eval x) (lo.map a.eval) (hi.map a.eval) none).run P w = .ok (cutV p l h cap) w) (cs : List Value) (hA : At w p cs) (hc : cs.length ≤ cap)
    (hn : ∀ p', At w p' ((cs.take h).drop l) → wpList P ops Q rest (a.put o.dst (.slice p' (h - l) (cap - l))) w) : wpList P ops Q (o :: rest) a w := by
  refine wpList_plain hgd fun K hK => ?_
  unfold Oper.wp execOp
  simp only [ho, Option.map_none, Sem.run_bind, hr, Result.andThen_ok, Sem.run_pure]
  exact hK _ _ (hn _ (hA.sub l h cap hc))
end
end Go.Proofs.Ytfoomffbjjcjjaa
