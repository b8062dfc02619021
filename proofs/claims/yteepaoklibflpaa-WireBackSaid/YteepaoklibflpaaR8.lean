/-
  Laws for whole arrays in a walk: a new variable, a box, a load and a store of all cells at once, an element by its index. The cells are whatever; nothing is unrolled.
  Slices of one-cell elements in a walk: what a slice reads as, whatever its address; cut; an element; a part as an array.
  A slice that the call itself makes: appended to by whatever slice; what it reads as. For elements of one cell.
-/
import Derived.WalkKit
import Derived.Deep.WholeRow
import Derived.Deep.QuietTactic
import Derived.BigQuiet
import Derived.Lib.Hide
import Derived.StillTailTactics
import Derived.Deep.RegionHeld3
import Derived.Deep.MidRow
import Derived.Laws.Cover3
import Derived.Laws.AppendOwnNone
import Derived.OwnWalk
import Derived.Deep.Onto
namespace Go.Proofs.Yteepaoklibflpaa
section
set_option linter.unusedSimpArgs false
set_option linter.unusedVariables false
variable {P : Program}
/-- The block g holds the cells cs, each of which may be written. -/
def Blk (w : World) (g : Nat) (cs : List Value) (t : TypeId) : Prop := w.heap[g]? = some (.cells cs.toArray t (0, 0))
theorem Blk.new (w : World) (cs : Array Value) (t : TypeId) : Blk (w.alloc (.cells cs t)) w.heap.size cs.toList t := by
  unfold Blk; rw [heap_alloc_new]
theorem Blk.old {w : World} {g : Nat} {cs : List Value} {t : TypeId} (h : Blk w g cs t) (o : Obj) : Blk (w.alloc o) g cs t := by
  have hlt : g < w.heap.size := by
    by_cases hlt : g < w.heap.size
    · exact hlt
    · unfold Blk at h; rw [Array.getElem?_eq_none (by omega)] at h; cases h
  unfold Blk; rw [RowKit.Below.heap_alloc _ _ _ hlt]; exact h
theorem Blk.lt {w : World} {g : Nat} {cs : List Value} {t : TypeId} (h : Blk w g cs t) : g < w.heap.size := by
  by_cases hlt : g < w.heap.size
  · exact hlt
  · unfold Blk at h; rw [Array.getElem?_eq_none (by omega)] at h; cases h
theorem Blk.drew {w : World} {g : Nat} {cs : List Value} {t : TypeId} (h : Blk w g cs t) : Blk w.drew g cs t := h
theorem Blk.drewN {w : World} {g : Nat} {cs : List Value} {t : TypeId} (h : Blk w g cs t) (n : Nat) : Blk (w.drewN n) g cs t := h
theorem Blk.below {w w' : World} {B g : Nat} {cs : List Value} {t : TypeId} (h : Blk w g cs t) (hb : RowKit.Below B w w') (hg : g < B) : Blk w' g cs t := by
  unfold Blk; rw [hb.block g hg]; exact h
theorem Blk.cell {w : World} {g : Nat} {cs : List Value} {t : TypeId} (h : Blk w g cs t) (i : Nat) : w.cell? ⟨g, i, none⟩ = cs[i]? := by
  rw [cell_of_row w g i cs.toArray t (0, 0) h]; simp
theorem Blk.free {w : World} {g : Nat} {cs : List Value} {t : TypeId} (h : Blk w g cs t) (i : Nat) : w.frozen? ⟨g, i, none⟩ = false := frozen_of_row w g i _ t h
theorem Blk.set {w : World} {g : Nat} {cs : List Value} {t : TypeId} (h : Blk w g cs t) (i : Nat) (v : Value) : Blk (w.setCell ⟨g, i, none⟩ v) g (cs.set i v) t := by
  unfold Blk; rw [heap_setCell_same w g i _ t v h]; simp
theorem Blk.setOther {w : World} {g : Nat} {cs : List Value} {t : TypeId} (h : Blk w g cs t) (a : Addr) (v : Value) (hn : g ≠ a.block) : Blk (w.setCell a v) g cs t := by
  unfold Blk; rw [heap_setCell_other w a g v hn]; exact h
theorem Blk.row {w : World} {g : Nat} {cs : List Value} {t : TypeId} (h : Blk w g cs t) (cs' : List Value) : Blk (w.setRow g cs'.toArray) g cs' t := setRow_heap w g _ _ t (0, 0) h
theorem Blk.rowOther {w : World} {g k : Nat} {cs : List Value} {t : TypeId} (h : Blk w g cs t) (cs' : Array Value) (hn : g ≠ k) : Blk (w.setRow k cs') g cs t := by
  unfold Blk; rw [setRow_other w k g cs' hn]; exact h
theorem below_drewN {B : Nat} {a w : World} (h : RowKit.Below B a w) (n : Nat) : RowKit.Below B a (w.drewN n) := ⟨h.os, h.tape, h.output, h.size, h.block⟩
theorem Below.setRow {B : Nat} {a w : World} (h : RowKit.Below B a w) {g : Nat} (hg : B ≤ g) (cs : Array Value) : RowKit.Below B a (w.setRow g cs) :=
  h.trans ⟨rfl, rfl, rfl, by simp, fun k hk => setRow_other w g k cs (by omega)⟩

theorem still_of_quiet {ops : Array Oper} {w : World} {Q : Act → Prop} : ∀ (l : List Oper) (a : Act), wpQuiet P ops (fun w' => w' = w) Q l a → wpStill P ops w Q l a
  | [], _, h => h
  | o :: rest, a, h => by
    unfold wpQuiet at h
    unfold wpStill
    split
    · rename_i hw
      rw [if_pos hw] at h
      obtain ⟨v, h1, h2⟩ := h
      have h3 := h1 w rfl
      have h4 := still_of_quiet rest _ h2
      unfold Oper.quietAt at h3
      unfold Oper.still
      generalize (execOp a.eval o).run P w = r at *
      cases r with
      | ok n w' =>
        cases n <;> simp only [Oper.quietUpon] at h3 <;> simp only [Oper.stillUpon]
        case value u => obtain ⟨e1, e2⟩ := h3; subst e2; exact ⟨e1, h4⟩
        case skip => obtain ⟨e1, e2⟩ := h3; subst e2; exact ⟨e1, h4⟩
        case enter f args => exact ⟨h3.1, v, h3.2, h4⟩
      | halt x w' => simp only [Oper.quietUpon] at h3
    · rename_i hw
      rw [if_neg hw] at h
      exact still_of_quiet rest _ h
/-- A region that draws its order: a head that reads and calls quietly, a tail whose order is forced. -/
theorem region_tail {id : Nat} {Q : Exit → Act → World → Prop} {a : Act} {w : World} {l : List Oper} (n : Nat) (hm : P.follows .mixedOrders = true) (hB : Region.lexTailB .any l.toArray n = true)
    (h : wpQuiet P l.toArray (fun w' => w' = w.drew) (fun a' => wpList P l.toArray Q (l.drop n) a' w.drew) (l.take n) a) : (Code.region id l.toArray true).wp P Q a w :=
  wp_region_still_tail n hm hB (still_of_quiet _ _ h)
/-- Two variables of a statement that draws its order: what is known of them while it runs. -/
structure Two (w0 : World) (B : Nat) (d1 d2 : Bool) (t1 t2 : TypeId) (c1 c2 : List Value) (g1 g2 : Nat) (wv : World) : Prop where
  below : RowKit.Below B w0 wv
  size : B ≤ wv.heap.size
  one : d1 = true → B ≤ g1 ∧ Blk wv g1 c1 t1
  two : d2 = true → B ≤ g2 ∧ Blk wv g2 c2 t2
  apart : d1 = true → d2 = true → g1 ≠ g2
variable {w0 wv : World} {B g1 g2 : Nat} {d1 d2 : Bool} {t1 t2 : TypeId} {c1 c2 : List Value}
theorem Two.alloc1 (h : Two w0 B false d2 t1 t2 c1 c2 g1 g2 wv) (c : List Value) : Two w0 B true d2 t1 t2 c c2 wv.heap.size g2 (wv.alloc (.cells c.toArray t1)) :=
  ⟨h.below.alloc h.size _, by simp; have := h.size; omega, fun _ => ⟨h.size, by simpa using Blk.new wv c.toArray t1⟩, fun e => ⟨(h.two e).1, (h.two e).2.old _⟩, fun _ e => by have := (h.two e).2.lt; omega⟩
theorem Two.alloc2 (h : Two w0 B d1 false t1 t2 c1 c2 g1 g2 wv) (c : List Value) : Two w0 B d1 true t1 t2 c1 c g1 wv.heap.size (wv.alloc (.cells c.toArray t2)) :=
  ⟨h.below.alloc h.size _, by simp; have := h.size; omega, fun e => ⟨(h.one e).1, (h.one e).2.old _⟩, fun _ => ⟨h.size, by simpa using Blk.new wv c.toArray t2⟩, fun e _ => by have := (h.one e).2.lt; omega⟩
theorem Two.call (h : Two w0 B d1 d2 t1 t2 c1 c2 g1 g2 wv) {w1 : World} (hb : RowKit.Below wv.heap.size wv w1) : Two w0 B d1 d2 t1 t2 c1 c2 g1 g2 w1 :=
  ⟨h.below.trans (hb.mono h.size), Nat.le_trans h.size hb.size, fun e => ⟨(h.one e).1, (h.one e).2.below hb (h.one e).2.lt⟩, fun e => ⟨(h.two e).1, (h.two e).2.below hb (h.two e).2.lt⟩, h.apart⟩
theorem Two.store1 (h : Two w0 B true d2 t1 t2 c1 c2 g1 g2 wv) (c : List Value) : Two w0 B true d2 t1 t2 c c2 g1 g2 (wv.setRow g1 c.toArray) :=
  ⟨Below.setRow h.below (h.one rfl).1 _, by simp; exact h.size, fun _ => ⟨(h.one rfl).1, (h.one rfl).2.row c⟩, fun e => ⟨(h.two e).1, (h.two e).2.rowOther _ (fun e' => h.apart rfl e e'.symm)⟩, h.apart⟩
theorem Two.store2 (h : Two w0 B d1 true t1 t2 c1 c2 g1 g2 wv) (c : List Value) : Two w0 B d1 true t1 t2 c1 c g1 g2 (wv.setRow g2 c.toArray) :=
  ⟨Below.setRow h.below (h.two rfl).1 _, by simp; exact h.size, fun e => ⟨(h.one e).1, (h.one e).2.rowOther _ (h.apart e rfl)⟩, fun _ => ⟨(h.two rfl).1, (h.two rfl).2.row c⟩, h.apart⟩
section
variable {ops : Array Oper} {rest : List Oper} {o : Oper} {a : Act} {w : World} {Q : Exit → Act → World → Prop}
variable {K : Act → World → Prop}
theorem wp_alloc_arr (ty : TypeId) (ho : o.op = .alloc ty) (cs : Array Value) (hz : (P.info? ty).map (fun i => i.zero) = some (some (.agg cs)))
    (h : K (a.put o.dst (.pointer (some ⟨w.heap.size, 0, none⟩))) (w.alloc (.cells cs ty))) : o.wp P a w K Q := by
  unfold Oper.wp execOp
  have hz' : (zeroValue ty).run P w = .ok (.agg cs) w := by
    cases hq : P.info? ty with
    | none => simp [hq] at hz
    | some i => simp [hq] at hz; simp [zeroValue, typeInfo, hq, hz]
  simp only [ho, Instr.alloc, Sem.run_bind, hz', Result.andThen_ok, Sem.run_pure]
  exact h
/-- One step of a region that draws its order. -/
theorem ready_step {md : Region.Mode} {fuel : Nat} {listed : Array Bool} {i : Nat} {o : Oper} {rs : List Nat} (ho : ops[i]? = some o) (hw : Region.wanted o (yielded ops a.tmps) = true)
    (h : ∀ K : Act → World → Prop, (∀ a w, wpAny P md ops Q fuel (listed.setIfInBounds i true) a w → K a w) → o.wp P a w K Q)
    (hs : AllReady P md ops Q fuel listed a w rs) : AllReady P md ops Q fuel listed a w (i :: rs) :=
  AllReady.cons ho (fun K hK => by rw [if_pos hw]; exact h K hK) hs
/-- The same where a fact S on the memory is held. -/
theorem ready_stepH {md : Region.Mode} {S : World → Prop} {fuel : Nat} {listed : Array Bool} {i : Nat} {o : Oper} {rs : List Nat} (ho : ops[i]? = some o) (hw : Region.wanted o (yielded ops a.tmps) = true)
    (h : ∀ K : Act → World → Prop, (∀ a w, S w → wpAnyH P md ops Q S fuel (listed.setIfInBounds i true) a w → K a w) → o.wp P a w K Q)
    (hs : AllReadyH P md ops Q S fuel listed a w rs) : AllReadyH P md ops Q S fuel listed a w (i :: rs) :=
  AllReadyH.cons ho (fun K hK => by rw [if_pos hw]; exact h K (fun a w hS h' => hK.out a w hS (fun _ => h'))) hs
/-- A whole array is loaded: in whatever world holds it. -/
theorem yieldsIf_load_row {S : World → Prop} {o : Oper} {a : Act} (hw : Region.wanted o (yielded ops a.tmps) = true) (ty : TypeId) (x : Operand) (ho : o.op = .load ty x)
    (g : Nat) (hx : a.eval x = .pointer (some ⟨g, 0, none⟩)) (cs : List Value) (t : TypeId) (d : TypeDesc) (hS : ∀ w, S w → Blk w g cs t)
    (hu : P.underlying ty = some d) (hd : (match d with | .struct _ | .array _ _ => true | _ => false) = true) (hi : (P.info? ty).map (·.size) = some cs.toArray.size) : YieldsIf P ops S o (.agg cs.toArray) a :=
  .inl ⟨hw, fun w hw' => by
    unfold execOp
    simp only [ho, hx, Instr.loadAt, Instr.sureAddr, Sem.run_bind, Sem.run_pure, Result.andThen_ok, run_loadVar_row w g t ty cs.toArray (0, 0) d (hS w hw') hu hd hi]⟩
theorem wpList_alloc_arr (hgd : o.guard = none) (ty : TypeId) (ho : o.op = .alloc ty) (cs : Array Value) (hz : (P.info? ty).map (fun i => i.zero) = some (some (.agg cs)))
    (h : wpList P ops Q rest (a.put o.dst (.pointer (some ⟨w.heap.size, 0, none⟩))) (w.alloc (.cells cs ty))) : wpList P ops Q (o :: rest) a w := by
  exact wpList_plain hgd fun K hK => wp_alloc_arr ty ho cs hz (hK _ _ h)
theorem wpList_box_arr (hgd : o.guard = none) (ty : TypeId) (x : Operand) (ho : o.op = .box ty x) (cs : Array Value) (hx : a.eval x = .agg cs)
    (h : wpList P ops Q rest (a.put o.dst (.pointer (some ⟨w.heap.size, 0, none⟩))) (w.alloc (.cells cs ty))) : wpList P ops Q (o :: rest) a w := by
  refine wpList_plain hgd fun K hK => ?_
  unfold Oper.wp execOp
  simp only [ho, hx, Instr.box, Sem.run_bind, Result.andThen_ok, Sem.run_pure]
  exact hK _ _ h
theorem wpList_build' (hg : o.guard = none) (t : TypeId) (parts : Array (Nat × Operand)) (ho : o.op = .build t parts) (cs : Array Value)
    (hf : P.built t (parts.map fun (i, x) => (i, a.eval x)).toList = some cs)
    (h : wpList P ops Q rest (a.put o.dst (.agg cs)) w) : wpList P ops Q (o :: rest) a w :=
  wpList_build hg t parts ho (by rw [hf]; rfl) (by rw [hf]; exact h)
theorem run_index_arr (ty : TypeId) (cs : Array Value) (i : Int) (n : Nat) (elem : TypeId) (hu : P.underlying ty = some (.array n elem)) (d : TypeDesc) (hue : P.underlying elem = some d)
    (hna : (match d with | .struct _ | .array _ _ => true | _ => false) = false) (he : (P.info? elem).map (fun i => i.size) = some 1) (hi : 0 ≤ i ∧ i < n) (v : Value) (hv : cs[i.toNat]? = some v) (w : World) :
    (Instr.index ty (.agg cs) (.int .i64 i)).run P w = .ok v w := by
  have h2 : (sizeOf elem).run P w = .ok 1 w := by
    cases hq : P.info? elem with
    | none => simp [hq] at he
    | some j => simp [hq] at he; simp [sizeOf, typeInfo, hq, he]
  have hagg : (isAgg elem).run P w = .ok false w := by
    unfold isAgg
    rw [Sem.run_bind, run_underlying hue w]
    cases d <;> simp_all
  simp [Instr.index, asIntOf, run_underlying hu, hi, h2, part, hagg, hv]
theorem wpList_index_arr (hgd : o.guard = none) (ty : TypeId) (x ix : Operand) (ho : o.op = .index ty x ix) (cs : Array Value) (hx : a.eval x = .agg cs) (i : Int) (hi : a.eval ix = .int .i64 i)
    (n : Nat) (elem : TypeId) (hu : P.underlying ty = some (.array n elem)) (d : TypeDesc) (hue : P.underlying elem = some d)
    (hna : (match d with | .struct _ | .array _ _ => true | _ => false) = false) (he : (P.info? elem).map (fun i => i.size) = some 1) (hlt : 0 ≤ i ∧ i < n) (v : Value) (hv : cs[i.toNat]? = some v)
    (h : wpList P ops Q rest (a.put o.dst v) w) : wpList P ops Q (o :: rest) a w := by
  refine wpList_plain hgd fun K hK => ?_
  unfold Oper.wp execOp
  simp only [ho, hx, hi, Sem.run_bind, run_index_arr ty cs i n elem hu d hue hna he hlt v hv, Result.andThen_ok, Sem.run_pure]
  exact hK _ _ h
end
end
section
set_option linter.unusedSimpArgs false
set_option linter.unusedVariables false
variable {P : Program}
/-- From address a on the cells cs lie. (An empty list lies anywhere.) -/
def At (w : World) (a : Option Addr) (cs : List Value) : Prop := cs = [] ∨ ∃ b off, a = some ⟨b, off, none⟩ ∧ ∀ i v, cs[i]? = some v → w.cell? ⟨b, off + i, none⟩ = some v
theorem At.nil (w : World) (a : Option Addr) : At w a [] := Or.inl rfl
theorem At.carry {w w' : World} {a : Option Addr} {cs : List Value} (h : At w a cs) (hc : ∀ p v, w.cell? p = some v → w'.cell? p = some v) : At w' a cs := by
  rcases h with h | ⟨b, off, ha, hc'⟩
  · exact Or.inl h
  · exact Or.inr ⟨b, off, ha, fun i v hi => hc _ _ (hc' i v hi)⟩
theorem At.below {w w' : World} {a : Option Addr} {cs : List Value} (h : At w a cs) (hb : RowKit.Below w.heap.size w w') : At w' a cs :=
  h.carry fun p v hv => by rw [hb.cell (World.block_lt_of_cell? w p hv)]; exact hv
theorem At.drew {w : World} {a : Option Addr} {cs : List Value} (h : At w a cs) : At w.drew a cs := h
theorem At.drewN {w : World} {a : Option Addr} {cs : List Value} (h : At w a cs) (n : Nat) : At (w.drewN n) a cs := h
theorem At.alloc {w : World} {a : Option Addr} {cs : List Value} (h : At w a cs) (o : Obj) : At (w.alloc o) a cs :=
  h.below (RowKit.Below.alloc (RowKit.Below.refl _ _) (Nat.le_refl _) o)
theorem At.addr {w : World} {a : Option Addr} {cs : List Value} (h : At w a cs) (hn : 0 < cs.length) : ∃ b off, a = some ⟨b, off, none⟩ ∧ ∀ i v, cs[i]? = some v → w.cell? ⟨b, off + i, none⟩ = some v := by
  rcases h with h | h
  · subst h; simp at hn
  · exact h
theorem At.sub {w : World} {a : Option Addr} {cs : List Value} (h : At w a cs) (lo hi cap : Nat) (hc : cs.length ≤ cap) : At w (if cap = lo then a else a.map (·.add lo)) ((cs.take hi).drop lo) := by
  by_cases e : cap = lo
  · left; simp; omega
  rw [if_neg e]
  rcases h with h | ⟨b, off, ha, hc'⟩
  · left; simp [h]
  · refine Or.inr ⟨b, off + lo, by rw [ha]; simp [Addr.add_mid], fun i v hi' => ?_⟩
    rw [List.getElem?_drop, List.getElem?_take] at hi'
    split at hi'
    · have := hc' (lo + i) v hi'
      rwa [← Nat.add_assoc] at this
    · cases hi'
theorem At.range {w : World} {b off : Nat} {cs : List Value} (h : At w (some ⟨b, off, none⟩) cs) : w.rangeAt b off cs := by
  rcases h with h | ⟨b', off', ha, hc'⟩
  · subst h; intro j v hv; simp at hv
  · cases ha; exact hc'
/-- A cut: where the capacity is used up the address stays. -/
def cutV (p : Option Addr) (l h cap : Nat) : Value := .slice (if cap = l then p else p.map (·.add l)) (h - l) (cap - l)
theorem size_one {e : TypeId} (he : (P.info? e).map (fun i => i.size) = some 1) (w : World) : (sizeOf e).run P w = .ok 1 w := by
  cases hq : P.info? e with
  | none => simp [hq] at he
  | some j => simp [hq] at he; simp [sizeOf, typeInfo, hq, he]
theorem elem_of {t e : TypeId} (hu : P.underlying t = some (.slice e)) : P.elem t = e := by simp [Program.elem, hu]
section
variable (t e : TypeId) (p : Option Addr) (len cap : Nat) (hu : P.underlying t = some (.slice e)) (he : (P.info? e).map (fun i => i.size) = some 1)
include hu he
theorem run_cut_lh (kl kh : IntKind) (l h : Int) (h0 : 0 ≤ l) (h1 : l ≤ h) (h2 : h ≤ cap) (w : World) :
    (Instr.sliceAt t (.slice p len cap) (some (.int kl l)) (some (.int kh h)) none).run P w = .ok (cutV p l.toNat h.toNat cap) w := by
  have hu' : P.underlying t = some (.slice (P.elem t)) := by rw [elem_of hu]; exact hu
  rw [run_sliceAt_slice w t _ _ _ _ hu', run_slice_lh w t p len cap hu' kl kh l h h0 h1 h2, elem_of hu, size_one he]
  simp [Result.andThen, sliced, cutV]
theorem run_cut_h (kh : IntKind) (h : Int) (h0 : 0 ≤ h) (h2 : h ≤ cap) (w : World) :
    (Instr.sliceAt t (.slice p len cap) none (some (.int kh h)) none).run P w = .ok (cutV p 0 h.toNat cap) w := by
  have hu' : P.underlying t = some (.slice (P.elem t)) := by rw [elem_of hu]; exact hu
  rw [run_sliceAt_slice w t _ _ _ _ hu', run_slice_h w t p len cap hu' kh h h0 h2, elem_of hu, size_one he]
  simp [Result.andThen, sliced, cutV]
theorem run_cut_l (kl : IntKind) (l : Int) (h0 : 0 ≤ l) (h1 : l ≤ len) (w : World) :
    (Instr.sliceAt t (.slice p len cap) (some (.int kl l)) none none).run P w = .ok (cutV p l.toNat len cap) w := by
  have hu' : P.underlying t = some (.slice (P.elem t)) := by rw [elem_of hu]; exact hu
  rw [run_sliceAt_slice w t _ _ _ _ hu', run_slice_l w t p len cap hu' kl l h0 h1, elem_of hu, size_one he]
  simp [Result.andThen, sliced, cutV]
end
section
variable {ops : Array Oper} {rest : List Oper} {o : Oper} {a : Act} {w : World} {Q : Exit → Act → World → Prop} {C : World → Prop} {K : Act → Prop}
theorem quiet_cut (t : TypeId) (x : Operand) (lo hi : Option Operand) (ho : o.op = .slice t x lo hi none) (p : Option Addr) (l h cap : Nat)
    (hr : ∀ w, (Instr.sliceAt t (a.eval x) (lo.map a.eval) (hi.map a.eval) none).run P w = .ok (cutV p l h cap) w) (w0 : World) (cs : List Value) (hA : At w0 p cs) (hc : cs.length ≤ cap)
    (hn : ∀ p', At w0 p' ((cs.take h).drop l) → K (a.put o.dst (.slice p' (h - l) (cap - l)))) : o.quiet P a C K :=
  ⟨cutV p l h cap, fun w _ => by
    unfold Oper.quietAt execOp
    simp only [ho, Option.map_none, Sem.run_bind, hr, Result.andThen_ok, Sem.run_pure]
    exact ⟨rfl, rfl⟩, hn _ (hA.sub l h cap hc)⟩
theorem quiet_array (t : TypeId) (x : Operand) (ho : o.op = .sliceToArrayPointer t x) (e : TypeId) (n : Nat) (p : Option Addr) (len cap : Nat) (hu : P.underlying t = some (.array n e)) (hn : n ≤ len)
    (hx : a.eval x = .slice p len cap) (h : K (a.put o.dst (.pointer p))) : o.quiet P a C K :=
  ⟨.pointer p, fun w _ => by
    unfold Oper.quietAt execOp
    simp only [ho, hx, Sem.run_bind, run_arrayAt w t e n p len cap hu hn, Result.andThen_ok, Sem.run_pure]
    exact ⟨rfl, rfl⟩, h⟩
theorem quiet_load_mid (ty : TypeId) (x : Operand) (ho : o.op = .load ty x) (b off : Nat) (hx : a.eval x = .pointer (some ⟨b, off, none⟩)) (cs : List Value) (d : TypeDesc) (hC : ∀ w, C w → w.rangeAt b off cs)
    (hu : P.underlying ty = some d) (hd : d.isRow = true) (hi : (P.info? ty).map (·.size) = some cs.length) (h : K (a.put o.dst (.agg cs.toArray))) : o.quiet P a C K :=
  ⟨.agg cs.toArray, fun w hw => by
    unfold Oper.quietAt execOp
    simp only [ho, hx, Instr.loadAt, Instr.sureAddr, Sem.run_bind, Sem.run_pure, Result.andThen_ok, run_loadVar_mid w b off ty cs d (hC w hw) hu hd hi]
    exact ⟨rfl, rfl⟩, h⟩
theorem Blk.range {w : World} {g : Nat} {cs : List Value} {t : TypeId} (h : Blk w g cs t) : w.rangeAt g 0 cs := fun j v hv => by rw [Nat.zero_add, h.cell]; exact hv
theorem yields_move {ops : Array Oper} (hw : Region.wanted o (yielded ops a.tmps) = true) (x : Operand) (ho : o.op = .move x) (V : Value) (hx : a.eval x = V) : Yields P ops o V a :=
  .inl ⟨hw, fun w => by
    unfold execOp
    simp only [ho, hx, Sem.run_pure]⟩
theorem yields_cut {ops : Array Oper} (hw : Region.wanted o (yielded ops a.tmps) = true) (t : TypeId) (x : Operand) (lo hi : Option Operand) (ho : o.op = .slice t x lo hi none) (V : Value)
    (hr : ∀ w, (Instr.sliceAt t (a.eval x) (lo.map a.eval) (hi.map a.eval) none).run P w = .ok V w) : Yields P ops o V a :=
  .inl ⟨hw, fun w => by
    unfold execOp
    simp only [ho, Option.map_none, Sem.run_bind, hr, Result.andThen_ok, Sem.run_pure]⟩
/-- The same at the list of a plain region. -/
theorem wpList_cut (hgd : o.guard = none) (t : TypeId) (x : Operand) (lo hi : Option Operand) (ho : o.op = .slice t x lo hi none) (p : Option Addr) (l h cap : Nat)
    (hr : ∀ w, (Instr.sliceAt t (a.eval x) (lo.map a.eval) (hi.map a.eval) none).run P w = .ok (cutV p l h cap) w) (cs : List Value) (hA : At w p cs) (hc : cs.length ≤ cap)
    (hn : ∀ p', At w p' ((cs.take h).drop l) → wpList P ops Q rest (a.put o.dst (.slice p' (h - l) (cap - l))) w) : wpList P ops Q (o :: rest) a w := by
  refine wpList_plain hgd fun K hK => ?_
  unfold Oper.wp execOp
  simp only [ho, Option.map_none, Sem.run_bind, hr, Result.andThen_ok, Sem.run_pure]
  exact hK _ _ (hn _ (hA.sub l h cap hc))
end
end
section
set_option linter.unusedSimpArgs false
set_option linter.unusedVariables false
variable {P : Program} {ops : Array Oper} {rest : List Oper} {o : Oper} {a : Act} {w : World} {Q : Exit → Act → World → Prop}
/-- How long a slice value is: for a loop's measure. -/
def lenOf : Value → Nat
  | .slice _ n _ => n
  | _ => 0
theorem own_form {B n : Nat} {e : TypeId} {v : Value} {xs : List Value} (h : w.ownsRow B e 1 v n xs) (hn : 0 < n) : ∃ g cap, v = .slice (some ⟨g, 0, none⟩) n cap ∧ B ≤ g ∧ n ≤ cap ∧ cap ≤ maxLen ∧ g < w.heap.size := by
  obtain ⟨_, h⟩ := h
  rcases h with ⟨_, h0⟩ | ⟨g, cap, cur, hv, hg, hh, h1, h2, _⟩
  · omega
  · exact ⟨g, cap, hv, hg, h1, h2, Blk.lt (cs := cur.toList) (t := e) (by unfold Blk; simpa using hh)⟩
theorem own_at {B n : Nat} {e : TypeId} {v : Value} {xs : List Value} (h : w.ownsRow B e 1 v n xs) : ∃ p cap, v = .slice p n cap ∧ n ≤ cap ∧ cap ≤ maxLen ∧ At w p xs ∧ xs.length = n ∧ (p = none → cap = 0) := by
  have hl : xs.length = n := by simpa using h.1
  rcases h.2 with ⟨hv, h0⟩ | ⟨g, cap, cur, hv, hg, hh, h1, h2, h3, h4⟩
  · exact ⟨none, 0, by rw [hv, h0], by omega, by simp [maxLen], Or.inl (List.eq_nil_of_length_eq_zero (by omega)), hl, fun _ => rfl⟩
  · refine ⟨_, cap, hv, h1, h2, Or.inr ⟨g, 0, rfl, fun i v hi => ?_⟩, hl, fun h => by cases h⟩
    subst hv
    have hlt : i < xs.length := by
      by_cases hlt : i < xs.length
      · exact hlt
      · rw [List.getElem?_eq_none (by omega)] at hi; cases hi
    rw [Nat.zero_add, h.cellAt i (by omega)]; exact hi
theorem at_one (w : World) (v : Value) (e : TypeId) : At (w.alloc (.cells #[v] e)) (some ⟨w.heap.size, 0, none⟩) [v] := by
  refine Or.inr ⟨_, 0, rfl, fun i u hi => ?_⟩
  rw [Nat.zero_add, (Blk.new w #[v] e).cell]; exact hi
/-- 'append(v, x...)': v the call's own, x whatever. -/
theorem wpList_app (hgd : o.guard = none) (s x : Operand) (t : TypeId) (ho : o.op = .call { callee := .builtin .append, args := #[s, x], argTypes := #[t, t] })
    (B : Nat) (e : TypeId) {z : Value} {by_ : Nat} (ht : P.underlying t = some (.slice e)) (hi : (P.info? e).map (fun i => (i.zero, i.size, i.bytes)) = some (some z, 1, by_)) (hz : z.cells.size = 1)
    (v : Value) (n : Nat) (xs : List Value) (hs : a.eval s = v) (hown : w.ownsRow B e 1 v n xs)
    (p : Option Addr) (m c : Nat) (news : List Value) (hx : a.eval x = .slice p m c) (hA : At w p news) (hl : news.length = m) (hn : p = none → c = 0) (hmc : m ≤ c) (h1 : ∀ u ∈ news, u.oneCell' = true)
    (hbytes : (n + m) * by_ ≤ 140737488355328) (hmax : n + m ≤ maxLen) (hB : B ≤ w.heap.size)
    (h : ∀ v' w', w'.ownsRow B e 1 v' (n + m) (xs ++ news) → w.grownBy w' v.ownBlock → RowKit.Below B w w' → B ≤ w'.heap.size → (v' = .slice none 0 0 ↔ v = .slice none 0 0 ∧ m = 0) → wpList P ops Q rest (a.put o.dst v') w') : wpList P ops Q (o :: rest) a w := by
  obtain ⟨i, hi, hz0, hz1, hz2⟩ := info_parts hi
  have hblock : ∀ k, v.ownBlock = some k → B ≤ k := by
    intro k hk
    rcases hown.2 with ⟨hv, _⟩ | ⟨g, cap, cur, hv, hg, _⟩
    · rw [hv] at hk; cases hk
    · rw [hv] at hk; cases hk; exact hg
  cases p with
  | none =>
    have hc := hn rfl
    have hm : m = 0 := by omega
    subst hc hm
    have hnews : news = [] := List.eq_nil_of_length_eq_zero hl
    subst hnews
    refine wpList_append_own_none hgd s x t ho B e i 1 ht hi v n xs hs hown hx (h v w (by simpa using hown) ⟨rfl, rfl, rfl, Nat.le_refl _, fun _ _ _ => rfl⟩ (RowKit.Below.refl _ _) hB (by simp))
  | some ad =>
    refine wpList_append_own w hgd s x t ho B e i z 1 by_ ht hi hz0 hz1 hz2 hz (by decide) v n xs hs hown ad m c news hx (by omega) ?_ h1 hmax hbytes hB ?_
    · intro j u hj
      rcases hA with hA | ⟨b, off, hA, hc⟩
      · subst hA; simp at hj
      · cases hA; rw [Addr.add_mid]; exact hc j u hj
    · intro v' w' h1 h2 h3
      exact h v' w' h1 h2 ((RowKit.Below.refl B w).grown h2 hB hblock) (Nat.le_trans hB h2.size) h3
end
end Go.Proofs.Yteepaoklibflpaa
