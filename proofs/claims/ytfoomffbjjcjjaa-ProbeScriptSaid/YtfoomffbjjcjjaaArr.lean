/-
  Laws for whole arrays in a walk: a new variable, a box, a load and a store of all cells at once, an element by its index. The cells are whatever; nothing is unrolled.
-/
import Derived.WalkKit
import Derived.Deep.WholeRow
import Derived.Deep.QuietTactic
import Derived.BigQuiet
import Derived.Lib.Hide
import Derived.StillTailTactics
import Derived.Deep.RegionHeld3
namespace Go.Proofs.Ytfoomffbjjcjjaa
set_option linter.unusedSimpArgs false
set_option linter.unusedVariables false
variable {P : Program}
/-- The block g holds the cells cs, each of which may be written. -/
def Blk (w : World) (g : Nat) (cs : List Value) (t : TypeId) : Prop := w.heap[g]? = some (.cells cs.toArray t (0, 0))
theorem Blk.new (w : World) (cs : Array Value) (t : TypeId) : Blk (w.alloc (.cells cs t)) w.heap.size cs.toList t := by
  unfold Blk; rw [heap_alloc_new]
theorem Blk.old {w : World} {g : Nat} {cs : List Value} {t : TypeId} (h : Blk w g cs t) (o : Obj) : Blk (w.alloc o) g cs t := by
  have hlt : g < w.heap.size := by
    by_cases hlt : g < w.heap.size
    · exact hlt
    · unfold Blk at h; rw [Array.getElem?_eq_none (by omega)] at h; cases h
  unfold Blk; rw [RowKit.Below.heap_alloc _ _ _ hlt]; exact h
theorem Blk.lt {w : World} {g : Nat} {cs : List Value} {t : TypeId} (h : Blk w g cs t) : g < w.heap.size := by
  by_cases hlt : g < w.heap.size
  · exact hlt
  · unfold Blk at h; rw [Array.getElem?_eq_none (by omega)] at h; cases h
theorem Blk.drew {w : World} {g : Nat} {cs : List Value} {t : TypeId} (h : Blk w g cs t) : Blk w.drew g cs t := h
theorem Blk.drewN {w : World} {g : Nat} {cs : List Value} {t : TypeId} (h : Blk w g cs t) (n : Nat) : Blk (w.drewN n) g cs t := h
theorem Blk.below {w w' : World} {B g : Nat} {cs : List Value} {t : TypeId} (h : Blk w g cs t) (hb : RowKit.Below B w w') (hg : g < B) : Blk w' g cs t := by
  unfold Blk; rw [hb.block g hg]; exact h
theorem Blk.cell {w : World} {g : Nat} {cs : List Value} {t : TypeId} (h : Blk w g cs t) (i : Nat) : w.cell? ⟨g, i, none⟩ = cs[i]? := by
  rw [cell_of_row w g i cs.toArray t (0, 0) h]; simp
theorem Blk.free {w : World} {g : Nat} {cs : List Value} {t : TypeId} (h : Blk w g cs t) (i : Nat) : w.frozen? ⟨g, i, none⟩ = false := frozen_of_row w g i _ t h
theorem Blk.set {w : World} {g : Nat} {cs : List Value} {t : TypeId} (h : Blk w g cs t) (i : Nat) (v : Value) : Blk (w.setCell ⟨g, i, none⟩ v) g (cs.set i v) t := by
  unfold Blk; rw [heap_setCell_same w g i _ t v h]; simp
theorem Blk.setOther {w : World} {g : Nat} {cs : List Value} {t : TypeId} (h : Blk w g cs t) (a : Addr) (v : Value) (hn : g ≠ a.block) : Blk (w.setCell a v) g cs t := by
  unfold Blk; rw [heap_setCell_other w a g v hn]; exact h
theorem Blk.row {w : World} {g : Nat} {cs : List Value} {t : TypeId} (h : Blk w g cs t) (cs' : List Value) : Blk (w.setRow g cs'.toArray) g cs' t := setRow_heap w g _ _ t (0, 0) h
theorem Blk.rowOther {w : World} {g k : Nat} {cs : List Value} {t : TypeId} (h : Blk w g cs t) (cs' : Array Value) (hn : g ≠ k) : Blk (w.setRow k cs') g cs t := by
  unfold Blk; rw [setRow_other w k g cs' hn]; exact h
theorem below_drewN {B : Nat} {a w : World} (h : RowKit.Below B a w) (n : Nat) : RowKit.Below B a (w.drewN n) := ⟨h.os, h.tape, h.output, h.size, h.block⟩
theorem Below.setRow {B : Nat} {a w : World} (h : RowKit.Below B a w) {g : Nat} (hg : B ≤ g) (cs : Array Value) : RowKit.Below B a (w.setRow g cs) :=
  h.trans ⟨rfl, rfl, rfl, by simp, fun k hk => setRow_other w g k cs (by omega)⟩

theorem still_of_quiet {ops : Array Oper} {w : World} {Q : Act → Prop} : ∀ (l : List Oper) (a : Act), wpQuiet P ops (fun w' => w' = w) Q l a → wpStill P ops w Q l a
  | [], _, h => h
  | o :: rest, a, h => by
    unfold wpQuiet at h
    unfold wpStill
    split
    · rename_i hw
      rw [if_pos hw] at h
      obtain ⟨v, h1, h2⟩ := h
      have h3 := h1 w rfl
      have h4 := still_of_quiet rest _ h2
      unfold Oper.quietAt at h3
      unfold Oper.still
      generalize (execOp a.eval o).run P w = r at *
      cases r with
      | ok n w' =>
        cases n <;> simp only [Oper.quietUpon] at h3 <;> simp only [Oper.stillUpon]
        case value u => obtain ⟨e1, e2⟩ := h3; subst e2; exact ⟨e1, h4⟩
        case skip => obtain ⟨e1, e2⟩ := h3; subst e2; exact ⟨e1, h4⟩
        case enter f args => exact ⟨h3.1, v, h3.2, h4⟩
      | halt x w' => simp only [Oper.quietUpon] at h3
    · rename_i hw
      rw [if_neg hw] at h
      exact still_of_quiet rest _ h
/-- A region that draws its order: a head that reads and calls quietly, a tail whose order is forced. -/
theorem region_tail {id : Nat} {Q : Exit → Act → World → Prop} {a : Act} {w : World} {l : List Oper} (n : Nat) (hm : P.follows .mixedOrders = true) (hB : Region.lexTailB .any l.toArray n = true)
    (h : wpQuiet P l.toArray (fun w' => w' = w.drew) (fun a' => wpList P l.toArray Q (l.drop n) a' w.drew) (l.take n) a) : (Code.region id l.toArray true).wp P Q a w :=
  wp_region_still_tail n hm hB (still_of_quiet _ _ h)
/-- Two variables of a statement that draws its order: what is known of them while it runs. -/
structure Two (w0 : World) (B : Nat) (d1 d2 : Bool) (t1 t2 : TypeId) (c1 c2 : List Value) (g1 g2 : Nat) (wv : World) : Prop where
  below : RowKit.Below B w0 wv
  size : B ≤ wv.heap.size
  one : d1 = true → B ≤ g1 ∧ Blk wv g1 c1 t1
  two : d2 = true → B ≤ g2 ∧ Blk wv g2 c2 t2
  apart : d1 = true → d2 = true → g1 ≠ g2
variable {w0 wv : World} {B g1 g2 : Nat} {d1 d2 : Bool} {t1 t2 : TypeId} {c1 c2 : List Value}
theorem Two.alloc1 (h : Two w0 B false d2 t1 t2 c1 c2 g1 g2 wv) (c : List Value) : Two w0 B true d2 t1 t2 c c2 wv.heap.size g2 (wv.alloc (.cells c.toArray t1)) :=
  ⟨h.below.alloc h.size _, by simp; have := h.size; omega, fun _ => ⟨h.size, by simpa using Blk.new wv c.toArray t1⟩, fun e => ⟨(h.two e).1, (h.two e).2.old _⟩, fun _ e => by have := (h.two e).2.lt; omega⟩
theorem Two.alloc2 (h : Two w0 B d1 false t1 t2 c1 c2 g1 g2 wv) (c : List Value) : Two w0 B d1 true t1 t2 c1 c g1 wv.heap.size (wv.alloc (.cells c.toArray t2)) :=
  ⟨h.below.alloc h.size _, by simp; have := h.size; omega, fun e => ⟨(h.one e).1, (h.one e).2.old _⟩, fun _ => ⟨h.size, by simpa using Blk.new wv c.toArray t2⟩, fun e _ => by have := (h.one e).2.lt; omega⟩
theorem Two.call (h : Two w0 B d1 d2 t1 t2 c1 c2 g1 g2 wv) {w1 : World} (hb : RowKit.Below wv.heap.size wv w1) : Two w0 B d1 d2 t1 t2 c1 c2 g1 g2 w1 :=
  ⟨h.below.trans (hb.mono h.size), Nat.le_trans h.size hb.size, fun e => ⟨(h.one e).1, (h.one e).2.below hb (h.one e).2.lt⟩, fun e => ⟨(h.two e).1, (h.two e).2.below hb (h.two e).2.lt⟩, h.apart⟩
theorem Two.store1 (h : Two w0 B true d2 t1 t2 c1 c2 g1 g2 wv) (c : List Value) : Two w0 B true d2 t1 t2 c c2 g1 g2 (wv.setRow g1 c.toArray) :=
  ⟨Below.setRow h.below (h.one rfl).1 _, by simp; exact h.size, fun _ => ⟨(h.one rfl).1, (h.one rfl).2.row c⟩, fun e => ⟨(h.two e).1, (h.two e).2.rowOther _ (fun e' => h.apart rfl e e'.symm)⟩, h.apart⟩
theorem Two.store2 (h : Two w0 B d1 true t1 t2 c1 c2 g1 g2 wv) (c : List Value) : Two w0 B d1 true t1 t2 c1 c g1 g2 (wv.setRow g2 c.toArray) :=
  ⟨Below.setRow h.below (h.two rfl).1 _, by simp; exact h.size, fun e => ⟨(h.one e).1, (h.one e).2.rowOther _ (h.apart e rfl)⟩, fun _ => ⟨(h.two rfl).1, (h.two rfl).2.row c⟩, h.apart⟩
section
variable {ops : Array Oper} {rest : List Oper} {o : Oper} {a : Act} {w : World} {Q : Exit → Act → World → Prop}
variable {K : Act → World → Prop}
theorem wp_alloc_arr (ty : TypeId) (ho : o.op = .alloc ty) (cs : Array Value) (hz : (P.info? ty).map (fun i => i.zero) = some (some (.agg cs)))
    (h : K (a.put o.dst (.pointer (some ⟨w.heap.size, 0, none⟩))) (w.alloc (.cells cs ty))) : o.wp P a w K Q := by
  unfold Oper.wp execOp
  have hz' : (zeroValue ty).run P w = .ok (.agg cs) w := by
    cases hq : P.info? ty with
    | none => simp [hq] at hz
    | some i => simp [hq] at hz; simp [zeroValue, typeInfo, hq, hz]
  simp only [ho, Instr.alloc, Sem.run_bind, hz', Result.andThen_ok, Sem.run_pure]
  exact h
/-- One step of a region that draws its order. -/
theorem ready_step {md : Region.Mode} {fuel : Nat} {listed : Array Bool} {i : Nat} {o : Oper} {rs : List Nat} (ho : ops[i]? = some o) (hw : Region.wanted o (yielded ops a.tmps) = true)
    (h : ∀ K : Act → World → Prop, (∀ a w, wpAny P md ops Q fuel (listed.setIfInBounds i true) a w → K a w) → o.wp P a w K Q)
    (hs : AllReady P md ops Q fuel listed a w rs) : AllReady P md ops Q fuel listed a w (i :: rs) :=
  AllReady.cons ho (fun K hK => by rw [if_pos hw]; exact h K hK) hs
/-- The same where a fact S on the memory is held. -/
theorem ready_stepH {md : Region.Mode} {S : World → Prop} {fuel : Nat} {listed : Array Bool} {i : Nat} {o : Oper} {rs : List Nat} (ho : ops[i]? = some o) (hw : Region.wanted o (yielded ops a.tmps) = true)
    (h : ∀ K : Act → World → Prop, (∀ a w, S w → wpAnyH P md ops Q S fuel (listed.setIfInBounds i true) a w → K a w) → o.wp P a w K Q)
    (hs : AllReadyH P md ops Q S fuel listed a w rs) : AllReadyH P md ops Q S fuel listed a w (i :: rs) :=
  AllReadyH.cons ho (fun K hK => by rw [if_pos hw]; exact h K (fun a w hS h' => hK.out a w hS (fun _ => h'))) hs
/-- A whole array is loaded: in whatever world holds it. -/
theorem yieldsIf_load_row {S : World → Prop} {o : Oper} {a : Act} (hw : Region.wanted o (yielded ops a.tmps) = true) (ty : TypeId) (x : Operand) (ho : o.op = .load ty x)
    (g : Nat) (hx : a.eval x = .pointer (some ⟨g, 0, none⟩)) (cs : List Value) (t : TypeId) (d : TypeDesc) (hS : ∀ w, S w → Blk w g cs t)
    (hu : P.underlying ty = some d) (hd : (match d with | .struct _ | .array _ _ => true | _ => false) = true) (hi : (P.info? ty).map (·.size) = some cs.toArray.size) : YieldsIf P ops S o (.agg cs.toArray) a :=
  .inl ⟨hw, fun w hw' => by
    unfold execOp
    simp only [ho, hx, Instr.loadAt, Instr.sureAddr, Sem.run_bind, Sem.run_pure, Result.andThen_ok, run_loadVar_row w g t ty cs.toArray (0, 0) d (hS w hw') hu hd hi]⟩
theorem wpList_alloc_arr (hgd : o.guard = none) (ty : TypeId) (ho : o.op = .alloc ty) (cs : Array Value) (hz : (P.info? ty).map (fun i => i.zero) = some (some (.agg cs)))
    (h : wpList P ops Q rest (a.put o.dst (.pointer (some ⟨w.heap.size, 0, none⟩))) (w.alloc (.cells cs ty))) : wpList P ops Q (o :: rest) a w := by
  exact wpList_plain hgd fun K hK => wp_alloc_arr ty ho cs hz (hK _ _ h)
theorem wpList_box_arr (hgd : o.guard = none) (ty : TypeId) (x : Operand) (ho : o.op = .box ty x) (cs : Array Value) (hx : a.eval x = .agg cs)
    (h : wpList P ops Q rest (a.put o.dst (.pointer (some ⟨w.heap.size, 0, none⟩))) (w.alloc (.cells cs ty))) : wpList P ops Q (o :: rest) a w := by
  refine wpList_plain hgd fun K hK => ?_
  unfold Oper.wp execOp
  simp only [ho, hx, Instr.box, Sem.run_bind, Result.andThen_ok, Sem.run_pure]
  exact hK _ _ h
theorem wpList_build' (hg : o.guard = none) (t : TypeId) (parts : Array (Nat × Operand)) (ho : o.op = .build t parts) (cs : Array Value)
    (hf : P.built t (parts.map fun (i, x) => (i, a.eval x)).toList = some cs)
    (h : wpList P ops Q rest (a.put o.dst (.agg cs)) w) : wpList P ops Q (o :: rest) a w :=
  wpList_build hg t parts ho (by rw [hf]; rfl) (by rw [hf]; exact h)
theorem run_index_arr (ty : TypeId) (cs : Array Value) (i : Int) (n : Nat) (elem : TypeId) (hu : P.underlying ty = some (.array n elem)) (d : TypeDesc) (hue : P.underlying elem = some d)
    (hna : (match d with | .struct _ | .array _ _ => true | _ => false) = false) (he : (P.info? elem).map (fun i => i.size) = some 1) (hi : 0 ≤ i ∧ i < n) (v : Value) (hv : cs[i.toNat]? = some v) (w : World) :
    (Instr.index ty (.agg cs) (.int .i64 i)).run P w = .ok v w := by
  have h2 : (sizeOf elem).run P w = .ok 1 w := by
    cases hq : P.info? elem with
    | none => simp [hq] at he
    | some j => simp [hq] at he; simp [sizeOf, typeInfo, hq, he]
  have hagg : (isAgg elem).run P w = .ok false w := by
    unfold isAgg
    rw [Sem.run_bind, run_underlying hue w]
    cases d <;> simp_all
  simp [Instr.index, asIntOf, run_underlying hu, hi, h2, part, hagg, hv]
theorem wpList_index_arr (hgd : o.guard = none) (ty : TypeId) (x ix : Operand) (ho : o.op = .index ty x ix) (cs : Array Value) (hx : a.eval x = .agg cs) (i : Int) (hi : a.eval ix = .int .i64 i)
    (n : Nat) (elem : TypeId) (hu : P.underlying ty = some (.array n elem)) (d : TypeDesc) (hue : P.underlying elem = some d)
    (hna : (match d with | .struct _ | .array _ _ => true | _ => false) = false) (he : (P.info? elem).map (fun i => i.size) = some 1) (hlt : 0 ≤ i ∧ i < n) (v : Value) (hv : cs[i.toNat]? = some v)
    (h : wpList P ops Q rest (a.put o.dst v) w) : wpList P ops Q (o :: rest) a w := by
  refine wpList_plain hgd fun K hK => ?_
  unfold Oper.wp execOp
  simp only [ho, hx, hi, Sem.run_bind, run_index_arr ty cs i n elem hu d hue hna he hlt v hv, Result.andThen_ok, Sem.run_pure]
  exact hK _ _ h
end
end Go.Proofs.Ytfoomffbjjcjjaa
