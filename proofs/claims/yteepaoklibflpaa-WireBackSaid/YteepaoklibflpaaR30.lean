/-
  The wire package's reader of items: next, number, node, count, pair.
  The wire package's reader of items, two: number, node, count, pair.
-/
import Derived.Test.YteepaoklibflpaaR29
namespace Go.Proofs.Yteepaoklibflpaa
section
set_option linter.unusedSimpArgs false
set_option linter.unusedVariables false
open Go.RowKit Sha Nte
open Fld (Itm)
/-- One block alone of those that were there is written to. -/
structure Only (gb : Nat) (w w' : World) : Prop where
  b0 : Below 0 w w'
  block : ∀ k, k < w.heap.size → k ≠ gb → w'.heap[k]? = w.heap[k]?
namespace Only
variable {gb B : Nat} {w w' w'' a : World}
theorem refl (gb : Nat) (w : World) : Only gb w w := ⟨Below.refl _ _, fun _ _ _ => rfl⟩
theorem trans (h : Only gb w w') (k : Only gb w' w'') : Only gb w w'' := ⟨h.b0.trans k.b0, fun i hi hne => (k.block i (Nat.lt_of_lt_of_le hi h.b0.size) hne).trans (h.block i hi hne)⟩
theorem next (h : Only gb w w') (hb : Below w.heap.size w' w'') : Only gb w w'' := ⟨h.b0.trans (hb.mono (Nat.zero_le _)), fun i hi hne => (hb.block i hi).trans (h.block i hi hne)⟩
theorem call (h : Only gb w w') (hb : Below w'.heap.size w' w'') : Only gb w w'' := h.next (hb.mono h.b0.size)
theorem set (h : Only gb w w') (i : Nat) (v : Value) : Only gb w (w'.setCell ⟨gb, i, none⟩ v) := ⟨h.b0.setCell (Nat.zero_le _) v, fun k hk hne => (Below.heap_setCell w' ⟨gb, i, none⟩ v k hne).trans (h.block k hk hne)⟩
theorem alloc (h : Only gb w w') (o : Obj) : Only gb w (w'.alloc o) := h.next ((Below.refl _ _).alloc h.b0.size o)
theorem row (h : Only gb w w') {g : Nat} (hg : w.heap.size ≤ g) (cs : Array Value) : Only gb w (w'.setRow g cs) := h.next (Go.Proofs.Yteepaoklibflpaa.Below.setRow (Below.refl _ _) hg cs)
theorem setNew (h : Only gb w w') {g : Nat} (hg : w.heap.size ≤ g) (i : Nat) (v : Value) : Only gb w (w'.setCell ⟨g, i, none⟩ v) := h.next ((Below.refl _ _).setCell hg v)
theorem below (h : Only gb w w') (hb : Below B a w) (hB : B ≤ gb) (hw : B ≤ w.heap.size) : Below B a w' := ⟨h.b0.os.trans hb.os, h.b0.tape.trans hb.tape, h.b0.output.trans hb.output, Nat.le_trans hb.size h.b0.size, fun k hk => (h.block k (by omega) (by omega)).trans (hb.block k hk)⟩
theorem keep (h : Only gb w w') {k : Nat} {o : Obj} (hk : w.heap[k]? = some o) (hne : k ≠ gb) : w'.heap[k]? = some o := (h.block k (Array.getElem?_eq_some_iff.1 hk).1 hne).trans hk
theorem blk (h : Only gb w w') {g : Nat} {cs : List Value} {t : TypeId} (hk : Blk w g cs t) (hne : g ≠ gb) : Blk w' g cs t := h.keep hk hne
end Only
theorem LeftAt.tail {w : World} {p : Option Addr} {n c : Nat} {y : Hdr} {ys : List Hdr} (h : LeftAt w p n c (y :: ys)) : LeftAt w (if c = 1 then p else p.map (·.add 34)) ys.length (c - 1) ys := by
  have h1 := h.len
  have h2 := h.le
  have h3 := h.max
  rw [List.length_cons] at h1
  refine ⟨rfl, by omega, by omega, fun e => ?_, ?_, fun z hz => h.good z (List.mem_cons_of_mem _ hz)⟩
  · split at e
    · omega
    · cases p with
      | none => have := h.nil rfl; omega
      | some a => simp at e
  · split
    · have : ys = [] := List.eq_nil_of_length_eq_zero (by omega)
      subst this
      exact At.nil _ _
    · have hl : (cellsI y).length = 34 := icells_length (h.good y (List.mem_cons_self ..)).ok _ _
      obtain ⟨b, off, rfl, hcell⟩ := h.at_.addr (by rw [List.flatMap_cons, List.length_append, hl]; omega)
      have := At.back (w := w) (b := b) (off := off) (xs := cellsI y) (ys := ys.flatMap cellsI) (Or.inr ⟨b, off, rfl, by simpa [List.flatMap_cons] using hcell⟩)
      rw [hl] at this
      simpa [Addr.add_mid] using this
theorem LeftAt.first {w : World} {p : Option Addr} {n c : Nat} {y : Hdr} {ys : List Hdr} (h : LeftAt w p n c (y :: ys)) : ∃ b off, p = some ⟨b, off, none⟩ ∧ w.rangeAt b off (cellsI y) := by
  have hl : (cellsI y).length = 34 := icells_length (h.good y (List.mem_cons_self ..)).ok _ _
  obtain ⟨b, off, rfl, hcell⟩ := h.at_.addr (by rw [List.flatMap_cons, List.length_append, hl]; omega)
  refine ⟨b, off, rfl, fun j v hj => hcell j v ?_⟩
  rw [List.flatMap_cons, List.getElem?_append_left (List.getElem?_eq_some_iff.1 hj).1]
  exact hj
/-- A reader: what it has left, and whether something was wrong; behind it other cells. -/
structure Rd (w0 : World) (gb : Nat) (ys : List Hdr) (wr : Bool) (cs : List Value) (w : World) : Prop where
  ex : ∃ p n c, LeftAt w0 p n c ys ∧ Blk w gb (.slice p n c :: .bool wr :: cs) 84
  below : Below w0.heap.size w0 w
  base : w0.heap.size ≤ gb
theorem Rd.on {w0 w w' : World} {gb : Nat} {ys : List Hdr} {wr : Bool} {cs : List Value} (h : Rd w0 gb ys wr cs w) (hb : Below w.heap.size w w') : Rd w0 gb ys wr cs w' := by
  obtain ⟨p, n, c, h1, h2⟩ := h.ex
  exact ⟨⟨p, n, c, h1, h2.below hb h2.lt⟩, h.below.trans (hb.mono h.below.size), h.base⟩
theorem Rd.lt {w0 w : World} {gb : Nat} {ys : List Hdr} {wr : Bool} {cs : List Value} (h : Rd w0 gb ys wr cs w) : gb < w.heap.size := by
  obtain ⟨p, n, c, _, h2⟩ := h.ex
  exact h2.lt
theorem Rd.setWrong {w0 w : World} {gb : Nat} {ys : List Hdr} {wr : Bool} {cs : List Value} (h : Rd w0 gb ys wr cs w) (b : Bool) : Rd w0 gb ys b cs (w.setCell ⟨gb, 1, none⟩ (.bool b)) := by
  obtain ⟨p, n, c, h1, h2⟩ := h.ex
  exact ⟨⟨p, n, c, h1, h2.set 1 _⟩, h.below.setCell h.base _, h.base⟩
theorem Rd.setCell {w0 w : World} {gb : Nat} {ys : List Hdr} {wr : Bool} {cs : List Value} (h : Rd w0 gb ys wr cs w) (i : Nat) (v : Value) : Rd w0 gb ys wr (cs.set i v) (w.setCell ⟨gb, i + 2, none⟩ v) := by
  obtain ⟨p, n, c, h1, h2⟩ := h.ex
  exact ⟨⟨p, n, c, h1, h2.set (i + 2) _⟩, h.below.setCell h.base _, h.base⟩
theorem Rd.wrong {w0 w : World} {gb : Nat} {ys : List Hdr} {wr : Bool} {cs : List Value} (h : Rd w0 gb ys wr cs w) : w.cell? ⟨gb, 1, none⟩ = some (.bool wr) ∧ w.frozen? ⟨gb, 1, none⟩ = false := by
  obtain ⟨p, n, c, _, h2⟩ := h.ex
  exact ⟨h2.cell 1, h2.free 1⟩
theorem Rd.cell {w0 w : World} {gb : Nat} {ys : List Hdr} {wr : Bool} {cs : List Value} (h : Rd w0 gb ys wr cs w) (i : Nat) {v : Value} (hv : cs[i]? = some v) : w.cell? ⟨gb, i + 2, none⟩ = some v ∧ w.frozen? ⟨gb, i + 2, none⟩ = false := by
  obtain ⟨p, n, c, _, h2⟩ := h.ex
  exact ⟨(h2.cell (i + 2)).trans hv, h2.free (i + 2)⟩
section
variable (ρ : Operand → Value) (dst : Option Tmp) (ty : TypeId) (pos : String) (after : Array Edge) (guard : Option (Nat × Bool)) (x y : Operand)
theorem execOp_nloadItem : execOp ρ { dst := dst, op := .load 98 x, type := ty, pos := pos, after := after, guard := guard } = loadOp 98 (ρ x) := by unfold loadOp; rfl
theorem execOp_nallocItem : execOp ρ { dst := dst, op := .alloc 98, type := ty, pos := pos, after := after, guard := guard } = allocOp 98 := by unfold allocOp; rfl
theorem execOp_nstoreItem : execOp ρ { dst := dst, op := .store 98 x y, type := ty, pos := pos, after := after, guard := guard } = storeOp 98 (ρ x) (ρ y) := by unfold storeOp; rfl
end
def iz0 : Itm := ⟨0, [], Fld.zero32⟩
theorem iz0_ok : iz0.ok := ⟨by simp [iz0], by simp [iz0], by simp [iz0], nz32_ok.1, nz32_ok.2⟩
theorem item_zero15 : (Try.prog.info? 98).map (fun i => i.zero) = some (some (.agg (icells iz0 none 0).toArray)) := by unfold icells; kernel_rfl
theorem item_sz15 {x : Itm} (hx : x.ok) (q : Option Addr) (c : Nat) : (Try.prog.info? 98).map (fun i => i.size) = some (icells x q c).toArray.size := by
  rw [item_size, List.size_toArray, icells_length hx]
theorem item_al15 (x : Itm) (q : Option Addr) (c : Nat) : (icells x q c).toArray.all (·.oneCell') = true := by
  rw [Array.all_eq_true_iff_forall_mem]; intro v hv; exact icells_one x q c v (by simpa using hv)
theorem item_eq15 {x y : Itm} (hx : x.ok) (hy : y.ok) (q r : Option Addr) (c d : Nat) : (icells x q c).toArray.size = (icells y r d).toArray.size := by
  rw [List.size_toArray, List.size_toArray, icells_length hx, icells_length hy]
theorem alloc_item15 (w : World) : (allocOp 98).run Try.prog w = .ok (.value (.pointer (some ⟨w.heap.size, 0, none⟩))) (w.alloc (.cells (icells iz0 none 0).toArray 98)) := run_allocOp w item_zero15
theorem store_item15 {w : World} {g : Nat} {x y : Itm} {q r : Option Addr} {c d : Nat} (h : Blk w g (icells y r d) 98) (hy : y.ok) (hx : x.ok) : (storeOp 98 (.pointer (some ⟨g, 0, none⟩)) (.agg (icells x q c).toArray)).run Try.prog w = .ok .skip (w.setRow g (icells x q c).toArray) :=
  run_storeOp h (item_sz15 hx q c) (item_eq15 hy hx ..) (item_al15 ..)
theorem store_new15 (w : World) {x : Itm} {q : Option Addr} {c : Nat} (hx : x.ok) : (storeOp 98 (.pointer (some ⟨w.heap.size, 0, none⟩)) (.agg (icells x q c).toArray)).run Try.prog (w.alloc (.cells (icells iz0 none 0).toArray 98)) = .ok .skip (w.alloc (.cells (icells x q c).toArray 98)) :=
  run_storeNew w (item_sz15 hx q c) (item_eq15 iz0_ok hx ..) (item_al15 ..)
theorem load_item15 {w : World} {g o : Nat} {x : Itm} {q : Option Addr} {c : Nat} (hx : x.ok) (hr : w.rangeAt g o (icells x q c)) : (loadOp 98 (.pointer (some ⟨g, o, none⟩))).run Try.prog w = .ok (.value (.agg (icells x q c).toArray)) w :=
  run_loadOp (run_loadAt_mid w g o 98 _ _ hr Try.underlying98 rfl (by rw [item_size, icells_length hx]))
def RDone15 (w0 : World) (gb : Nat) (ys : List Hdr) (wr : Bool) (cs : List Value) (w : World) (v : Value) (e : Ending) (w' : World) : Prop :=
  e = .returned v ∧ Rd w0 gb ys wr cs w' ∧ Only gb w w'
section
attribute [local go_sem ↓] execOp_nloadItem execOp_nallocItem execOp_nstoreItem
set_option maxRecDepth 100000 in
set_option maxHeartbeats 2000000 in
theorem wnext_any (w0 : World) (gb : Nat) (y : Hdr) (ys : List Hdr) (wr : Bool) (cs : List Value) (w : World) (h : Rd w0 gb (y :: ys) wr cs w) :
    Calls Try.prog 52 #[.pointer (some ⟨gb, 0, none⟩)] w (RDone15 w0 gb ys wr cs w (.agg (cellsI y).toArray)) := by
  obtain ⟨p, n, c, hL, hK⟩ := h.ex
  have hy := (hL.good y (List.mem_cons_self ..)).ok
  have HT := Lib.hid hL.tail
  obtain ⟨b, off, hp, hr⟩ := hL.first
  have hn : n = ys.length + 1 := hL.len
  have hcut := fun w => run_cut1 (P := Try.prog) Try.underlying55 item_size p (ys.length + 1) c (by omega) w
  obtain ⟨p', hp'⟩ : ∃ p', p' = (if c = 1 then p else p.map (·.add 34)) := ⟨_, rfl⟩
  rw [← hp'] at hcut HT
  rw [Nat.add_sub_cancel] at hcut
  subst hp hn
  have HCUT := Lib.hid hcut
  obtain ⟨m, hm⟩ : ∃ m, m = ys.length := ⟨_, rfl⟩
  rw [← hm] at HCUT HT hK
  obtain ⟨yi, yq, yc⟩ := y
  have hr : w0.rangeAt b off (icells yi yq yc) := hr
  have hy : yi.ok := hy
  have hj : (0 : Int) ≤ 0 ∧ (0 : Int) < ((m + 1 : Nat) : Int) := by omega
  show Calls Try.prog 52 #[.pointer (some ⟨gb, 0, none⟩)] w (RDone15 w0 gb ys wr cs w (.agg (icells yi yq yc).toArray))
  have HB := Lib.hid h.below
  have HBA := Lib.hid h.base
  have hlt := hK.lt
  -- the worlds ahead
  have al0 := alloc_item15 w
  have B1 := Lib.hid ((Below.refl _ w).alloc (Nat.le_refl _) (.cells (icells iz0 none 0).toArray 98))
  have N1 := Lib.hid (show Blk (w.alloc (.cells (icells iz0 none 0).toArray 98)) w.heap.size (icells iz0 none 0) 98 from Blk.new w (icells iz0 none 0).toArray 98)
  have O1 := Lib.hid ((Only.refl gb w).alloc (.cells (icells iz0 none 0).toArray 98))
  have K1 := Lib.hid (hK.old (.cells (icells iz0 none 0).toArray 98))
  have hs1 : (w.alloc (.cells (icells iz0 none 0).toArray 98)).heap.size = w.heap.size + 1 := World.size_alloc ..
  obtain ⟨w1, hw1⟩ : ∃ w1, w1 = w.alloc (.cells (icells iz0 none 0).toArray 98) := ⟨_, rfl⟩
  rw [← hw1] at al0 B1 N1 O1 K1 hs1
  have b0 : w1.cell? ⟨gb, 0, none⟩ = some (.slice (some ⟨b, off, none⟩) (m + 1) c) := K1.out.cell 0
  have l1 := load_item15 hy (rangeN_on hr (HB.out.trans (B1.out.mono HB.out.size)))
  have al1 := alloc_item15 w1
  have st1 := store_new15 w1 (q := yq) (c := yc) hy
  have B2 := Lib.hid ((Below.refl _ w1).alloc (Nat.le_refl _) (.cells (icells yi yq yc).toArray 98))
  have N2 := Lib.hid (show Blk (w1.alloc (.cells (icells yi yq yc).toArray 98)) w1.heap.size (icells yi yq yc) 98 from Blk.new w1 (icells yi yq yc).toArray 98)
  obtain ⟨w2, hw2⟩ : ∃ w2, w2 = w1.alloc (.cells (icells yi yq yc).toArray 98) := ⟨_, rfl⟩
  rw [← hw2] at st1 B2 N2
  have K2 := Lib.hid (K1.out.below B2.out K1.out.lt)
  have M2 := Lib.hid (N1.out.below B2.out N1.out.lt)
  have O2 := Lib.hid (O1.out.call B2.out)
  have c0 : w2.cell? ⟨gb, 0, none⟩ = some (.slice (some ⟨b, off, none⟩) (m + 1) c) := K2.out.cell 0
  have f0 : w2.frozen? ⟨gb, 0, none⟩ = false := K2.out.free 0
  have N3 := Lib.hid (N2.out.setOther ⟨gb, 0, none⟩ (.slice p' m (c - 1)) (by have := B1.out.size; simp only; omega))
  have M3 := Lib.hid (M2.out.setOther ⟨gb, 0, none⟩ (.slice p' m (c - 1)) (by simp only; omega))
  have K3 := Lib.hid (show Blk (w2.setCell ⟨gb, 0, none⟩ (.slice p' m (c - 1))) gb (.slice p' m (c - 1) :: .bool wr :: cs) 84 from K2.out.set 0 (.slice p' m (c - 1)))
  have O3 := Lib.hid (O2.out.set 0 (.slice p' m (c - 1)))
  obtain ⟨w3, hw3⟩ : ∃ w3, w3 = w2.setCell ⟨gb, 0, none⟩ (.slice p' m (c - 1)) := ⟨_, rfl⟩
  rw [← hw3] at N3 M3 K3 O3
  have l3 := load_item15 (o := 0) hy N3.out.range
  have s3 := store_item15 (q := yq) (c := yc) M3.out iz0_ok hy
  have K4 := Lib.hid (K3.out.rowOther (icells yi yq yc).toArray (k := w.heap.size) (by omega))
  have M4 := Lib.hid (show Blk (w3.setRow w.heap.size (icells yi yq yc).toArray) w.heap.size (icells yi yq yc) 98 from M3.out.row (icells yi yq yc))
  have O4 := Lib.hid (O3.out.row (Nat.le_refl _) (icells yi yq yc).toArray)
  have HZ := Lib.hid (item_sz15 hy yq yc)
  rw [hw3] at l3 s3 K4 M4 O4
  have HWS := Lib.hid h.lt
  clear hs1 h hK hr hL hm hw1 hw2 hp' hcut hy B1 N1 O1 K1 B2 N2 K2 M2 O2 N3 M3 K3 O3 hw3
  go_enter Try.func52, Try.ntmps52
  go_wp2_with (refine wpList_slice_run rfl 55 (.tmp 14) _ _ rfl _ (HCUT.out _) ?_)
  refine bodyPost_ret (v := .agg (icells yi yq yc).toArray) (results_cell_row rfl _ _ _ _ _ _ _ rfl M4.out (Try.underlying98) rfl HZ.out) rfl ?_
  exact ⟨rfl, ⟨⟨p', m, c - 1, HT.out, K4.out⟩, O4.out.below HB.out HBA.out HB.out.size, HBA.out⟩, O4.out⟩
end
end
section
set_option linter.unusedSimpArgs false
set_option linter.unusedVariables false
open Go.RowKit Sha Nte
open Fld (Itm)
@[irreducible] def fldOp15 (t : TypeId) (v : Value) (i : Nat) : Sem Next := do pure (.value (← Instr.field t v i))
theorem execOp_fld15 (ρ : Operand → Value) (dst : Option Tmp) (x : Operand) (i : Nat) (ty : TypeId) (pos : String) (after : Array Edge) (guard : Option (Nat × Bool)) :
    execOp ρ { dst := dst, op := .field 98 x i, type := ty, pos := pos, after := after, guard := guard } = fldOp15 98 (ρ x) i := by unfold fldOp15; rfl
theorem fld_N (y : Hdr) (w : World) : (fldOp15 98 (.agg (cellsI y).toArray) 0).run Try.prog w = .ok (.value (.int .i64 y.1.N)) w := by
  unfold fldOp15 cellsI icells
  simp [go_sem, Instr.field, asAgg]
theorem fld_B (y : Hdr) (w : World) : (fldOp15 98 (.agg (cellsI y).toArray) 1).run Try.prog w = .ok (.value (.slice y.2.1 y.1.B.length y.2.2)) w := by
  unfold fldOp15 cellsI icells
  simp [go_sem, Instr.field, asAgg]
theorem fld_D (y : Hdr) (hy : y.1.ok) (w : World) : (fldOp15 98 (.agg (cellsI y).toArray) 2).run Try.prog w = .ok (.value (.agg (y.1.D.map v8).toArray)) w := by
  have hl := hy.len
  unfold fldOp15 cellsI icells
  simp [go_sem, Instr.field, asAgg]
  exact List.take_of_length_le (by simp [hl])
section
attribute [local go_sem ↓] execOp_fld15
set_option maxRecDepth 100000 in
set_option maxHeartbeats 2000000 in
theorem wnumber_any (lo hi : Int) (w0 : World) (gb : Nat) (y : Hdr) (ys : List Hdr) (wr : Bool) (cs : List Value) (w : World) (h : Rd w0 gb (y :: ys) wr cs w) :
    Calls Try.prog 71 #[.pointer (some ⟨gb, 0, none⟩), .int .i64 lo, .int .i64 hi] w (RDone15 w0 gb ys (wr || decide (y.1.N < lo) || decide (hi < y.1.N)) cs w (.int .i64 y.1.N)) := by
  have NX := Lib.hid (wnext_any w0 gb y ys wr cs w h)
  have hf := fun w => fld_N y w
  generalize (Value.agg (cellsI y).toArray) = vy at *
  generalize y.1.N = n at *
  clear h
  obtain ⟨b, hb0⟩ : ∃ b, b = (wr || decide (n < lo) || decide (hi < n)) := ⟨_, rfl⟩
  rw [← hb0]
  have HBQ := Lib.hid hb0
  clear hb0
  go_enter Try.func71, Try.ntmps71
  go_wp2_with fail
  refine NX.out.mono ?_
  rintro e w1 ⟨rfl, hr1, ho1⟩
  have HR := Lib.hid hr1
  have HO := Lib.hid ho1
  obtain ⟨c1, f1⟩ := hr1.wrong
  clear hr1 ho1 NX
  have HS := Lib.hid (HR.out.setWrong b)
  have HOS := Lib.hid (HO.out.set 1 (.bool b))
  cases wr with
  | true =>
    have hb : b = true := by rw [HBQ.out]; rfl
    clear HBQ
    subst hb
    go_wp2_with fail
    go_ret
    exact ⟨rfl, HS.out, HOS.out⟩
  | false =>
    by_cases hlo : n < lo
    · have t1 : decide (n < lo) = true := decide_eq_true hlo
      have hb : b = true := by rw [HBQ.out, t1]; rfl
      clear HBQ
      subst hb
      go_wp2_with fail
      go_ret
      exact ⟨rfl, HS.out, HOS.out⟩
    · have t1 : decide (n < lo) = false := decide_eq_false hlo
      by_cases hhi : hi < n
      · have t2 : decide (hi < n) = true := decide_eq_true hhi
        have hb : b = true := by rw [HBQ.out, t1, t2]; rfl
        clear HBQ
        subst hb
        go_wp2_with fail
        go_ret
        exact ⟨rfl, HS.out, HOS.out⟩
      · have t2 : decide (hi < n) = false := decide_eq_false hhi
        have hb : b = false := by rw [HBQ.out, t1, t2]; rfl
        clear HBQ
        subst hb
        go_wp2_with fail
        go_ret
        exact ⟨rfl, HS.out, HOS.out⟩
end
theorem not_node (n : Int) : (decide (n < 1) || decide (64 < n)) = !decide (nodeOk n) := by
  by_cases h : nodeOk n
  · have h1 : ¬ n < 1 := by unfold nodeOk at h; omega
    have h2 : ¬ 64 < n := by unfold nodeOk at h; omega
    simp [h, h1, h2]
  · have h1 : n < 1 ∨ 64 < n := by unfold nodeOk at h; omega
    rcases h1 with h1 | h1 <;> simp [h, h1]
theorem not_set (n : Int) : (decide (n < 1) || decide (2147483647 < n)) = !decide (setOk n) := by
  by_cases h : setOk n
  · have h1 : ¬ n < 1 := by unfold setOk at h; omega
    have h2 : ¬ 2147483647 < n := by unfold setOk at h; omega
    simp [h, h1, h2]
  · have h1 : n < 1 ∨ 2147483647 < n := by unfold setOk at h; omega
    rcases h1 with h1 | h1 <;> simp [h, h1]
theorem wnode_any (w0 : World) (gb : Nat) (y : Hdr) (ys : List Hdr) (wr : Bool) (cs : List Value) (w : World) (h : Rd w0 gb (y :: ys) wr cs w) :
    Calls Try.prog 53 #[.pointer (some ⟨gb, 0, none⟩)] w (RDone15 w0 gb ys (wr || !decide (nodeOk y.1.N)) cs w (.int .i64 y.1.N)) := by
  have NX := Lib.hid (wnumber_any 1 64 w0 gb y ys wr cs w h)
  rw [Bool.or_assoc, not_node] at NX
  generalize y.1.N = n at *
  clear h
  go_enter Try.func53, Try.ntmps53
  go_wp2_with fail
  refine NX.out.mono ?_
  rintro e w1 ⟨rfl, hr1, ho1⟩
  have HR := Lib.hid hr1
  have HO := Lib.hid ho1
  clear hr1 ho1 NX
  go_wp2_with fail
  go_ret
  exact ⟨rfl, HR.out, HO.out⟩
theorem wcount_any (w0 : World) (gb : Nat) (y : Hdr) (ys : List Hdr) (wr : Bool) (cs : List Value) (w : World) (h : Rd w0 gb (y :: ys) wr cs w) :
    Calls Try.prog 72 #[.pointer (some ⟨gb, 0, none⟩)] w (RDone15 w0 gb ys (wr || !decide (setOk y.1.N)) cs w (.int .i64 y.1.N)) := by
  have NX := Lib.hid (wnumber_any 1 2147483647 w0 gb y ys wr cs w h)
  rw [Bool.or_assoc, not_set] at NX
  generalize y.1.N = n at *
  clear h
  go_enter Try.func72, Try.ntmps72
  go_wp2_with fail
  refine NX.out.mono ?_
  rintro e w1 ⟨rfl, hr1, ho1⟩
  have HR := Lib.hid hr1
  have HO := Lib.hid ho1
  clear hr1 ho1 NX
  go_wp2_with fail
  go_ret
  exact ⟨rfl, HR.out, HO.out⟩
section
variable (ρ : Operand → Value) (dst : Option Tmp) (ty : TypeId) (pos : String) (after : Array Edge) (guard : Option (Nat × Bool)) (x y : Operand)
theorem execOp_allocBall15 : execOp ρ { dst := dst, op := .alloc 25, type := ty, pos := pos, after := after, guard := guard } = allocOp 25 := by unfold allocOp; rfl
theorem execOp_storeBall15 : execOp ρ { dst := dst, op := .store 25 x y, type := ty, pos := pos, after := after, guard := guard } = storeOp 25 (ρ x) (ρ y) := by unfold storeOp; rfl
end
theorem execOp_makeBall15 (ρ : Operand → Value) (dst : Option Tmp) (parts : Array (Nat × Operand)) (ty : TypeId) (pos : String) (after : Array Edge) (guard : Option (Nat × Bool)) :
    execOp ρ { dst := dst, op := .build 25 parts, type := ty, pos := pos, after := after, guard := guard } = makeOp 25 (parts.map fun (i, x) => (i, ρ x)) := by unfold makeOp; rfl
theorem make_ball15 (a b : Int) (w : World) : (makeOp 25 #[(0, .int .i64 a), (1, .int .i64 b)]).run Try.prog w = .ok (.value (.agg #[nic a, nic b])) w := run_makeOp w (by kernel_rfl)
theorem make_ball0 (w : World) : (makeOp 25 #[]).run Try.prog w = .ok (.value (.agg #[nic 0, nic 0])) w := run_makeOp w (by kernel_rfl)
theorem ball_zero15 : (Try.prog.info? 25).map (fun i => i.zero) = some (some (.agg #[nic 0, nic 0])) := by kernel_rfl
theorem alloc_ball15 (w : World) : (allocOp 25).run Try.prog w = .ok (.value (.pointer (some ⟨w.heap.size, 0, none⟩))) (w.alloc (.cells #[nic 0, nic 0] 25)) := run_allocOp w ball_zero15
theorem ball_sz15 (a b : Int) : (Try.prog.info? 25).map (fun i => i.size) = some (#[nic a, nic b] : Array Value).size := by rw [ball_size]; rfl
theorem store_ball15 (w : World) (a b : Int) : (storeOp 25 (.pointer (some ⟨w.heap.size, 0, none⟩)) (.agg #[nic a, nic b])).run Try.prog (w.alloc (.cells #[nic 0, nic 0] 25)) = .ok .skip (w.alloc (.cells #[nic a, nic b] 25)) :=
  run_storeNew w (ball_sz15 a b) rfl (by simp [Value.oneCell'])
theorem store_ballO {w : World} {g : Nat} {a b c d : Int} (h : Blk w g [nic c, nic d] 25) : (storeOp 25 (.pointer (some ⟨g, 0, none⟩)) (.agg #[nic a, nic b])).run Try.prog w = .ok .skip (w.setRow g #[nic a, nic b]) :=
  run_storeOp (old := #[nic c, nic d]) h (ball_sz15 a b) rfl (by simp [Value.oneCell'])
theorem load_ballB {w : World} {g : Nat} {a b : Int} (h : Blk w g [nic a, nic b] 25) : (loadOp 25 (.pointer (some ⟨g, 0, none⟩))).run Try.prog w = .ok (.value (.agg #[nic a, nic b])) w :=
  run_loadRow (cs := #[nic a, nic b]) h Try.underlying25 rfl (by rw [ball_size]; rfl)
theorem not_pair (wr : Bool) (a b : Int) : (((((wr || decide (a < 0)) || decide (2147483647 < a)) || decide (b < 0)) || decide (64 < b)) || ((a == 0) != (b == 0))) = (wr || !decide (pairOk a b)) := by
  cases wr
  · by_cases h : pairOk a b
    · have h1 : ¬ a < 0 := by unfold pairOk at h; omega
      have h2 : ¬ 2147483647 < a := by unfold pairOk at h; omega
      have h3 : ¬ b < 0 := by unfold pairOk at h; omega
      have h4 : ¬ 64 < b := by unfold pairOk at h; omega
      have h5 : a = 0 ↔ b = 0 := h.2.2
      by_cases h6 : b = 0
      · have e1 : (a == 0) = true := beq_iff_eq.2 (h5.2 h6)
        have e2 : (b == 0) = true := beq_iff_eq.2 h6
        clear h5 h6
        simp [h, h1, h2, h3, h4, e1, e2]
      · have e1 : (a == 0) = false := beq_eq_false_iff_ne.2 (fun e => h6 (h5.1 e))
        have e2 : (b == 0) = false := beq_eq_false_iff_ne.2 h6
        clear h5 h6
        simp [h, h1, h2, h3, h4, e1, e2]
    · have h1 : a < 0 ∨ 2147483647 < a ∨ b < 0 ∨ 64 < b ∨ (a = 0 ∧ b ≠ 0) ∨ (a ≠ 0 ∧ b = 0) := by unfold pairOk at h; omega
      rcases h1 with h1 | h1 | h1 | h1 | ⟨h1, h2⟩ | ⟨h1, h2⟩
      · simp [h, h1]
      · simp [h, h1]
      · simp [h, h1]
      · simp [h, h1]
      · have e1 : (a == 0) = true := beq_iff_eq.2 h1
        have e2 : (b == 0) = false := beq_eq_false_iff_ne.2 h2
        clear h1 h2
        simp [h, e1, e2]
      · have e1 : (a == 0) = false := beq_eq_false_iff_ne.2 h1
        have e2 : (b == 0) = true := beq_iff_eq.2 h2
        clear h1 h2
        simp [h, e1, e2]
  · rfl
section
attribute [local go_sem ↓] execOp_allocBall15 execOp_storeBall15 execOp_loadBall execOp_makeBall15
set_option maxRecDepth 100000 in
set_option maxHeartbeats 4000000 in
theorem wpair_any (w0 : World) (gb : Nat) (y z : Hdr) (ys : List Hdr) (wr : Bool) (cs : List Value) (w : World) (h : Rd w0 gb (y :: z :: ys) wr cs w) :
    Calls Try.prog 73 #[.pointer (some ⟨gb, 0, none⟩)] w (RDone15 w0 gb ys (wr || !decide (pairOk y.1.N z.1.N)) cs w (.agg #[nic y.1.N, nic z.1.N])) := by
  have al0 := alloc_ball15 w
  have hlt := h.lt
  have B1 := Lib.hid ((Below.refl _ w).alloc (Nat.le_refl _) (.cells #[nic 0, nic 0] 25))
  have N1 := Lib.hid (show Blk (w.alloc (.cells #[nic 0, nic 0] 25)) w.heap.size [nic 0, nic 0] 25 from Blk.new w #[nic 0, nic 0] 25)
  have R1 := Lib.hid (h.on B1.out)
  have O1 := Lib.hid ((Only.refl gb w).alloc (.cells #[nic 0, nic 0] 25))
  obtain ⟨w1, hw1⟩ : ∃ w1, w1 = w.alloc (.cells #[nic 0, nic 0] 25) := ⟨_, rfl⟩
  rw [← hw1] at al0 B1 N1 R1 O1
  have NP := Lib.hid (fun w r => wnumber_any 0 2147483647 w0 gb y (z :: ys) wr cs w r)
  have NQ := Lib.hid (fun w r => wnumber_any 0 64 w0 gb z ys (wr || decide (y.1.N < 0) || decide (2147483647 < y.1.N)) cs w r)
  have HP := Lib.hid (not_pair wr y.1.N z.1.N)
  generalize y.1.N = a at *
  generalize z.1.N = b at *
  have HW := Lib.hid (show w.heap.size ≠ gb by omega)
  have HWS := Lib.hid (Nat.le_refl w.heap.size)
  obtain ⟨gn, hgn⟩ : ∃ gn, gn = w.heap.size := ⟨_, rfl⟩
  rw [← hgn] at al0 N1 HW
  have HGN := Lib.hid hgn
  obtain ⟨t, ht⟩ : ∃ t, t = (wr || !decide (pairOk a b)) := ⟨_, rfl⟩
  rw [← ht] at HP ⊢
  have HB0 := Lib.hid h.below.size
  clear hw1 h hlt hgn ht
  go_enter Try.func73, Try.ntmps73
  go_wp2_with fail
  refine (NP.out _ R1.out).mono ?_
  rintro e w2 ⟨rfl, hr2, ho2⟩
  have R2 := Lib.hid hr2
  have O2 := Lib.hid ho2
  clear hr2 ho2 NP
  go_wp2_with fail
  refine (NQ.out _ R2.out).mono ?_
  rintro e w3 ⟨rfl, hr3, ho3⟩
  have R3 := Lib.hid hr3
  have O3 := Lib.hid (O1.out.trans (O2.out.trans ho3))
  have N3 := Lib.hid ((O2.out.trans ho3).blk N1.out HW.out)
  clear hr3 ho3 NQ
  have mk := fun w => make_ball15 a b w
  have al3 := alloc_ball15 w3
  have st3 := store_ball15 w3 a b
  have B4 := Lib.hid ((Below.refl _ w3).alloc (Nat.le_refl _) (.cells #[nic a, nic b] 25))
  have M4 := Lib.hid (show Blk (w3.alloc (.cells #[nic a, nic b] 25)) w3.heap.size [nic a, nic b] 25 from Blk.new w3 #[nic a, nic b] 25)
  have HG3 := Lib.hid (show w3.heap.size ≠ gb by have := R3.out.lt; omega)
  obtain ⟨gm, hgm⟩ : ∃ gm, gm = w3.heap.size := ⟨_, rfl⟩
  obtain ⟨w4, hw4⟩ : ∃ w4, w4 = w3.alloc (.cells #[nic a, nic b] 25) := ⟨_, rfl⟩
  rw [← hw4] at st3 B4 M4
  rw [← hgm] at al3 st3 M4 HG3
  have R4 := Lib.hid (R3.out.on B4.out)
  have O4 := Lib.hid (O3.out.call B4.out)
  have N4 := Lib.hid (N3.out.below B4.out N3.out.lt)
  obtain ⟨c1, f1⟩ := R4.out.wrong
  have m0 : w4.cell? ⟨gm, 0, none⟩ = some (nic a) := M4.out.cell 0
  have m1 : w4.cell? ⟨gm, 1, none⟩ = some (nic b) := M4.out.cell 1
  have lm := load_ballB (M4.out.setOther ⟨gb, 1, none⟩ (.bool t) HG3.out)
  have sm := store_ballO (a := a) (b := b) (N4.out.setOther ⟨gb, 1, none⟩ (.bool t) HW.out)
  have M5 := Lib.hid (show Blk ((w4.setCell ⟨gb, 1, none⟩ (.bool t)).setRow gn #[nic a, nic b]) gn [nic a, nic b] 25 from (N4.out.setOther ⟨gb, 1, none⟩ (.bool t) HW.out).row [nic a, nic b])
  have O5 := Lib.hid ((O4.out.set 1 (.bool t)).row (g := gn) (by rw [HGN.out]; exact Nat.le_refl _) #[nic a, nic b])
  have R5 := Lib.hid (show Rd w0 gb ys t cs ((w4.setCell ⟨gb, 1, none⟩ (.bool t)).setRow gn #[nic a, nic b]) from by
    obtain ⟨⟨p, n, c, h1, h2⟩, h3, h4⟩ := R4.out.setWrong t
    exact ⟨⟨p, n, c, h1, h2.rowOther _ (Ne.symm HW.out)⟩, Go.Proofs.Yteepaoklibflpaa.Below.setRow h3 (by rw [HGN.out]; exact HB0.out) _, h4⟩)
  clear hw4 hgm R4 O4 N4 M4 B4 N3 O3 R3 O1 N1 R1 B1 R2 O2
  obtain ⟨q, hq⟩ : ∃ q, q = (wr || decide (a < 0) || decide (2147483647 < a) || decide (b < 0) || decide (64 < b)) := ⟨_, rfl⟩
  rw [← hq] at c1 HP
  clear hq
  cases q with
  | true =>
    have ht : t = true := HP.out.symm
    subst ht
    clear HP
    go_wp2_with fail
    refine bodyPost_ret (v := .agg #[nic a, nic b]) (results_cell_row rfl _ _ _ _ _ _ _ rfl M5.out (Try.underlying25) rfl (ball_sz15 a b)) rfl ?_
    exact ⟨rfl, R5.out, O5.out⟩
  | false =>
    have HP2 := Lib.hid (show ((a == 0) != (b == 0)) = t from HP.out)
    clear HP
    cases h1 : (a == 0) <;> cases h2 : (b == 0)
    · have ht : t = false := by have := HP2.out; rw [h1, h2] at this; exact this.symm
      subst ht
      clear HP2
      go_wp2_with fail
      refine bodyPost_ret (v := .agg #[nic a, nic b]) (results_cell_row rfl _ _ _ _ _ _ _ rfl M5.out (Try.underlying25) rfl (ball_sz15 a b)) rfl ?_
      exact ⟨rfl, R5.out, O5.out⟩
    · have ht : t = true := by have := HP2.out; rw [h1, h2] at this; exact this.symm
      subst ht
      clear HP2
      go_wp2_with fail
      refine bodyPost_ret (v := .agg #[nic a, nic b]) (results_cell_row rfl _ _ _ _ _ _ _ rfl M5.out (Try.underlying25) rfl (ball_sz15 a b)) rfl ?_
      exact ⟨rfl, R5.out, O5.out⟩
    · have ht : t = true := by have := HP2.out; rw [h1, h2] at this; exact this.symm
      subst ht
      clear HP2
      go_wp2_with fail
      refine bodyPost_ret (v := .agg #[nic a, nic b]) (results_cell_row rfl _ _ _ _ _ _ _ rfl M5.out (Try.underlying25) rfl (ball_sz15 a b)) rfl ?_
      exact ⟨rfl, R5.out, O5.out⟩
    · have ht : t = false := by have := HP2.out; rw [h1, h2] at this; exact this.symm
      subst ht
      clear HP2
      go_wp2_with fail
      refine bodyPost_ret (v := .agg #[nic a, nic b]) (results_cell_row rfl _ _ _ _ _ _ _ rfl M5.out (Try.underlying25) rfl (ball_sz15 a b)) rfl ?_
      exact ⟨rfl, R5.out, O5.out⟩
end
end
end Go.Proofs.Yteepaoklibflpaa
