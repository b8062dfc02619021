/-
  The wire package's reader of items, two: number, node, count, pair.
  The wire package's builder: head, call, set, home, ballot, other, yes, id, data (written by mknwh15.py).
  A region that draws its order: a head that reads and calls quietly (its callees may draw), a tail whose order is forced; outside a round and inside one. No program is named here.
  A drawn region whose last operation (a store) waits for all others, and may write what they read: loads are taken first, what alone may come up is carried out, the last one ends it. General: no program is named here.
  A region that draws its order: a head all of whose operations answer the same in every world behind one (they read, and call what only adds to memory), and a tail whose order is forced. General: no program is named here.
-/
import Derived.Test.YtbogjfmefkhglaaGreatP19
import Derived.StillTail
import Derived.Deep.Quiet
import Derived.OrdersIn
import Derived.RangeFuncCalls
import Derived.OwnWalkIn
import Derived.Deep.RegionHeld3
import Derived.Test.YtbogjfmefkhglaaGreatP3
namespace Go.Proofs.YtbogjfmefkhglaaGreat
section
set_option linter.unusedSimpArgs false
set_option linter.unusedVariables false
open Go.RowKit Sha Nte
open Fld (Itm)
@[irreducible] def fldOp15 (t : TypeId) (v : Value) (i : Nat) : Sem Next := do pure (.value (← Instr.field t v i))
theorem execOp_fld15 (ρ : Operand → Value) (dst : Option Tmp) (x : Operand) (i : Nat) (ty : TypeId) (pos : String) (after : Array Edge) (guard : Option (Nat × Bool)) :
    execOp ρ { dst := dst, op := .field 118 x i, type := ty, pos := pos, after := after, guard := guard } = fldOp15 118 (ρ x) i := by unfold fldOp15; rfl
theorem fld_N (y : Hdr) (w : World) : (fldOp15 118 (.agg (cellsI y).toArray) 0).run Tryz.prog w = .ok (.value (.int .i64 y.1.N)) w := by
  unfold fldOp15 cellsI icells
  simp [go_sem, Instr.field, asAgg]
theorem fld_B (y : Hdr) (w : World) : (fldOp15 118 (.agg (cellsI y).toArray) 1).run Tryz.prog w = .ok (.value (.slice y.2.1 y.1.B.length y.2.2)) w := by
  unfold fldOp15 cellsI icells
  simp [go_sem, Instr.field, asAgg]
theorem fld_D (y : Hdr) (hy : y.1.ok) (w : World) : (fldOp15 118 (.agg (cellsI y).toArray) 2).run Tryz.prog w = .ok (.value (.agg (y.1.D.map v8).toArray)) w := by
  have hl := hy.len
  unfold fldOp15 cellsI icells
  simp [go_sem, Instr.field, asAgg]
  exact List.take_of_length_le (by simp [hl])
section
attribute [local go_sem ↓] execOp_fld15
set_option maxRecDepth 100000 in
set_option maxHeartbeats 2000000 in
theorem wnumber_any (lo hi : Int) (w0 : World) (gb : Nat) (y : Hdr) (ys : List Hdr) (wr : Bool) (cs : List Value) (w : World) (h : Rd w0 gb (y :: ys) wr cs w) :
    Calls Tryz.prog 124 #[.pointer (some ⟨gb, 0, none⟩), .int .i64 lo, .int .i64 hi] w (RDone15 w0 gb ys (wr || decide (y.1.N < lo) || decide (hi < y.1.N)) cs w (.int .i64 y.1.N)) := by
  have NX := Lib.hid (wnext_any w0 gb y ys wr cs w h)
  have hf := fun w => fld_N y w
  generalize (Value.agg (cellsI y).toArray) = vy at *
  generalize y.1.N = n at *
  clear h
  obtain ⟨b, hb0⟩ : ∃ b, b = (wr || decide (n < lo) || decide (hi < n)) := ⟨_, rfl⟩
  rw [← hb0]
  have HBQ := Lib.hid hb0
  clear hb0
  go_enter Tryz.func124, Tryz.ntmps124
  go_wp2_with fail
  refine NX.out.mono ?_
  rintro e w1 ⟨rfl, hr1, ho1⟩
  have HR := Lib.hid hr1
  have HO := Lib.hid ho1
  obtain ⟨c1, f1⟩ := hr1.wrong
  clear hr1 ho1 NX
  have HS := Lib.hid (HR.out.setWrong b)
  have HOS := Lib.hid (HO.out.set 1 (.bool b))
  cases wr with
  | true =>
    have hb : b = true := by rw [HBQ.out]; rfl
    clear HBQ
    subst hb
    go_wp2_with fail
    go_ret
    exact ⟨rfl, HS.out, HOS.out⟩
  | false =>
    by_cases hlo : n < lo
    · have t1 : decide (n < lo) = true := decide_eq_true hlo
      have hb : b = true := by rw [HBQ.out, t1]; rfl
      clear HBQ
      subst hb
      go_wp2_with fail
      go_ret
      exact ⟨rfl, HS.out, HOS.out⟩
    · have t1 : decide (n < lo) = false := decide_eq_false hlo
      by_cases hhi : hi < n
      · have t2 : decide (hi < n) = true := decide_eq_true hhi
        have hb : b = true := by rw [HBQ.out, t1, t2]; rfl
        clear HBQ
        subst hb
        go_wp2_with fail
        go_ret
        exact ⟨rfl, HS.out, HOS.out⟩
      · have t2 : decide (hi < n) = false := decide_eq_false hhi
        have hb : b = false := by rw [HBQ.out, t1, t2]; rfl
        clear HBQ
        subst hb
        go_wp2_with fail
        go_ret
        exact ⟨rfl, HS.out, HOS.out⟩
end
theorem not_node (n : Int) : (decide (n < 1) || decide (64 < n)) = !decide (nodeOk n) := by
  by_cases h : nodeOk n
  · have h1 : ¬ n < 1 := by unfold nodeOk at h; omega
    have h2 : ¬ 64 < n := by unfold nodeOk at h; omega
    simp [h, h1, h2]
  · have h1 : n < 1 ∨ 64 < n := by unfold nodeOk at h; omega
    rcases h1 with h1 | h1 <;> simp [h, h1]
theorem not_set (n : Int) : (decide (n < 1) || decide (2147483647 < n)) = !decide (setOk n) := by
  by_cases h : setOk n
  · have h1 : ¬ n < 1 := by unfold setOk at h; omega
    have h2 : ¬ 2147483647 < n := by unfold setOk at h; omega
    simp [h, h1, h2]
  · have h1 : n < 1 ∨ 2147483647 < n := by unfold setOk at h; omega
    rcases h1 with h1 | h1 <;> simp [h, h1]
theorem wnode_any (w0 : World) (gb : Nat) (y : Hdr) (ys : List Hdr) (wr : Bool) (cs : List Value) (w : World) (h : Rd w0 gb (y :: ys) wr cs w) :
    Calls Tryz.prog 100 #[.pointer (some ⟨gb, 0, none⟩)] w (RDone15 w0 gb ys (wr || !decide (nodeOk y.1.N)) cs w (.int .i64 y.1.N)) := by
  have NX := Lib.hid (wnumber_any 1 64 w0 gb y ys wr cs w h)
  rw [Bool.or_assoc, not_node] at NX
  generalize y.1.N = n at *
  clear h
  go_enter Tryz.func100, Tryz.ntmps100
  go_wp2_with fail
  refine NX.out.mono ?_
  rintro e w1 ⟨rfl, hr1, ho1⟩
  have HR := Lib.hid hr1
  have HO := Lib.hid ho1
  clear hr1 ho1 NX
  go_wp2_with fail
  go_ret
  exact ⟨rfl, HR.out, HO.out⟩
theorem wcount_any (w0 : World) (gb : Nat) (y : Hdr) (ys : List Hdr) (wr : Bool) (cs : List Value) (w : World) (h : Rd w0 gb (y :: ys) wr cs w) :
    Calls Tryz.prog 125 #[.pointer (some ⟨gb, 0, none⟩)] w (RDone15 w0 gb ys (wr || !decide (setOk y.1.N)) cs w (.int .i64 y.1.N)) := by
  have NX := Lib.hid (wnumber_any 1 2147483647 w0 gb y ys wr cs w h)
  rw [Bool.or_assoc, not_set] at NX
  generalize y.1.N = n at *
  clear h
  go_enter Tryz.func125, Tryz.ntmps125
  go_wp2_with fail
  refine NX.out.mono ?_
  rintro e w1 ⟨rfl, hr1, ho1⟩
  have HR := Lib.hid hr1
  have HO := Lib.hid ho1
  clear hr1 ho1 NX
  go_wp2_with fail
  go_ret
  exact ⟨rfl, HR.out, HO.out⟩
section
variable (ρ : Operand → Value) (dst : Option Tmp) (ty : TypeId) (pos : String) (after : Array Edge) (guard : Option (Nat × Bool)) (x y : Operand)
theorem execOp_allocBall15 : execOp ρ { dst := dst, op := .alloc 25, type := ty, pos := pos, after := after, guard := guard } = allocOp 25 := by unfold allocOp; rfl
theorem execOp_storeBall15 : execOp ρ { dst := dst, op := .store 25 x y, type := ty, pos := pos, after := after, guard := guard } = storeOp 25 (ρ x) (ρ y) := by unfold storeOp; rfl
end
theorem execOp_makeBall15 (ρ : Operand → Value) (dst : Option Tmp) (parts : Array (Nat × Operand)) (ty : TypeId) (pos : String) (after : Array Edge) (guard : Option (Nat × Bool)) :
    execOp ρ { dst := dst, op := .build 25 parts, type := ty, pos := pos, after := after, guard := guard } = makeOp 25 (parts.map fun (i, x) => (i, ρ x)) := by unfold makeOp; rfl
theorem make_ball15 (a b : Int) (w : World) : (makeOp 25 #[(0, .int .i64 a), (1, .int .i64 b)]).run Tryz.prog w = .ok (.value (.agg #[nic a, nic b])) w := run_makeOp w (by kernel_rfl)
theorem make_ball0 (w : World) : (makeOp 25 #[]).run Tryz.prog w = .ok (.value (.agg #[nic 0, nic 0])) w := run_makeOp w (by kernel_rfl)
theorem ball_zero15 : (Tryz.prog.info? 25).map (fun i => i.zero) = some (some (.agg #[nic 0, nic 0])) := by kernel_rfl
theorem alloc_ball15 (w : World) : (allocOp 25).run Tryz.prog w = .ok (.value (.pointer (some ⟨w.heap.size, 0, none⟩))) (w.alloc (.cells #[nic 0, nic 0] 25)) := run_allocOp w ball_zero15
theorem ball_sz15 (a b : Int) : (Tryz.prog.info? 25).map (fun i => i.size) = some (#[nic a, nic b] : Array Value).size := by rw [ball_size]; rfl
theorem store_ball15 (w : World) (a b : Int) : (storeOp 25 (.pointer (some ⟨w.heap.size, 0, none⟩)) (.agg #[nic a, nic b])).run Tryz.prog (w.alloc (.cells #[nic 0, nic 0] 25)) = .ok .skip (w.alloc (.cells #[nic a, nic b] 25)) :=
  run_storeNew w (ball_sz15 a b) rfl (by simp [Value.oneCell'])
theorem store_ballO {w : World} {g : Nat} {a b c d : Int} (h : Blk w g [nic c, nic d] 25) : (storeOp 25 (.pointer (some ⟨g, 0, none⟩)) (.agg #[nic a, nic b])).run Tryz.prog w = .ok .skip (w.setRow g #[nic a, nic b]) :=
  run_storeOp (old := #[nic c, nic d]) h (ball_sz15 a b) rfl (by simp [Value.oneCell'])
theorem load_ballB {w : World} {g : Nat} {a b : Int} (h : Blk w g [nic a, nic b] 25) : (loadOp 25 (.pointer (some ⟨g, 0, none⟩))).run Tryz.prog w = .ok (.value (.agg #[nic a, nic b])) w :=
  run_loadRow (cs := #[nic a, nic b]) h Tryz.underlying25 rfl (by rw [ball_size]; rfl)
theorem not_pair (wr : Bool) (a b : Int) : (((((wr || decide (a < 0)) || decide (2147483647 < a)) || decide (b < 0)) || decide (64 < b)) || ((a == 0) != (b == 0))) = (wr || !decide (pairOk a b)) := by
  cases wr
  · by_cases h : pairOk a b
    · have h1 : ¬ a < 0 := by unfold pairOk at h; omega
      have h2 : ¬ 2147483647 < a := by unfold pairOk at h; omega
      have h3 : ¬ b < 0 := by unfold pairOk at h; omega
      have h4 : ¬ 64 < b := by unfold pairOk at h; omega
      have h5 : a = 0 ↔ b = 0 := h.2.2
      by_cases h6 : b = 0
      · have e1 : (a == 0) = true := beq_iff_eq.2 (h5.2 h6)
        have e2 : (b == 0) = true := beq_iff_eq.2 h6
        clear h5 h6
        simp [h, h1, h2, h3, h4, e1, e2]
      · have e1 : (a == 0) = false := beq_eq_false_iff_ne.2 (fun e => h6 (h5.1 e))
        have e2 : (b == 0) = false := beq_eq_false_iff_ne.2 h6
        clear h5 h6
        simp [h, h1, h2, h3, h4, e1, e2]
    · have h1 : a < 0 ∨ 2147483647 < a ∨ b < 0 ∨ 64 < b ∨ (a = 0 ∧ b ≠ 0) ∨ (a ≠ 0 ∧ b = 0) := by unfold pairOk at h; omega
      rcases h1 with h1 | h1 | h1 | h1 | ⟨h1, h2⟩ | ⟨h1, h2⟩
      · simp [h, h1]
      · simp [h, h1]
      · simp [h, h1]
      · simp [h, h1]
      · have e1 : (a == 0) = true := beq_iff_eq.2 h1
        have e2 : (b == 0) = false := beq_eq_false_iff_ne.2 h2
        clear h1 h2
        simp [h, e1, e2]
      · have e1 : (a == 0) = false := beq_eq_false_iff_ne.2 h1
        have e2 : (b == 0) = true := beq_iff_eq.2 h2
        clear h1 h2
        simp [h, e1, e2]
  · rfl
section
attribute [local go_sem ↓] execOp_allocBall15 execOp_storeBall15 execOp_loadBall execOp_makeBall15
set_option maxRecDepth 100000 in
set_option maxHeartbeats 4000000 in
theorem wpair_any (w0 : World) (gb : Nat) (y z : Hdr) (ys : List Hdr) (wr : Bool) (cs : List Value) (w : World) (h : Rd w0 gb (y :: z :: ys) wr cs w) :
    Calls Tryz.prog 126 #[.pointer (some ⟨gb, 0, none⟩)] w (RDone15 w0 gb ys (wr || !decide (pairOk y.1.N z.1.N)) cs w (.agg #[nic y.1.N, nic z.1.N])) := by
  have al0 := alloc_ball15 w
  have hlt := h.lt
  have B1 := Lib.hid ((Below.refl _ w).alloc (Nat.le_refl _) (.cells #[nic 0, nic 0] 25))
  have N1 := Lib.hid (show Blk (w.alloc (.cells #[nic 0, nic 0] 25)) w.heap.size [nic 0, nic 0] 25 from Blk.new w #[nic 0, nic 0] 25)
  have R1 := Lib.hid (h.on B1.out)
  have O1 := Lib.hid ((Only.refl gb w).alloc (.cells #[nic 0, nic 0] 25))
  obtain ⟨w1, hw1⟩ : ∃ w1, w1 = w.alloc (.cells #[nic 0, nic 0] 25) := ⟨_, rfl⟩
  rw [← hw1] at al0 B1 N1 R1 O1
  have NP := Lib.hid (fun w r => wnumber_any 0 2147483647 w0 gb y (z :: ys) wr cs w r)
  have NQ := Lib.hid (fun w r => wnumber_any 0 64 w0 gb z ys (wr || decide (y.1.N < 0) || decide (2147483647 < y.1.N)) cs w r)
  have HP := Lib.hid (not_pair wr y.1.N z.1.N)
  generalize y.1.N = a at *
  generalize z.1.N = b at *
  have HW := Lib.hid (show w.heap.size ≠ gb by omega)
  have HWS := Lib.hid (Nat.le_refl w.heap.size)
  obtain ⟨gn, hgn⟩ : ∃ gn, gn = w.heap.size := ⟨_, rfl⟩
  rw [← hgn] at al0 N1 HW
  have HGN := Lib.hid hgn
  obtain ⟨t, ht⟩ : ∃ t, t = (wr || !decide (pairOk a b)) := ⟨_, rfl⟩
  rw [← ht] at HP ⊢
  have HB0 := Lib.hid h.below.size
  clear hw1 h hlt hgn ht
  go_enter Tryz.func126, Tryz.ntmps126
  go_wp2_with fail
  refine (NP.out _ R1.out).mono ?_
  rintro e w2 ⟨rfl, hr2, ho2⟩
  have R2 := Lib.hid hr2
  have O2 := Lib.hid ho2
  clear hr2 ho2 NP
  go_wp2_with fail
  refine (NQ.out _ R2.out).mono ?_
  rintro e w3 ⟨rfl, hr3, ho3⟩
  have R3 := Lib.hid hr3
  have O3 := Lib.hid (O1.out.trans (O2.out.trans ho3))
  have N3 := Lib.hid ((O2.out.trans ho3).blk N1.out HW.out)
  clear hr3 ho3 NQ
  have mk := fun w => make_ball15 a b w
  have al3 := alloc_ball15 w3
  have st3 := store_ball15 w3 a b
  have B4 := Lib.hid ((Below.refl _ w3).alloc (Nat.le_refl _) (.cells #[nic a, nic b] 25))
  have M4 := Lib.hid (show Blk (w3.alloc (.cells #[nic a, nic b] 25)) w3.heap.size [nic a, nic b] 25 from Blk.new w3 #[nic a, nic b] 25)
  have HG3 := Lib.hid (show w3.heap.size ≠ gb by have := R3.out.lt; omega)
  obtain ⟨gm, hgm⟩ : ∃ gm, gm = w3.heap.size := ⟨_, rfl⟩
  obtain ⟨w4, hw4⟩ : ∃ w4, w4 = w3.alloc (.cells #[nic a, nic b] 25) := ⟨_, rfl⟩
  rw [← hw4] at st3 B4 M4
  rw [← hgm] at al3 st3 M4 HG3
  have R4 := Lib.hid (R3.out.on B4.out)
  have O4 := Lib.hid (O3.out.call B4.out)
  have N4 := Lib.hid (N3.out.below B4.out N3.out.lt)
  obtain ⟨c1, f1⟩ := R4.out.wrong
  have m0 : w4.cell? ⟨gm, 0, none⟩ = some (nic a) := M4.out.cell 0
  have m1 : w4.cell? ⟨gm, 1, none⟩ = some (nic b) := M4.out.cell 1
  have lm := load_ballB (M4.out.setOther ⟨gb, 1, none⟩ (.bool t) HG3.out)
  have sm := store_ballO (a := a) (b := b) (N4.out.setOther ⟨gb, 1, none⟩ (.bool t) HW.out)
  have M5 := Lib.hid (show Blk ((w4.setCell ⟨gb, 1, none⟩ (.bool t)).setRow gn #[nic a, nic b]) gn [nic a, nic b] 25 from (N4.out.setOther ⟨gb, 1, none⟩ (.bool t) HW.out).row [nic a, nic b])
  have O5 := Lib.hid ((O4.out.set 1 (.bool t)).row (g := gn) (by rw [HGN.out]; exact Nat.le_refl _) #[nic a, nic b])
  have R5 := Lib.hid (show Rd w0 gb ys t cs ((w4.setCell ⟨gb, 1, none⟩ (.bool t)).setRow gn #[nic a, nic b]) from by
    obtain ⟨⟨p, n, c, h1, h2⟩, h3, h4⟩ := R4.out.setWrong t
    exact ⟨⟨p, n, c, h1, h2.rowOther _ (Ne.symm HW.out)⟩, Go.Proofs.YtbogjfmefkhglaaGreat.Below.setRow h3 (by rw [HGN.out]; exact HB0.out) _, h4⟩)
  clear hw4 hgm R4 O4 N4 M4 B4 N3 O3 R3 O1 N1 R1 B1 R2 O2
  obtain ⟨q, hq⟩ : ∃ q, q = (wr || decide (a < 0) || decide (2147483647 < a) || decide (b < 0) || decide (64 < b)) := ⟨_, rfl⟩
  rw [← hq] at c1 HP
  clear hq
  cases q with
  | true =>
    have ht : t = true := HP.out.symm
    subst ht
    clear HP
    go_wp2_with fail
    refine bodyPost_ret (v := .agg #[nic a, nic b]) (results_cell_row rfl _ _ _ _ _ _ _ rfl M5.out (Tryz.underlying25) rfl (ball_sz15 a b)) rfl ?_
    exact ⟨rfl, R5.out, O5.out⟩
  | false =>
    have HP2 := Lib.hid (show ((a == 0) != (b == 0)) = t from HP.out)
    clear HP
    cases h1 : (a == 0) <;> cases h2 : (b == 0)
    · have ht : t = false := by have := HP2.out; rw [h1, h2] at this; exact this.symm
      subst ht
      clear HP2
      go_wp2_with fail
      refine bodyPost_ret (v := .agg #[nic a, nic b]) (results_cell_row rfl _ _ _ _ _ _ _ rfl M5.out (Tryz.underlying25) rfl (ball_sz15 a b)) rfl ?_
      exact ⟨rfl, R5.out, O5.out⟩
    · have ht : t = true := by have := HP2.out; rw [h1, h2] at this; exact this.symm
      subst ht
      clear HP2
      go_wp2_with fail
      refine bodyPost_ret (v := .agg #[nic a, nic b]) (results_cell_row rfl _ _ _ _ _ _ _ rfl M5.out (Tryz.underlying25) rfl (ball_sz15 a b)) rfl ?_
      exact ⟨rfl, R5.out, O5.out⟩
    · have ht : t = true := by have := HP2.out; rw [h1, h2] at this; exact this.symm
      subst ht
      clear HP2
      go_wp2_with fail
      refine bodyPost_ret (v := .agg #[nic a, nic b]) (results_cell_row rfl _ _ _ _ _ _ _ rfl M5.out (Tryz.underlying25) rfl (ball_sz15 a b)) rfl ?_
      exact ⟨rfl, R5.out, O5.out⟩
    · have ht : t = false := by have := HP2.out; rw [h1, h2] at this; exact this.symm
      subst ht
      clear HP2
      go_wp2_with fail
      refine bodyPost_ret (v := .agg #[nic a, nic b]) (results_cell_row rfl _ _ _ _ _ _ _ rfl M5.out (Tryz.underlying25) rfl (ball_sz15 a b)) rfl ?_
      exact ⟨rfl, R5.out, O5.out⟩
end
end
section
set_option linter.unusedSimpArgs false
set_option linter.unusedVariables false
open Go.RowKit Sha Nte
open Fld (Itm)
theorem Only.cells {gb : Nat} {w w' : World} (h : Only gb w w') (o : Nat) (vs : List Value) : Only gb w (w'.setCells gb o vs) :=
  ⟨setCells_below (Nat.zero_le _) vs o w' h.b0, fun k hk hne => (setCells_heap gb vs o w' k hne).trans (h.block k hk hne)⟩
/-- A part of what lies behind the reader is written over. -/
theorem store_part {t : TypeId} {w0 w : World} {gb : Nat} {ys : List Hdr} {wr : Bool} (pre mid post vs : List Value) (o : Nat) (h : Rd w0 gb ys wr (pre ++ mid ++ post) w) (ho : pre.length + 2 = o) (hl : mid.length = vs.length)
    (hi : (Tryz.prog.info? t).map (fun i => i.size) = some vs.length) (h1 : vs.toArray.all (·.oneCell') = true) :
    ∃ w', (storeOp t (.pointer (some ⟨gb, o, none⟩)) (.agg vs.toArray)).run Tryz.prog w = .ok .skip w' ∧ Rd w0 gb ys wr (pre ++ vs ++ post) w' ∧ Only gb w w' := by
  obtain ⟨⟨q, n, c, hL, hK⟩, hb, hba⟩ := h
  have hr := run_storeAt_mid (P := Tryz.prog) w gb o t vs.toArray (hK.there o _ (by simp; omega)) (by simpa using hi) h1
  have hK2 := Blk.setCells (g := gb) (t := 110) vs o w (.slice q n c :: .bool wr :: pre) mid post (by simpa using hK) (by simpa using ho) hl
  refine ⟨w.setCells gb o vs, ?_, ⟨⟨q, n, c, hL, by simpa using hK2⟩, setCells_below hba vs o w hb, hba⟩, (Only.refl gb w).cells o vs⟩
  unfold storeOp
  simp only [Sem.run_bind, hr, Result.andThen_ok, Sem.run_pure]
section
variable (ρ : Operand → Value) (dst : Option Tmp) (ty : TypeId) (pos : String) (after : Array Edge) (guard : Option (Nat × Bool)) (x y : Operand) (parts : Array (Nat × Operand))
theorem execOp_storeCall15 : execOp ρ { dst := dst, op := .store 23 x y, type := ty, pos := pos, after := after, guard := guard } = storeOp 23 (ρ x) (ρ y) := by unfold storeOp; rfl
theorem execOp_makeCall15 : execOp ρ { dst := dst, op := .build 23 parts, type := ty, pos := pos, after := after, guard := guard } = makeOp 23 (parts.map fun (i, x) => (i, ρ x)) := by unfold makeOp; rfl
end
theorem make_call15 (a b c : Int) (w : World) : (makeOp 23 #[(0, .int .i64 a), (1, .int .i64 b), (2, .int .i64 c)]).run Tryz.prog w = .ok (.value (.agg #[nic a, nic b, nic c])) w := run_makeOp w (by kernel_rfl)
def VDone15 (w0 : World) (gb : Nat) (ys : List Hdr) (wr : Bool) (cs : List Value) (w : World) (e : Ending) (w' : World) : Prop :=
  e = .returned (.tuple #[]) ∧ Rd w0 gb ys wr cs w' ∧ Only gb w w'
theorem nc_set (x : Not) (h : NHd) (v : Int) : (ncells x h).set 6 (nic v) = ncells { x with S := v } h := rfl
theorem nc_home (x : Not) (h : NHd) (v : Int) : (ncells x h).set 7 (nic v) = ncells { x with H := v } h := rfl
theorem nc_yes (x : Not) (h : NHd) (v : Bool) : (ncells x h).set 12 (.bool v) = ncells { x with Y := v } h := rfl
theorem nc_K (x : Not) (h : NHd) (v : Int) : (ncells x h).set 0 (nic v) = ncells { x with K := v } h := rfl
theorem nc_F (x : Not) (h : NHd) (v : Int) : (ncells x h).set 1 (nic v) = ncells { x with F := v } h := rfl
theorem nc_T (x : Not) (h : NHd) (v : Int) : (ncells x h).set 2 (nic v) = ncells { x with T := v } h := rfl
theorem nc_X {x : Not} (hx : x.D.length = 32) (h : NHd) (b : List Int) (q : Option Addr) (c : Nat) : (ncells x h).set 45 (.slice q b.length c) = ncells { x with X := b } { h with q := q, c := c } := by
  unfold ncells
  simp [List.set_append_right, hx]
section
attribute [local go_sem ↓] execOp_fld15 execOp_storeBall15 execOp_loadBall execOp_makeBall15 execOp_storeId15 execOp_storeCall15 execOp_makeCall15 execOp_eqBall
set_option maxRecDepth 100000 in
set_option maxHeartbeats 1000000 in
theorem wset_any (w0 : World) (gb : Nat) (y : Hdr) (ys : List Hdr) (wr : Bool) (x : Not) (h : NHd) (w : World) (hr : Rd w0 gb (y :: ys) wr (ncells x h) w) :
    Calls Tryz.prog 102 #[.pointer (some ⟨gb, 0, none⟩)] w (VDone15 w0 gb ys (wr || !decide (setOk y.1.N)) (ncells { x with S := y.1.N } h) w) := by
  have NX := Lib.hid (wcount_any w0 gb y ys wr (ncells x h) w hr)
  generalize y.1.N = n at *
  obtain ⟨t, ht⟩ : ∃ t, t = (wr || !decide (setOk n)) := ⟨_, rfl⟩
  rw [← ht] at NX ⊢
  clear hr ht
  go_enter Tryz.func102, Tryz.ntmps102
  go_wp2_with fail
  refine NX.out.mono ?_
  rintro e w1 ⟨rfl, hr1, ho1⟩
  obtain ⟨c1, f1⟩ := hr1.cell 6 (ncells_6 x h)
  have HS := Lib.hid (hr1.setCell 6 (nic n))
  rw [nc_set] at HS
  have HO := Lib.hid (ho1.set 8 (nic n))
  clear NX hr1 ho1
  go_wp2_with fail
  go_end0
  exact ⟨rfl, HS.out, HO.out⟩
set_option maxRecDepth 100000 in
set_option maxHeartbeats 1000000 in
theorem whome_any (w0 : World) (gb : Nat) (y : Hdr) (ys : List Hdr) (wr : Bool) (x : Not) (h : NHd) (w : World) (hr : Rd w0 gb (y :: ys) wr (ncells x h) w) :
    Calls Tryz.prog 103 #[.pointer (some ⟨gb, 0, none⟩)] w (VDone15 w0 gb ys (wr || !decide (nodeOk y.1.N)) (ncells { x with H := y.1.N } h) w) := by
  have NX := Lib.hid (wnode_any w0 gb y ys wr (ncells x h) w hr)
  generalize y.1.N = n at *
  obtain ⟨t, ht⟩ : ∃ t, t = (wr || !decide (nodeOk n)) := ⟨_, rfl⟩
  rw [← ht] at NX ⊢
  clear hr ht
  go_enter Tryz.func103, Tryz.ntmps103
  go_wp2_with fail
  refine NX.out.mono ?_
  rintro e w1 ⟨rfl, hr1, ho1⟩
  obtain ⟨c1, f1⟩ := hr1.cell 7 (ncells_7 x h)
  have HS := Lib.hid (hr1.setCell 7 (nic n))
  rw [nc_home] at HS
  have HO := Lib.hid (ho1.set 9 (nic n))
  clear NX hr1 ho1
  go_wp2_with fail
  go_end0
  exact ⟨rfl, HS.out, HO.out⟩
set_option maxRecDepth 100000 in
set_option maxHeartbeats 1000000 in
theorem wother_any (w0 : World) (gb : Nat) (y z : Hdr) (ys : List Hdr) (wr : Bool) (x : Not) (h : NHd) (w : World) (hr : Rd w0 gb (y :: z :: ys) wr (ncells x h) w) :
    Calls Tryz.prog 105 #[.pointer (some ⟨gb, 0, none⟩)] w (VDone15 w0 gb ys (wr || !decide (pairOk y.1.N z.1.N)) (ncells { x with O1 := y.1.N, O2 := z.1.N } h) w) := by
  have NX := Lib.hid (wpair_any w0 gb y z ys wr (ncells x h) w hr)
  generalize y.1.N = a at *
  generalize z.1.N = b at *
  obtain ⟨t, ht⟩ : ∃ t, t = (wr || !decide (pairOk a b)) := ⟨_, rfl⟩
  rw [← ht] at NX ⊢
  clear hr ht
  go_enter Tryz.func105, Tryz.ntmps105
  go_wp2_with fail
  refine NX.out.mono ?_
  rintro e w1 ⟨rfl, hr1, ho1⟩
  obtain ⟨w2, st, hr2, ho2⟩ := store_part (t := 25) ((ncells x h).take 10) [nic x.O1, nic x.O2] ((ncells x h).drop 12) [nic a, nic b] 12 hr1 (by simp [ncells]) rfl (by rw [ball_size]; rfl) (by simp [Value.oneCell'])
  have HS := Lib.hid (show Rd w0 gb ys t (ncells { x with O1 := a, O2 := b } h) w2 from hr2)
  have HO := Lib.hid (ho1.trans ho2)
  clear NX hr1 ho1 hr2 ho2
  go_wp2_with fail
  go_end0
  exact ⟨rfl, HS.out, HO.out⟩
theorem not_ball (wr : Bool) (a b : Int) : ((wr || !decide (pairOk a b)) || decide (a = 0 ∧ b = 0)) = (wr || !decide (pairOk a b ∧ ¬ (a = 0 ∧ b = 0))) := by
  cases wr
  · by_cases h1 : pairOk a b <;> by_cases h2 : a = 0 ∧ b = 0 <;> simp [h1, h2]
  · rfl
set_option maxRecDepth 100000 in
set_option maxHeartbeats 1000000 in
theorem wballot_any (w0 : World) (gb : Nat) (y z : Hdr) (ys : List Hdr) (wr : Bool) (x : Not) (h : NHd) (w : World) (hr : Rd w0 gb (y :: z :: ys) wr (ncells x h) w) :
    Calls Tryz.prog 104 #[.pointer (some ⟨gb, 0, none⟩)] w (VDone15 w0 gb ys (wr || !decide (pairOk y.1.N z.1.N ∧ ¬ (y.1.N = 0 ∧ z.1.N = 0))) (ncells { x with B1 := y.1.N, B2 := z.1.N } h) w) := by
  have NX := Lib.hid (wpair_any w0 gb y z ys wr (ncells x h) w hr)
  generalize y.1.N = a at *
  generalize z.1.N = b at *
  have HP := Lib.hid (not_ball wr a b)
  obtain ⟨t, ht⟩ : ∃ t, t = (wr || !decide (pairOk a b)) := ⟨_, rfl⟩
  obtain ⟨u, hu⟩ : ∃ u, u = (wr || !decide (pairOk a b ∧ ¬ (a = 0 ∧ b = 0))) := ⟨_, rfl⟩
  rw [← ht] at NX HP
  rw [← hu] at HP ⊢
  clear hr ht hu
  go_enter Tryz.func104, Tryz.ntmps104
  go_wp2_with fail
  refine NX.out.mono ?_
  rintro e w1 ⟨rfl, hr1, ho1⟩
  obtain ⟨w2, st, hr2, ho2⟩ := store_part (t := 25) ((ncells x h).take 8) [nic x.B1, nic x.B2] ((ncells x h).drop 10) [nic a, nic b] 10 hr1 (by simp [ncells]) rfl (by rw [ball_size]; rfl) (by simp [Value.oneCell'])
  have hr2 : Rd w0 gb ys t (ncells { x with B1 := a, B2 := b } h) w2 := hr2
  have HO := Lib.hid (ho1.trans ho2)
  have HS := Lib.hid (hr2.setWrong u)
  have HO3 := Lib.hid (HO.out.set 1 (.bool u))
  obtain ⟨c1, f1⟩ := hr2.wrong
  have lb : (loadOp 25 (.pointer (some ⟨gb, 10, none⟩))).run Tryz.prog w2 = .ok (.value (.agg #[nic a, nic b])) w2 := by
    obtain ⟨⟨q, n, c, _, hK⟩, _, _⟩ := hr2
    exact run_loadOp (run_loadAt_mid w2 gb 10 25 [nic a, nic b] _ (fun j v hv => by
      rw [hK.cell]
      match j with
      | 0 => exact hv
      | 1 => exact hv
      | j + 2 => simp at hv) Tryz.underlying25 rfl (by rw [ball_size]; rfl))
  have mk := fun w => make_ball0 w
  have eq := fun (o1 o2 : Operand) (e : Bool) (he : e = decide (a = 0 ∧ b = 0)) => run_eqBall a b 0 0 e he o1 o2 w2
  clear NX hr1 ho1 hr2 ho2
  cases t with
  | true =>
    have hu : u = true := HP.out.symm
    subst hu
    clear HP eq
    go_wp2_with fail
    go_end0
    exact ⟨rfl, HS.out, HO3.out⟩
  | false =>
    have HP2 := Lib.hid (show decide (a = 0 ∧ b = 0) = u from HP.out)
    clear HP
    have eq2 := fun (o1 o2 : Operand) => eq o1 o2 u HP2.out.symm
    clear eq HP2
    go_wp2_with fail
    go_end0
    exact ⟨rfl, HS.out, HO3.out⟩
set_option maxRecDepth 100000 in
set_option maxHeartbeats 1000000 in
theorem wid_any (w0 : World) (gb : Nat) (y : Hdr) (ys : List Hdr) (wr : Bool) (x : Not) (h : NHd) (w : World) (hx : x.D.length = 32) (hr : Rd w0 gb (y :: ys) wr (ncells x h) w) :
    Calls Tryz.prog 107 #[.pointer (some ⟨gb, 0, none⟩)] w (VDone15 w0 gb ys wr (ncells { x with D := y.1.D } h) w) := by
  have hy : y.1.ok := by
    obtain ⟨⟨q, n, c, hL, _⟩, _, _⟩ := hr
    exact (hL.good y (List.mem_cons_self ..)).ok
  have NX := Lib.hid (wnext_any w0 gb y ys wr (ncells x h) w hr)
  have hf := fun w => fld_D y hy w
  generalize (Value.agg (cellsI y).toArray) = vy at *
  have hd := hy.len
  generalize y.1.D = d at *
  clear hr hy
  go_enter Tryz.func107, Tryz.ntmps107
  go_wp2_with fail
  refine NX.out.mono ?_
  rintro e w1 ⟨rfl, hr1, ho1⟩
  obtain ⟨w2, st, hr2, ho2⟩ := store_part (t := 27) ((ncells x h).take 13) (x.D.map v8) [.slice h.q x.X.length h.c, .slice h.r x.I.length h.d, .slice h.s x.W.length h.e] (d.map v8) 15 hr1 (by simp [ncells]) (by simp [hd, hx]) (by rw [id_size]; simp [hd]) (v8_all d)
  have HS := Lib.hid (show Rd w0 gb ys wr (ncells { x with D := d } h) w2 from hr2)
  have HO := Lib.hid (ho1.trans ho2)
  clear NX hr1 ho1 hr2 ho2
  go_wp2_with fail
  go_end0
  exact ⟨rfl, HS.out, HO.out⟩
set_option maxRecDepth 100000 in
set_option maxHeartbeats 1000000 in
theorem wdata_any (w0 : World) (gb : Nat) (y : Hdr) (ys : List Hdr) (wr : Bool) (x : Not) (h : NHd) (w : World) (hx : x.D.length = 32) (hr : Rd w0 gb (y :: ys) wr (ncells x h) w) :
    Calls Tryz.prog 108 #[.pointer (some ⟨gb, 0, none⟩)] w (VDone15 w0 gb ys wr (ncells { x with X := y.1.B } { h with q := y.2.1, c := y.2.2 }) w) := by
  have NX := Lib.hid (wnext_any w0 gb y ys wr (ncells x h) w hr)
  have hf := fun w => fld_B y w
  generalize (Value.agg (cellsI y).toArray) = vy at *
  generalize y.2.1 = q at *
  generalize y.2.2 = c at *
  generalize y.1.B = b at *
  clear hr
  go_enter Tryz.func108, Tryz.ntmps108
  go_wp2_with fail
  refine NX.out.mono ?_
  rintro e w1 ⟨rfl, hr1, ho1⟩
  obtain ⟨c1, f1⟩ := hr1.cell 45 (ncells_X hx h)
  have HS := Lib.hid (hr1.setCell 45 (.slice q b.length c))
  rw [nc_X hx] at HS
  have HO := Lib.hid (ho1.set 47 (.slice q b.length c))
  clear NX hr1 ho1
  go_wp2_with fail
  go_end0
  exact ⟨rfl, HS.out, HO.out⟩
theorem not_call (wr : Bool) (a b c : Int) : ((((wr || !decide (nodeOk a)) || !decide (setOk b)) || !decide (setOk c))) = (wr || !decide (nodeOk a ∧ setOk b ∧ setOk c)) := by
  cases wr
  · by_cases h1 : nodeOk a <;> by_cases h2 : setOk b <;> by_cases h3 : setOk c <;> simp [h1, h2, h3]
  · rfl
set_option maxRecDepth 100000 in
set_option maxHeartbeats 1000000 in
theorem wcall_any (w0 : World) (gb : Nat) (y1 y2 y3 : Hdr) (ys : List Hdr) (wr : Bool) (x : Not) (h : NHd) (w : World) (hr : Hid (Rd w0 gb (y1 :: y2 :: y3 :: ys) wr (ncells x h) w)) :
    Calls Tryz.prog 101 #[.pointer (some ⟨gb, 0, none⟩)] w (VDone15 w0 gb ys (wr || !decide (nodeOk y1.1.N ∧ setOk y2.1.N ∧ setOk y3.1.N)) (ncells { x with C1 := y1.1.N, C2 := y2.1.N, C3 := y3.1.N } h) w) := by
  go_enter Tryz.func101, Tryz.ntmps101
  refine wp_region_held_drew (S := (fun _ => True)) (by kernel_rfl) trivial (fun hHeld => ?_)
  have DR := Lib.hid (hr.out.on (Below.refl w.heap.size w).drew)
  have DO := Lib.hid ((Only.refl gb w).call (Below.refl w.heap.size w).drew)
  generalize w.drew = wd at *
  refine take_at 0 (by kernel_rfl) (v := ?v1) (by kernel_rfl) (by kernel_rfl) (by kernel_rfl) (fun _ _ _ h => h) (by rfl) ?y1 (by assumption) ?r1
  case y1 => (intro w hSw; (try dsimp only at hSw); simp only [List.getElem_cons_succ, List.getElem_cons_zero]; go_simp; (try with_reducible rfl))
  try simp only [List.getElem_cons_succ, List.getElem_cons_zero, Act.put, List.setIfInBounds_toArray, List.set_cons_zero, List.set_cons_succ]
  refine take_at 1 (by kernel_rfl) (v := ?v2) (by kernel_rfl) (by kernel_rfl) (by kernel_rfl) (fun _ _ _ h => h) (by rfl) ?y2 (by assumption) ?r2
  case y2 => (intro w hSw; (try dsimp only at hSw); simp only [List.getElem_cons_succ, List.getElem_cons_zero]; go_simp; (try with_reducible rfl))
  try simp only [List.getElem_cons_succ, List.getElem_cons_zero, Act.put, List.setIfInBounds_toArray, List.set_cons_zero, List.set_cons_succ]
  refine take_at 2 (by kernel_rfl) (v := ?v3) (by kernel_rfl) (by kernel_rfl) (by kernel_rfl) (fun _ _ _ h => h) (by rfl) ?y3 (by assumption) ?r3
  case y3 => (intro w hSw; (try dsimp only at hSw); simp only [List.getElem_cons_succ, List.getElem_cons_zero]; go_simp; (try with_reducible rfl))
  try simp only [List.getElem_cons_succ, List.getElem_cons_zero, Act.put, List.setIfInBounds_toArray, List.set_cons_zero, List.set_cons_succ]
  refine take_at 3 (by kernel_rfl) (v := ?v4) (by kernel_rfl) (by kernel_rfl) (by kernel_rfl) (fun _ _ _ h => h) (by rfl) ?y4 (by assumption) ?r4
  case y4 => (intro w hSw; (try dsimp only at hSw); simp only [List.getElem_cons_succ, List.getElem_cons_zero]; go_simp; (try with_reducible rfl))
  try simp only [List.getElem_cons_succ, List.getElem_cons_zero, Act.put, List.setIfInBounds_toArray, List.set_cons_zero, List.set_cons_succ]
  refine take_at 5 (by kernel_rfl) (v := ?v5) (by kernel_rfl) (by kernel_rfl) (by kernel_rfl) (fun _ _ _ h => h) (by rfl) ?y5 (by assumption) ?r5
  case y5 => (intro w hSw; (try dsimp only at hSw); simp only [List.getElem_cons_succ, List.getElem_cons_zero]; go_simp; (try with_reducible rfl))
  try simp only [List.getElem_cons_succ, List.getElem_cons_zero, Act.put, List.setIfInBounds_toArray, List.set_cons_zero, List.set_cons_succ]
  refine take_at 6 (by kernel_rfl) (v := ?v6) (by kernel_rfl) (by kernel_rfl) (by kernel_rfl) (fun _ _ _ h => h) (by rfl) ?y6 (by assumption) ?r6
  case y6 => (intro w hSw; (try dsimp only at hSw); simp only [List.getElem_cons_succ, List.getElem_cons_zero]; go_simp; (try with_reducible rfl))
  try simp only [List.getElem_cons_succ, List.getElem_cons_zero, Act.put, List.setIfInBounds_toArray, List.set_cons_zero, List.set_cons_succ]
  refine take_at 7 (by kernel_rfl) (v := ?v7) (by kernel_rfl) (by kernel_rfl) (by kernel_rfl) (fun _ _ _ h => h) (by rfl) ?y7 (by assumption) ?r7
  case y7 => (intro w hSw; (try dsimp only at hSw); simp only [List.getElem_cons_succ, List.getElem_cons_zero]; go_simp; (try with_reducible rfl))
  try simp only [List.getElem_cons_succ, List.getElem_cons_zero, Act.put, List.setIfInBounds_toArray, List.set_cons_zero, List.set_cons_succ]
  refine take_at 9 (by kernel_rfl) (v := ?v8) (by kernel_rfl) (by kernel_rfl) (by kernel_rfl) (fun _ _ _ h => h) (by rfl) ?y8 (by assumption) ?r8
  case y8 => (intro w hSw; (try dsimp only at hSw); simp only [List.getElem_cons_succ, List.getElem_cons_zero]; go_simp; (try with_reducible rfl))
  try simp only [List.getElem_cons_succ, List.getElem_cons_zero, Act.put, List.setIfInBounds_toArray, List.set_cons_zero, List.set_cons_succ]
  refine take_at 10 (by kernel_rfl) (v := ?v9) (by kernel_rfl) (by kernel_rfl) (by kernel_rfl) (fun _ _ _ h => h) (by rfl) ?y9 (by assumption) ?r9
  case y9 => (intro w hSw; (try dsimp only at hSw); simp only [List.getElem_cons_succ, List.getElem_cons_zero]; go_simp; (try with_reducible rfl))
  try simp only [List.getElem_cons_succ, List.getElem_cons_zero, Act.put, List.setIfInBounds_toArray, List.set_cons_zero, List.set_cons_succ]
  refine take_at 11 (by kernel_rfl) (v := ?v10) (by kernel_rfl) (by kernel_rfl) (by kernel_rfl) (fun _ _ _ h => h) (by rfl) ?y10 (by assumption) ?r10
  case y10 => (intro w hSw; (try dsimp only at hSw); simp only [List.getElem_cons_succ, List.getElem_cons_zero]; go_simp; (try with_reducible rfl))
  try simp only [List.getElem_cons_succ, List.getElem_cons_zero, Act.put, List.setIfInBounds_toArray, List.set_cons_zero, List.set_cons_succ]
  refine ready_at 4 (by kernel_rfl) (by kernel_rfl) (fun K hK => ?_)
  simp only [List.getElem_cons_succ, List.getElem_cons_zero]
  go_simp
  go_at_call 100
  refine (wnode_any w0 gb y1 (y2 :: y3 :: ys) wr (ncells x h) _ DR.out).mono ?_
  rintro e wa ⟨rfl, ra, oa⟩
  have RA := Lib.hid ra
  have OA := Lib.hid (DO.out.trans oa)
  clear ra oa
  (try go_wp2_with fail)
  refine hK.out _ _ trivial (fun hHeld => ?_)
  clear hK K
  try simp only [List.getElem_cons_succ, List.getElem_cons_zero, Act.put, List.setIfInBounds_toArray, List.set_cons_zero, List.set_cons_succ]
  refine ready_at 8 (by kernel_rfl) (by kernel_rfl) (fun K hK => ?_)
  simp only [List.getElem_cons_succ, List.getElem_cons_zero]
  go_simp
  go_at_call 125
  refine (wcount_any w0 gb y2 (y3 :: ys) _ (ncells x h) _ RA.out).mono ?_
  rintro e wb ⟨rfl, rb, ob⟩
  have RB := Lib.hid rb
  have OB := Lib.hid (OA.out.trans ob)
  clear rb ob
  (try go_wp2_with fail)
  refine hK.out _ _ trivial (fun hHeld => ?_)
  clear hK K
  try simp only [List.getElem_cons_succ, List.getElem_cons_zero, Act.put, List.setIfInBounds_toArray, List.set_cons_zero, List.set_cons_succ]
  refine ready_at 12 (by kernel_rfl) (by kernel_rfl) (fun K hK => ?_)
  simp only [List.getElem_cons_succ, List.getElem_cons_zero]
  go_simp
  go_at_call 125
  refine (wcount_any w0 gb y3 ys _ (ncells x h) _ RB.out).mono ?_
  rintro e wc ⟨rfl, rc, oc⟩
  have RC := Lib.hid rc
  have OC := Lib.hid (OB.out.trans oc)
  clear rc oc
  (try go_wp2_with fail)
  refine hK.out _ _ trivial (fun hHeld => ?_)
  clear hK K
  try simp only [List.getElem_cons_succ, List.getElem_cons_zero, Act.put, List.setIfInBounds_toArray, List.set_cons_zero, List.set_cons_succ]
  have mk := fun w => make_call15 y1.1.N y2.1.N y3.1.N w
  refine take_at 13 (by kernel_rfl) (v := ?v11) (by kernel_rfl) (by kernel_rfl) (by kernel_rfl) (fun _ _ _ h => h) (by rfl) ?y11 (by assumption) ?r11
  case y11 => (intro w hSw; (try dsimp only at hSw); simp only [List.getElem_cons_succ, List.getElem_cons_zero]; go_simp; (try with_reducible rfl))
  try simp only [List.getElem_cons_succ, List.getElem_cons_zero, Act.put, List.setIfInBounds_toArray, List.set_cons_zero, List.set_cons_succ]
  refine take_at 14 (by kernel_rfl) (v := ?v12) (by kernel_rfl) (by kernel_rfl) (by kernel_rfl) (fun _ _ _ h => h) (by rfl) ?y12 (by assumption) ?r12
  case y12 => (intro w hSw; (try dsimp only at hSw); simp only [List.getElem_cons_succ, List.getElem_cons_zero]; go_simp; (try with_reducible rfl))
  try simp only [List.getElem_cons_succ, List.getElem_cons_zero, Act.put, List.setIfInBounds_toArray, List.set_cons_zero, List.set_cons_succ]
  refine take_at 15 (by kernel_rfl) (v := ?v13) (by kernel_rfl) (by kernel_rfl) (by kernel_rfl) (fun _ _ _ h => h) (by rfl) ?y13 (by assumption) ?r13
  case y13 => (intro w hSw; (try dsimp only at hSw); simp only [List.getElem_cons_succ, List.getElem_cons_zero]; go_simp; (try with_reducible rfl))
  try simp only [List.getElem_cons_succ, List.getElem_cons_zero, Act.put, List.setIfInBounds_toArray, List.set_cons_zero, List.set_cons_succ]
  refine take_at 16 (by kernel_rfl) (v := ?v14) (by kernel_rfl) (by kernel_rfl) (by kernel_rfl) (fun _ _ _ h => h) (by rfl) ?y14 (by assumption) ?r14
  case y14 => (intro w hSw; (try dsimp only at hSw); simp only [List.getElem_cons_succ, List.getElem_cons_zero]; go_simp; (try with_reducible rfl))
  try simp only [List.getElem_cons_succ, List.getElem_cons_zero, Act.put, List.setIfInBounds_toArray, List.set_cons_zero, List.set_cons_succ]
  obtain ⟨w2, st, hr2, ho2⟩ := store_part (t := 23) ((ncells x h).take 3) [nic x.C1, nic x.C2, nic x.C3] ((ncells x h).drop 6) [nic y1.1.N, nic y2.1.N, nic y3.1.N] 5 RC.out (by simp [ncells]) rfl (by rw [call_size]; rfl) (by simp [Value.oneCell'])
  refine ready_at 17 (by kernel_rfl) (by kernel_rfl) (fun K hK => ?_)
  simp only [List.getElem_cons_succ, List.getElem_cons_zero]
  go_simp
  try simp only [st, Result.andThen_ok, Sem.run_pure, Sem.run_bind]
  refine hK.out _ _ trivial (fun hHeld => ?_)
  clear hK K
  try simp only [List.getElem_cons_succ, List.getElem_cons_zero, Act.put, List.setIfInBounds_toArray, List.set_cons_zero, List.set_cons_succ]
  refine wpAnyH_done (by kernel_rfl) ?_ _
  go_wp2_with fail
  go_end0
  exact ⟨rfl, by rw [← not_call]; exact hr2, OC.out.trans ho2⟩
theorem not_yes (wr : Bool) (n : Int) : ((wr || decide (n < 0)) || decide (1 < n)) = (wr || !decide (0 ≤ n ∧ n ≤ 1)) := by
  cases wr
  · by_cases h : 0 ≤ n ∧ n ≤ 1
    · have h1 : ¬ n < 0 := by omega
      have h2 : ¬ 1 < n := by omega
      simp only [h, h1, h2]; rfl
    · have h1 : n < 0 ∨ 1 < n := by omega
      have h3 : decide (0 ≤ n ∧ n ≤ 1) = false := decide_eq_false h
      rw [h3]
      rcases h1 with h1 | h1 <;> simp [h1]
  · rfl
set_option maxRecDepth 100000 in
set_option maxHeartbeats 1000000 in
theorem wyes_any (w0 : World) (gb : Nat) (y : Hdr) (ys : List Hdr) (wr : Bool) (x : Not) (h : NHd) (w : World) (hr : Hid (Rd w0 gb (y :: ys) wr (ncells x h) w)) :
    Calls Tryz.prog 106 #[.pointer (some ⟨gb, 0, none⟩)] w (VDone15 w0 gb ys (wr || !decide (0 ≤ y.1.N ∧ y.1.N ≤ 1)) (ncells { x with Y := decide (y.1.N = 1) } h) w) := by
  go_enter Tryz.func106, Tryz.ntmps106
  refine wp_region_held_drew (S := (fun _ => True)) (by kernel_rfl) trivial (fun hHeld => ?_)
  have DR := Lib.hid (hr.out.on (Below.refl w.heap.size w).drew)
  have DO := Lib.hid ((Only.refl gb w).call (Below.refl w.heap.size w).drew)
  generalize w.drew = wd at *
  refine take_at 0 (by kernel_rfl) (v := ?v15) (by kernel_rfl) (by kernel_rfl) (by kernel_rfl) (fun _ _ _ h => h) (by rfl) ?y15 (by assumption) ?r15
  case y15 => (intro w hSw; (try dsimp only at hSw); simp only [List.getElem_cons_succ, List.getElem_cons_zero]; go_simp; (try with_reducible rfl))
  try simp only [List.getElem_cons_succ, List.getElem_cons_zero, Act.put, List.setIfInBounds_toArray, List.set_cons_zero, List.set_cons_succ]
  refine take_at 1 (by kernel_rfl) (v := ?v16) (by kernel_rfl) (by kernel_rfl) (by kernel_rfl) (fun _ _ _ h => h) (by rfl) ?y16 (by assumption) ?r16
  case y16 => (intro w hSw; (try dsimp only at hSw); simp only [List.getElem_cons_succ, List.getElem_cons_zero]; go_simp; (try with_reducible rfl))
  try simp only [List.getElem_cons_succ, List.getElem_cons_zero, Act.put, List.setIfInBounds_toArray, List.set_cons_zero, List.set_cons_succ]
  refine take_at 2 (by kernel_rfl) (v := ?v17) (by kernel_rfl) (by kernel_rfl) (by kernel_rfl) (fun _ _ _ h => h) (by rfl) ?y17 (by assumption) ?r17
  case y17 => (intro w hSw; (try dsimp only at hSw); simp only [List.getElem_cons_succ, List.getElem_cons_zero]; go_simp; (try with_reducible rfl))
  try simp only [List.getElem_cons_succ, List.getElem_cons_zero, Act.put, List.setIfInBounds_toArray, List.set_cons_zero, List.set_cons_succ]
  refine take_at 3 (by kernel_rfl) (v := ?v18) (by kernel_rfl) (by kernel_rfl) (by kernel_rfl) (fun _ _ _ h => h) (by rfl) ?y18 (by assumption) ?r18
  case y18 => (intro w hSw; (try dsimp only at hSw); simp only [List.getElem_cons_succ, List.getElem_cons_zero]; go_simp; (try with_reducible rfl))
  try simp only [List.getElem_cons_succ, List.getElem_cons_zero, Act.put, List.setIfInBounds_toArray, List.set_cons_zero, List.set_cons_succ]
  refine ready_at 4 (by kernel_rfl) (by kernel_rfl) (fun K hK => ?_)
  simp only [List.getElem_cons_succ, List.getElem_cons_zero]
  go_simp
  go_at_call 116
  refine (wtruth_any false _).mono ?_
  rintro e wt4 ⟨rfl, rfl⟩
  (try go_wp2_with fail)
  refine hK.out _ _ trivial (fun hHeld => ?_)
  clear hK K
  try simp only [List.getElem_cons_succ, List.getElem_cons_zero, Act.put, List.setIfInBounds_toArray, List.set_cons_zero, List.set_cons_succ]
  refine ready_at 5 (by kernel_rfl) (by kernel_rfl) (fun K hK => ?_)
  simp only [List.getElem_cons_succ, List.getElem_cons_zero]
  go_simp
  go_at_call 116
  refine (wtruth_any true _).mono ?_
  rintro e wt5 ⟨rfl, rfl⟩
  (try go_wp2_with fail)
  refine hK.out _ _ trivial (fun hHeld => ?_)
  clear hK K
  try simp only [List.getElem_cons_succ, List.getElem_cons_zero, Act.put, List.setIfInBounds_toArray, List.set_cons_zero, List.set_cons_succ]
  refine ready_at 6 (by kernel_rfl) (by kernel_rfl) (fun K hK => ?_)
  simp only [List.getElem_cons_succ, List.getElem_cons_zero]
  go_simp
  go_at_call 124
  refine (wnumber_any 0 1 w0 gb y ys wr (ncells x h) _ DR.out).mono ?_
  rintro e wa ⟨rfl, ra, oa⟩
  have RA := Lib.hid ra
  have OA := Lib.hid (DO.out.trans oa)
  clear ra oa
  (try go_wp2_with fail)
  refine hK.out _ _ trivial (fun hHeld => ?_)
  clear hK K
  try simp only [List.getElem_cons_succ, List.getElem_cons_zero, Act.put, List.setIfInBounds_toArray, List.set_cons_zero, List.set_cons_succ]
  refine ready_at 7 (by kernel_rfl) (by kernel_rfl) (fun K hK => ?_)
  simp only [List.getElem_cons_succ, List.getElem_cons_zero]
  go_simp
  go_at_call 116
  refine (wtruth_any true _).mono ?_
  rintro e wt7 ⟨rfl, rfl⟩
  (try go_wp2_with fail)
  refine hK.out _ _ trivial (fun hHeld => ?_)
  clear hK K
  try simp only [List.getElem_cons_succ, List.getElem_cons_zero, Act.put, List.setIfInBounds_toArray, List.set_cons_zero, List.set_cons_succ]
  refine take_at 8 (by kernel_rfl) (v := ?v19) (by kernel_rfl) (by kernel_rfl) (by kernel_rfl) (fun _ _ _ h => h) (by rfl) ?y19 (by assumption) ?r19
  case y19 => (intro w hSw; (try dsimp only at hSw); simp only [List.getElem_cons_succ, List.getElem_cons_zero]; go_simp; (try with_reducible rfl))
  try simp only [List.getElem_cons_succ, List.getElem_cons_zero, Act.put, List.setIfInBounds_toArray, List.set_cons_zero, List.set_cons_succ]
  refine take_at 9 (by kernel_rfl) (v := ?v20) (by kernel_rfl) (by kernel_rfl) (by kernel_rfl) (fun _ _ _ h => h) (by rfl) ?y20 (by assumption) ?r20
  case y20 => (intro w hSw; (try dsimp only at hSw); simp only [List.getElem_cons_succ, List.getElem_cons_zero]; go_simp; (try with_reducible rfl))
  try simp only [List.getElem_cons_succ, List.getElem_cons_zero, Act.put, List.setIfInBounds_toArray, List.set_cons_zero, List.set_cons_succ]
  refine take_at 10 (by kernel_rfl) (v := ?v21) (by kernel_rfl) (by kernel_rfl) (by kernel_rfl) (fun _ _ _ h => h) (by rfl) ?y21 (by assumption) ?r21
  case y21 => (intro w hSw; (try dsimp only at hSw); simp only [List.getElem_cons_succ, List.getElem_cons_zero]; go_simp; (try with_reducible rfl))
  try simp only [List.getElem_cons_succ, List.getElem_cons_zero, Act.put, List.setIfInBounds_toArray, List.set_cons_zero, List.set_cons_succ]
  refine take_at 11 (by kernel_rfl) (v := ?v22) (by kernel_rfl) (by kernel_rfl) (by kernel_rfl) (fun _ _ _ h => h) (by rfl) ?y22 (by assumption) ?r22
  case y22 => (intro w hSw; (try dsimp only at hSw); simp only [List.getElem_cons_succ, List.getElem_cons_zero]; go_simp; (try with_reducible rfl))
  try simp only [List.getElem_cons_succ, List.getElem_cons_zero, Act.put, List.setIfInBounds_toArray, List.set_cons_zero, List.set_cons_succ]
  obtain ⟨c1, f1⟩ := RA.out.cell 12 (ncells_12 x h)
  have HS := Lib.hid (RA.out.setCell 12 (.bool (decide (y.1.N = 1))))
  rw [nc_yes] at HS
  have HO := Lib.hid (OA.out.set 14 (.bool (decide (y.1.N = 1))))
  refine ready_at 12 (by kernel_rfl) (by kernel_rfl) (fun K hK => ?_)
  simp only [List.getElem_cons_succ, List.getElem_cons_zero]
  go_simp
  refine hK.out _ _ trivial (fun hHeld => ?_)
  clear hK K
  try simp only [List.getElem_cons_succ, List.getElem_cons_zero, Act.put, List.setIfInBounds_toArray, List.set_cons_zero, List.set_cons_succ]
  refine wpAnyH_done (by kernel_rfl) ?_ _
  go_wp2_with fail
  go_end0
  exact ⟨rfl, by rw [← not_yes]; exact HS.out, HO.out⟩
end
end
section
set_option linter.unusedSimpArgs false
set_option linter.unusedVariables false
section
variable {P : Program} {ops : Array Oper} {md : Region.Mode} {C : World → Prop}
/-- The head: as long as it is not through, what may come up is of it, and quiet. -/
def wpHead (P : Program) (md : Region.Mode) (ops : Array Oper) (C : World → Prop) (n : Nat) (L : Array Bool → Act → Prop) : Nat → Array Bool → Act → Prop
  | 0, listed, a => L listed a
  | f + 1, listed, a => Region.ready md ops listed ≠ [] ∧ ∀ i ∈ Region.ready md ops listed, i < n ∧ qOp P ops C i (wpHead P md ops C n L f (listed.setIfInBounds i true)) a
theorem wpHead_first {n i : Nat} {oi : Oper} {v : Value} {L : Array Bool → Act → Prop} (hi : ops[i]? = some oi) (hsel : ∀ (j : Nat) (o : Oper) cs b, ops[j]? = some o → o.op ≠ .select cs b)
    (hs : Region.sinkB md ops n = true) (hc : Region.chainB md ops n = true) (hn : n < ops.size) (hin : i < n) (hdone : ∀ listed a, L listed a → ∀ j ∈ Region.ready md ops listed, n ≤ j) (f : Nat) :
    ∀ (listed : Array Bool) (a : Act), HeadInv md ops n listed →
      (∀ j oj, ops[j]? = some oj → j ≠ i → listed.getD j true = false → (∀ e ∈ oj.after, Region.binds md e = true → e.on ≠ i) → oi.apart ops oj = true) →
      i ∈ Region.ready md ops listed → YieldsIn P ops C oi v a → wpHead P md ops C n L f (listed.setIfInBounds i true) (a.put oi.dst v) → wpHead P md ops C n L (f + 1) listed a := by
  induction f with
  | zero =>
    intro listed a inv _ hr hy H
    have hun := (mem_ready.1 hr).1
    refine ⟨List.ne_nil_of_mem hr, fun j hj => ?_⟩
    have hjn : j < n := Nat.lt_of_not_le fun h => tail_waits hs hc hn inv _ i rfl hin hun j h hj
    by_cases hji : j = i
    · subst hji; exact ⟨hjn, hy.qOp hi H⟩
    · have := hdone _ _ H j (ready_mono hj hji); omega
  | succ f ih =>
    intro listed a inv hfree hr hy H
    have hun := (mem_ready.1 hr).1
    refine ⟨List.ne_nil_of_mem hr, fun j hj => ?_⟩
    have hjn : j < n := Nat.lt_of_not_le fun h => tail_waits hs hc hn inv _ i rfl hin hun j h hj
    by_cases hji : j = i
    · subst hji; exact ⟨hjn, hy.qOp hi H⟩
    · refine ⟨hjn, ?_⟩
      obtain ⟨hjun, oj, hoj, hall⟩ := mem_ready.1 hj
      have hnot : ∀ e ∈ oj.after, Region.binds md e = true → e.on ≠ i := fun e he hb heq => by
        have h1 := hall e he hb
        rw [heq, getD_both hun] at h1; cases h1
      refine qOp_mono (fun a' h3 => ih _ a' (inv.set hj hjn) (fun k ok hk hki hku hno => hfree k ok hk hki ?_ hno) (ready_mono hr (Ne.symm hji)) h3.1 ?_)
        (qOp_put hoj (hfree j oj hoj hji hjun hnot) (fun cs b => hsel i oi cs b hi) (fun cs b => hsel j oj cs b hoj) hy (H.2 j (ready_mono hj hji)).2)
      · by_cases hjk : j = k
        · subst hjk; exact hjun
        · rwa [getD_set_ne true hjk] at hku
      · rw [Array.setIfInBounds_comm _ _ hji]; exact h3.2
theorem wpHead_lex {n g : Nat} {Lq : Act → Prop} (hsel : Region.noSelect ops = true) (hs : Region.sinkB md ops n = true) (hc : Region.chainB md ops n = true) (hn : n < ops.size) :
    ∀ (l : List Oper) (k : Nat) (listed : Array Bool) (a : Act), (∀ j, j < l.length → l[j]? = ops[k + j]?) → k + l.length = n → HeadInv md ops n listed →
      Region.lexHead md ops g l.length k listed = true → wpQuiet P ops C Lq l a → wpHead P md ops C n (fun listed' a' => Region.seqB md ops g n listed' = true ∧ Lq a') l.length listed a := by
  intro l
  induction l with
  | nil =>
    intro k listed a _ hk _ hB h
    simp only [List.length_nil, Nat.add_zero] at hk
    subst hk
    exact ⟨hB, h⟩
  | cons o l ih =>
    intro k listed a hl hk inv hB h
    have h0 : ops[k]? = some o := (hl 0 (by simp)).symm
    simp only [List.length_cons, Region.lexHead, Bool.and_eq_true] at hB hk
    have hr : k ∈ Region.ready md ops listed := by simpa using hB.1.1
    obtain ⟨v, hy, hK⟩ := yieldsIn_of_qOp (C := C) (P := P) (K := wpQuiet P ops C Lq l) h0 (by unfold qOp; simp only [h0]; exact h)
    exact wpHead_first h0 (Region.noSelect_spec hsel) hs hc hn (by omega) (fun _ _ hL => seqB_ready hL.1) l.length listed a inv (Region.free_spec h0 hB.1.2) hr hy
      (ih (k + 1) _ _ (fun j hj => by have h1 := hl (j + 1) (by simp; omega); rw [List.getElem?_cons_succ] at h1; rw [h1, show k + (j + 1) = k + 1 + j by omega]) (by omega) (inv.set hr (by omega)) hB.2 hK)
variable {Q : Exit → Act → World → Prop}
theorem any_of_head {n g : Nat} {L : Array Bool → Act → Prop} (hL : ∀ listed a w, C w → L listed a → wpAny P md ops Q g listed a w) (f : Nat) :
    ∀ (listed : Array Bool) (a : Act) (w : World), C w → wpHead P md ops C n L f listed a → wpAny P md ops Q (f + g) listed a w := by
  induction f with
  | zero => intro listed a w hC h; rw [Nat.zero_add]; exact hL _ _ _ hC h
  | succ f ih =>
    intro listed a w hC h
    rw [show f + 1 + g = f + g + 1 by omega]
    exact ⟨fun h0 => absurd h0 h.1, fun i hi => wpOp_of_qOp hC (fun a' w' hw' h' => ih _ a' w' hw' h') (h.2 i hi).2⟩
/-- What a lexical head comes to. -/
theorem head_of_lex {l : List Oper} {a : Act} {Lq : Act → Prop} (n : Nat) (hB : Region.lexTailB .any l.toArray n = true) (h : wpQuiet P l.toArray C Lq (l.take n) a) :
    n < l.length ∧ wpHead P .any l.toArray C n (fun listed' a' => Region.seqB .any l.toArray (l.length - n) n listed' = true ∧ Lq a') n (Array.replicate l.length false) a := by
  simp only [Region.lexTailB, Bool.and_eq_true, decide_eq_true_eq] at hB
  obtain ⟨⟨⟨⟨hsel, hn⟩, hs⟩, hc⟩, hlex⟩ := hB
  have hn' : n < l.length := by simpa using hn
  have htl : (l.take n).length = n := by rw [List.length_take]; omega
  have inv : HeadInv .any l.toArray n (Array.replicate l.toArray.size false) :=
    ⟨by simp, fun j oj _ hl => (by rw [getD_replicate_false] at hl; cases hl), fun t _ ht => getD_in (by simpa using ht) (getD_replicate_false _ _)⟩
  have H := wpHead_lex (P := P) (C := C) (Lq := Lq) (md := .any) (g := l.toArray.size - n) hsel hs hc hn (l.take n) 0 _ a (fun j hj => by rw [List.getElem?_take_of_lt (by omega)]; simp) (by omega) inv (by rw [htl]; exact hlex) h
  rw [htl] at H
  exact ⟨hn', by simpa using H⟩
variable {F : Fence} {m : Nat}
end
end
section
set_option linter.unusedSimpArgs false
set_option linter.unusedVariables false
section
variable {P : Program} {ops : Array Oper} {md : Region.Mode} {Q : Exit → Act → World → Prop} {S : World → Prop}
/-- Any order from here on; what is held is held behind each operation ahead of number n. -/
def AnyZ (P : Program) (md : Region.Mode) (ops : Array Oper) (Q : Exit → Act → World → Prop) (S : World → Prop) (n : Nat) (f : Nat) (listed : Array Bool) (a : Act) (w : World) : Prop :=
  match f with
  | 0 => Region.ready md ops listed = [] ∧ Q .normal a w
  | f + 1 => (Region.ready md ops listed = [] → Q .normal a w) ∧ ∀ k ∈ Region.ready md ops listed, wpOp P ops Q k (fun b u => (k < n → S u) ∧ AnyZ P md ops Q S n f (listed.setIfInBounds k true) b u) a w
theorem any_of_Z {n : Nat} (f : Nat) : ∀ (listed : Array Bool) (a : Act) (w : World), AnyZ P md ops Q S n f listed a w → wpAny P md ops Q f listed a w := by
  induction f with
  | zero => intro _ _ _ h; exact h
  | succ f ih => intro _ _ _ h; exact ⟨h.1, fun k hk => wpOp_mono (fun b u hb => ih _ b u hb.2) (h.2 k hk)⟩
/-- What the region is asked, by a computation. -/
def zB (md : Region.Mode) (ops : Array Oper) (n : Nat) : Bool := Region.noSelect ops && decide (n < ops.size) && Region.sinkB md ops n && Region.chainB md ops n
theorem zB_spec {n : Nat} (h : zB md ops n = true) : Region.noSelect ops = true ∧ n < ops.size ∧ Region.sinkB md ops n = true ∧ Region.chainB md ops n = true := by
  simp only [zB, Bool.and_eq_true, decide_eq_true_eq] at h
  exact ⟨h.1.1.1, h.1.1.2, h.1.2, h.2⟩
theorem z_first {n i : Nat} {oi : Oper} {v : Value} (hB : zB md ops n = true) (hi : ops[i]? = some oi) (hin : i < n) (hQ : ∀ c a w, Q (.panic c) (a.put oi.dst v) w → Q (.panic c) a w) (f : Nat) :
    ∀ (listed : Array Bool) (a : Act) (w : World), HeadInv md ops n listed →
      (∀ j oj, ops[j]? = some oj → j ≠ i → listed.getD j true = false → (∀ e ∈ oj.after, Region.binds md e = true → e.on ≠ i) → oi.apart ops oj = true) →
      i ∈ Region.ready md ops listed → YieldsIf P ops S oi v a → S w → AnyZ P md ops Q S n f (listed.setIfInBounds i true) (a.put oi.dst v) w → AnyZ P md ops Q S n (f + 1) listed a w := by
  obtain ⟨hsel0, hn, hs, hc⟩ := zB_spec hB
  have hsel := Region.noSelect_spec hsel0
  have now : ∀ (g : Nat) (listed : Array Bool) (a : Act) (w : World), YieldsIf P ops S oi v a → S w → AnyZ P md ops Q S n g (listed.setIfInBounds i true) (a.put oi.dst v) w →
      wpOp P ops Q i (fun b u => (i < n → S u) ∧ AnyZ P md ops Q S n g (listed.setIfInBounds i true) b u) a w := fun g listed a w hy hS H => hy.wpOp hi hS ⟨fun _ => hS, H⟩
  induction f with
  | zero =>
    intro listed a w _ _ hr hy hS H
    refine ⟨fun h0 => absurd hr (by rw [h0]; simp), fun k hk => ?_⟩
    rcases Nat.decEq k i with hki | hki
    · exact absurd (ready_mono hk hki) (by rw [H.1]; simp)
    · subst hki; exact now 0 listed a w hy hS H
  | succ f ih =>
    intro listed a w inv hfree hr hy hS H
    have hun := (mem_ready.1 hr).1
    refine ⟨fun h0 => absurd hr (by rw [h0]; simp), fun k hk => ?_⟩
    rcases Nat.decEq k i with hki | hki
    rotate_left
    · subst hki; exact now (f + 1) listed a w hy hS H
    have hkn : k < n := Nat.lt_of_not_le fun h => tail_waits hs hc hn inv _ i rfl hin hun k h hk
    obtain ⟨hkun, ok, hok, hall⟩ := mem_ready.1 hk
    have hno : ∀ e ∈ ok.after, Region.binds md e = true → e.on ≠ i := fun e he hb heq => by
      have h1 := hall e he hb
      rw [heq, getD_both hun] at h1; cases h1
    have hput := wpOp_putIf hok (hfree k ok hok hki hkun hno) (fun cs b => hsel i oi cs b hi) (fun cs b => hsel k ok cs b hok) hQ hy (H.2 k (ready_mono hk hki))
    refine wpOp_mono (fun b u hb => ⟨hb.2.1, ih _ b u (inv.set hk hkn) (fun j oj hj hji hju hjo => hfree j oj hj hji ?_ hjo) (ready_mono hr (Ne.symm hki)) hb.1 (hb.2.1 hkn) ?_⟩) hput
    · by_cases hkj : k = j
      · subst hkj; exact hkun
      · rwa [getD_set_ne true hkj] at hju
    · rw [Array.setIfInBounds_comm _ _ hki]; exact hb.2.2
variable {l : List Oper} {n f : Nat} {listed : Array Bool} {a : Act} {w : World}
theorem blt_ltz {i n : Nat} (h : Nat.blt i n = true) : i < n := Nat.le_of_ble_eq_true h
theorem at_toArrayz {i : Nat} (h : i < l.length) : l.toArray[i]? = some l[i] := by simp [h]
theorem z_take (i : Nat) (hlen : Nat.blt i l.length = true) {v : Value} (hB : zB md l.toArray n = true) (hin : Nat.blt i n = true) (hf : Region.free md l.toArray listed i = true) (hr : (Region.ready md l.toArray listed).contains i = true)
    (hQ : ∀ c a w, Q (.panic c) (a.put (l[i]'(blt_ltz hlen)).dst v) w → Q (.panic c) a w) (hw : Region.wanted (l[i]'(blt_ltz hlen)) (yielded l.toArray a.tmps) = true)
    (hy : ∀ w, S w → (execOp a.eval (l[i]'(blt_ltz hlen))).run P w = .ok (.value v) w) (hS : S w) (inv : HeadInv md l.toArray n listed)
    (h : HeadInv md l.toArray n (listed.setIfInBounds i true) → AnyZ P md l.toArray Q S n f (listed.setIfInBounds i true) (a.put (l[i]'(blt_ltz hlen)).dst v) w) : AnyZ P md l.toArray Q S n (f + 1) listed a w := by
  have hrm : i ∈ Region.ready md l.toArray listed := by simpa using hr
  exact z_first hB (at_toArrayz (blt_ltz hlen)) (blt_ltz hin) hQ f listed a w inv (Region.free_spec (at_toArrayz (blt_ltz hlen)) hf) hrm (Or.inl ⟨hw, hy⟩) hS (h (inv.set hrm (blt_ltz hin)))
theorem z_ready (i : Nat) (hlen : Nat.blt i l.length = true) (hin : Nat.blt i n = true) (hr : Region.ready md l.toArray listed = [i]) (inv : HeadInv md l.toArray n listed)
    (h : ∀ K' : Act → World → Prop, Shut (∀ a w, S w → (S w → HeadInv md l.toArray n (listed.setIfInBounds i true) → AnyZ P md l.toArray Q S n f (listed.setIfInBounds i true) a w) → K' a w) → if Region.wanted (l[i]'(blt_ltz hlen)) (yielded l.toArray a.tmps) = true then Oper.wp P (l[i]'(blt_ltz hlen)) a w K' Q else K' (a.put (l[i]'(blt_ltz hlen)).dst undef) w) :
    AnyZ P md l.toArray Q S n (f + 1) listed a w := by
  refine ⟨fun h0 => (by rw [hr] at h0; cases h0), fun k hk => ?_⟩
  have hki : k = i := by rw [hr] at hk; simpa using hk
  have hinv := inv.set hk (by rw [hki]; exact blt_ltz hin)
  subst hki
  exact wpOp_step (at_toArrayz (blt_ltz hlen)) (fun K' hK => h K' (fun a w hS hW => hK a w ⟨fun _ => hS, hW hS hinv⟩))
theorem z_last (i : Nat) (hlen : Nat.blt i l.length = true) (hin : n = i) (hr : Region.ready md l.toArray listed = [i]) (hd : Region.ready md l.toArray (listed.setIfInBounds i true) = [])
    (h : ∀ K' : Act → World → Prop, Shut (∀ a w, Q .normal a w → K' a w) → if Region.wanted (l[i]'(blt_ltz hlen)) (yielded l.toArray a.tmps) = true then Oper.wp P (l[i]'(blt_ltz hlen)) a w K' Q else K' (a.put (l[i]'(blt_ltz hlen)).dst undef) w) :
    AnyZ P md l.toArray Q S n (f + 1) listed a w := by
  refine ⟨fun h0 => (by rw [hr] at h0; cases h0), fun k hk => ?_⟩
  have hki : k = i := by rw [hr] at hk; simpa using hk
  subst hki
  refine wpOp_step (at_toArrayz (blt_ltz hlen)) (fun K' hK => h K' (fun a w hQ => hK a w ⟨fun hlt => (by omega), ?_⟩))
  cases f with
  | zero => exact ⟨hd, hQ⟩
  | succ f => exact ⟨fun _ => hQ, fun j hj => (by rw [hd] at hj; cases hj)⟩
theorem wp_region_Z (n : Nat) {id : Nat} (hm : P.follows .mixedOrders = true) (hS : S w.drew)
    (h : S w.drew → HeadInv .any l.toArray n (Array.replicate l.toArray.size false) → AnyZ P .any l.toArray Q S n l.toArray.size (Array.replicate l.toArray.size false) a w.drew) : (Code.region id l.toArray true).wp P Q a w :=
  wp_region_any hm (any_of_Z _ _ _ _ (h hS ⟨by simp, fun j oj _ hl => (by rw [getD_replicate_false] at hl; cases hl), fun t _ ht => getD_in (by simpa using ht) (getD_replicate_false _ _)⟩))
end
end
section
set_option linter.unusedSimpArgs false
set_option linter.unusedVariables false
open Go.RowKit
theorem region_cls_tail {P : Program} {Q : Exit → Act → World → Prop} {I : Type} (W : I → World) {id : Nat} {a : Act} {w : World} {l : List Oper} (n : Nat) (hm : P.follows .mixedOrders = true) (hB : Region.lexTailB .any l.toArray n = true) (h0 : ∃ k, w.drew = W k)
    (h : wpQuiet P l.toArray (fun w' => ∃ k, w' = W k) (fun a' => ∀ w', (∃ k, w' = W k) → wpList P l.toArray Q (l.drop n) a' w') (l.take n) a) : (Code.region id l.toArray true).wp P Q a w := by
  obtain ⟨hn, H⟩ := head_of_lex n hB h
  refine wp_region_any hm ?_
  have hA := any_of_head (Q := Q) (g := l.length - n) (C := fun w' => ∃ k, w' = W k) (fun listed a' w' hw' hL => by
    have h1 := wpAny_of_seq (md := .any) (Q' := Q) (l.drop n) n listed a' w' (fun j => by simp [List.getElem?_drop]) (by rw [List.length_drop]; exact hL.1) (hL.2 w' hw')
    rwa [List.length_drop] at h1) n _ a w.drew h0 H
  rw [show n + (l.length - n) = l.length by omega] at hA
  simpa using hA
end
end Go.Proofs.YtbogjfmefkhglaaGreat
