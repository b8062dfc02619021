/-
  What a fact has by a letter (written by mkitem9.py).
-/
import Derived.Test.YtokpabkcaofahaaGreatPb9
import Derived.Test.YtokpabkcaofahaaGreatPb16
namespace Go.Proofs.YtokpabkcaofahaaGreat
section
set_option linter.unusedSimpArgs false
set_option linter.unusedVariables false
open Go.RowKit Sha Fct
open Fld (Itm)
abbrev itz : Itm := ⟨0, [], Fld.zero32⟩
theorem item_zero1 : (Tryz.prog.info? 83).map (fun i => i.zero) = some (some (.agg (icells itz none 0).toArray)) := by unfold icells; kernel_rfl
theorem itz_ok : itz.ok := (iN_good (World.settled Tryz.prog default) (n := 0) ⟨by omega, by omega⟩).ok
theorem item_sizeA {x : Itm} (hx : x.ok) (q : Option Addr) (c : Nat) : (Tryz.prog.info? 83).map (fun i => i.size) = some (icells x q c).toArray.size := by
  rw [item_size, List.size_toArray, icells_length hx]
theorem item_sizeE {x y : Itm} (hx : x.ok) (hy : y.ok) (q r : Option Addr) (c d : Nat) : (icells x q c).toArray.size = (icells y r d).toArray.size := by
  rw [List.size_toArray, List.size_toArray, icells_length hx, icells_length hy]
theorem item_all1 (x : Itm) (q : Option Addr) (c : Nat) : (icells x q c).toArray.all (·.oneCell') = true := by
  rw [Array.all_eq_true_iff_forall_mem]; intro v hv; exact icells_one x q c v (by simpa using hv)
theorem execOp_allocItem (ρ : Operand → Value) (dst : Option Tmp) (ty : TypeId) (pos : String) (after : Array Edge) (guard : Option (Nat × Bool)) :
    execOp ρ { dst := dst, op := .alloc 83, type := ty, pos := pos, after := after, guard := guard } = allocOp 83 := by unfold allocOp; rfl
theorem execOp_storeItem (ρ : Operand → Value) (dst : Option Tmp) (x y : Operand) (ty : TypeId) (pos : String) (after : Array Edge) (guard : Option (Nat × Bool)) :
    execOp ρ { dst := dst, op := .store 83 x y, type := ty, pos := pos, after := after, guard := guard } = storeOp 83 (ρ x) (ρ y) := by unfold storeOp; rfl
theorem execOp_boxItem (ρ : Operand → Value) (dst : Option Tmp) (x : Operand) (ty : TypeId) (pos : String) (after : Array Edge) (guard : Option (Nat × Bool)) :
    execOp ρ { dst := dst, op := .box 83 x, type := ty, pos := pos, after := after, guard := guard } = boxOp 83 (ρ x) := by unfold boxOp; rfl
theorem alloc_item (w : World) : (allocOp 83).run Tryz.prog w = .ok (.value (.pointer (some ⟨w.heap.size, 0, none⟩))) (w.alloc (.cells (icells itz none 0).toArray 83)) := run_allocOp w item_zero1
theorem store_item1 (w : World) {x : Itm} {q : Option Addr} {c : Nat} (hx : x.ok) : (storeOp 83 (.pointer (some ⟨w.heap.size, 0, none⟩)) (.agg (icells x q c).toArray)).run Tryz.prog (w.alloc (.cells (icells itz none 0).toArray 83)) = .ok .skip (w.alloc (.cells (icells x q c).toArray 83)) :=
  run_storeNew w (item_sizeA hx q c) (item_sizeE itz_ok hx ..) (item_all1 ..)
/-- What a fact has by a letter: an item, and where its bytes lie. -/
def hdrOf (x : Fac) (q : Option Addr) (c : Nat) (l : Int) : Hdr :=
  if l = 115 then iNh x.S else if l = 104 then iNh x.H else if l = 110 then iNh x.N else if l = 111 then iNh x.O else if l = 105 then iDh x.D else (iB x.B, q, c)
def isHas (l : Int) : Prop := l = 115 ∨ l = 104 ∨ l = 110 ∨ l = 111 ∨ l = 105 ∨ l = 99 ∨ l = 100
theorem hasL_is (k : Int) : ∀ l ∈ hasL k, isHas l := by
  intro l hl
  unfold hasL at hl
  (repeat' split at hl) <;> simp at hl <;> unfold isHas <;> omega
theorem hdrOf_map (x : Fac) (q : Option Addr) (c : Nat) : (hasL x.K).map (hdrOf x q c) = itemsH x q c := by
  unfold hasL itemsH
  (repeat' split) <;> simp [hdrOf]
theorem hdrOf_good {w : World} {x : Fac} {q : Option Addr} {c : Nat} (h : sF.Good w x q c) (l : Int) : GoodI w (hdrOf x q c l).1 (hdrOf x q c l).2.1 (hdrOf x q c l).2.2 := by
  have gS := iN_good w h.ok.S
  have gH := iN_good w h.ok.H
  have gN := iN_good w h.ok.N
  have gO := iN_good w h.ok.O
  have gD := iD_good w h.ok.D h.ok.len
  have gB := iB_good h
  unfold hdrOf iNh iDh
  (repeat' split) <;> assumption
/-- The answer: an item's cells. -/
def IDone (y : Hdr) (w : World) (e : Ending) (w' : World) : Prop := e = .returned (.agg (cellsI y).toArray) ∧ Below w.heap.size w w'
attribute [local go_sem ↓] execOp_boxFact execOp_loadId execOp_makeItem execOp_allocItem execOp_storeItem
set_option maxRecDepth 100000 in
set_option maxHeartbeats 1000000 in
theorem itemOf_S (x : Fac) (q : Option Addr) (c : Nat) (w : World) (h : sF.Good w x q c) :
    Calls Tryz.prog 85 #[.agg (fcells x q c).toArray, .int .i32 115] w (IDone (iN x.S, none, 0) w) := by
  have bx := run_boxOp (P := Tryz.prog) (t := 28) (cs := (fcells x q c).toArray) w
  have hz1 : (w.alloc (Obj.cells (fcells x q c).toArray 28)).heap.size = w.heap.size + 1 := World.size_alloc ..
  have hy : (iN x.S : Itm).ok := (hdrOf_good h 115).ok
  have st := store_item1 (w.alloc (.cells (fcells x q c).toArray 28)) (x := iN x.S) (q := none) (c := 0) hy
  have al := alloc_item (w.alloc (.cells (fcells x q c).toArray 28))
  have hb1 := (Below.refl w.heap.size w).alloc (Nat.le_refl _) (.cells (fcells x q c).toArray 28)
  have hk1 : Blk (w.alloc (Obj.cells (fcells x q c).toArray 28)) w.heap.size (fcells x q c) 28 := Blk.new w (fcells x q c).toArray 28
  obtain ⟨w1, hw1⟩ : ∃ v, v = w.alloc (.cells (fcells x q c).toArray 28) := ⟨_, rfl⟩
  rw [← hw1] at bx st al hb1 hk1 hz1
  have HK := Lib.hid (hk1.old (.cells (icells itz none 0).toArray 83))
  have hB := Lib.hid (hb1.alloc (by omega) (.cells (icells (iN x.S) none 0).toArray 83))
  have hC := Lib.hid (show Blk (w1.alloc (.cells (icells (iN x.S) none 0).toArray 83)) w1.heap.size (icells (iN x.S) none 0) 83 from Blk.new w1 _ 83)
  have HS := Lib.hid (item_sizeA hy none 0)
  have HX := Lib.hid h
  generalize w1.alloc (.cells (icells itz none 0).toArray 83) = w2 at *
  generalize w1.alloc (.cells (icells (iN x.S) none 0).toArray 83) = w3 at *
  clear hb1 hk1 hw1 h hy
  rw [hz1] at st al hC
  clear hz1
  have v0 : w2.cell? ⟨w.heap.size, 1, none⟩ = some (.int .i64 x.S) := (HK.out.cell 1).trans (fcells_S x q c)
  have mk := fun w => make_iN x.S w
  go_enter Tryz.func85, Tryz.ntmps85
  go_wp2_with fail
  exact bodyPost_ret (v := .agg (icells (iN x.S) none 0).toArray) (results_cell_row rfl _ _ _ _ _ _ _ rfl hC.out (Tryz.underlying83) rfl HS.out) rfl ⟨rfl, hB.out⟩
set_option maxRecDepth 100000 in
set_option maxHeartbeats 1000000 in
theorem itemOf_H (x : Fac) (q : Option Addr) (c : Nat) (w : World) (h : sF.Good w x q c) :
    Calls Tryz.prog 85 #[.agg (fcells x q c).toArray, .int .i32 104] w (IDone (iN x.H, none, 0) w) := by
  have bx := run_boxOp (P := Tryz.prog) (t := 28) (cs := (fcells x q c).toArray) w
  have hz1 : (w.alloc (Obj.cells (fcells x q c).toArray 28)).heap.size = w.heap.size + 1 := World.size_alloc ..
  have hy : (iN x.H : Itm).ok := (hdrOf_good h 104).ok
  have st := store_item1 (w.alloc (.cells (fcells x q c).toArray 28)) (x := iN x.H) (q := none) (c := 0) hy
  have al := alloc_item (w.alloc (.cells (fcells x q c).toArray 28))
  have hb1 := (Below.refl w.heap.size w).alloc (Nat.le_refl _) (.cells (fcells x q c).toArray 28)
  have hk1 : Blk (w.alloc (Obj.cells (fcells x q c).toArray 28)) w.heap.size (fcells x q c) 28 := Blk.new w (fcells x q c).toArray 28
  obtain ⟨w1, hw1⟩ : ∃ v, v = w.alloc (.cells (fcells x q c).toArray 28) := ⟨_, rfl⟩
  rw [← hw1] at bx st al hb1 hk1 hz1
  have HK := Lib.hid (hk1.old (.cells (icells itz none 0).toArray 83))
  have hB := Lib.hid (hb1.alloc (by omega) (.cells (icells (iN x.H) none 0).toArray 83))
  have hC := Lib.hid (show Blk (w1.alloc (.cells (icells (iN x.H) none 0).toArray 83)) w1.heap.size (icells (iN x.H) none 0) 83 from Blk.new w1 _ 83)
  have HS := Lib.hid (item_sizeA hy none 0)
  have HX := Lib.hid h
  generalize w1.alloc (.cells (icells itz none 0).toArray 83) = w2 at *
  generalize w1.alloc (.cells (icells (iN x.H) none 0).toArray 83) = w3 at *
  clear hb1 hk1 hw1 h hy
  rw [hz1] at st al hC
  clear hz1
  have v0 : w2.cell? ⟨w.heap.size, 2, none⟩ = some (.int .i64 x.H) := (HK.out.cell 2).trans (fcells_H x q c)
  have mk := fun w => make_iN x.H w
  go_enter Tryz.func85, Tryz.ntmps85
  go_wp2_with fail
  exact bodyPost_ret (v := .agg (icells (iN x.H) none 0).toArray) (results_cell_row rfl _ _ _ _ _ _ _ rfl hC.out (Tryz.underlying83) rfl HS.out) rfl ⟨rfl, hB.out⟩
set_option maxRecDepth 100000 in
set_option maxHeartbeats 1000000 in
theorem itemOf_N (x : Fac) (q : Option Addr) (c : Nat) (w : World) (h : sF.Good w x q c) :
    Calls Tryz.prog 85 #[.agg (fcells x q c).toArray, .int .i32 110] w (IDone (iN x.N, none, 0) w) := by
  have bx := run_boxOp (P := Tryz.prog) (t := 28) (cs := (fcells x q c).toArray) w
  have hz1 : (w.alloc (Obj.cells (fcells x q c).toArray 28)).heap.size = w.heap.size + 1 := World.size_alloc ..
  have hy : (iN x.N : Itm).ok := (hdrOf_good h 110).ok
  have st := store_item1 (w.alloc (.cells (fcells x q c).toArray 28)) (x := iN x.N) (q := none) (c := 0) hy
  have al := alloc_item (w.alloc (.cells (fcells x q c).toArray 28))
  have hb1 := (Below.refl w.heap.size w).alloc (Nat.le_refl _) (.cells (fcells x q c).toArray 28)
  have hk1 : Blk (w.alloc (Obj.cells (fcells x q c).toArray 28)) w.heap.size (fcells x q c) 28 := Blk.new w (fcells x q c).toArray 28
  obtain ⟨w1, hw1⟩ : ∃ v, v = w.alloc (.cells (fcells x q c).toArray 28) := ⟨_, rfl⟩
  rw [← hw1] at bx st al hb1 hk1 hz1
  have HK := Lib.hid (hk1.old (.cells (icells itz none 0).toArray 83))
  have hB := Lib.hid (hb1.alloc (by omega) (.cells (icells (iN x.N) none 0).toArray 83))
  have hC := Lib.hid (show Blk (w1.alloc (.cells (icells (iN x.N) none 0).toArray 83)) w1.heap.size (icells (iN x.N) none 0) 83 from Blk.new w1 _ 83)
  have HS := Lib.hid (item_sizeA hy none 0)
  have HX := Lib.hid h
  generalize w1.alloc (.cells (icells itz none 0).toArray 83) = w2 at *
  generalize w1.alloc (.cells (icells (iN x.N) none 0).toArray 83) = w3 at *
  clear hb1 hk1 hw1 h hy
  rw [hz1] at st al hC
  clear hz1
  have v0 : w2.cell? ⟨w.heap.size, 3, none⟩ = some (.int .i64 x.N) := (HK.out.cell 3).trans (fcells_N x q c)
  have mk := fun w => make_iN x.N w
  go_enter Tryz.func85, Tryz.ntmps85
  go_wp2_with fail
  exact bodyPost_ret (v := .agg (icells (iN x.N) none 0).toArray) (results_cell_row rfl _ _ _ _ _ _ _ rfl hC.out (Tryz.underlying83) rfl HS.out) rfl ⟨rfl, hB.out⟩
set_option maxRecDepth 100000 in
set_option maxHeartbeats 1000000 in
theorem itemOf_O (x : Fac) (q : Option Addr) (c : Nat) (w : World) (h : sF.Good w x q c) :
    Calls Tryz.prog 85 #[.agg (fcells x q c).toArray, .int .i32 111] w (IDone (iN x.O, none, 0) w) := by
  have bx := run_boxOp (P := Tryz.prog) (t := 28) (cs := (fcells x q c).toArray) w
  have hz1 : (w.alloc (Obj.cells (fcells x q c).toArray 28)).heap.size = w.heap.size + 1 := World.size_alloc ..
  have hy : (iN x.O : Itm).ok := (hdrOf_good h 111).ok
  have st := store_item1 (w.alloc (.cells (fcells x q c).toArray 28)) (x := iN x.O) (q := none) (c := 0) hy
  have al := alloc_item (w.alloc (.cells (fcells x q c).toArray 28))
  have hb1 := (Below.refl w.heap.size w).alloc (Nat.le_refl _) (.cells (fcells x q c).toArray 28)
  have hk1 : Blk (w.alloc (Obj.cells (fcells x q c).toArray 28)) w.heap.size (fcells x q c) 28 := Blk.new w (fcells x q c).toArray 28
  obtain ⟨w1, hw1⟩ : ∃ v, v = w.alloc (.cells (fcells x q c).toArray 28) := ⟨_, rfl⟩
  rw [← hw1] at bx st al hb1 hk1 hz1
  have HK := Lib.hid (hk1.old (.cells (icells itz none 0).toArray 83))
  have hB := Lib.hid (hb1.alloc (by omega) (.cells (icells (iN x.O) none 0).toArray 83))
  have hC := Lib.hid (show Blk (w1.alloc (.cells (icells (iN x.O) none 0).toArray 83)) w1.heap.size (icells (iN x.O) none 0) 83 from Blk.new w1 _ 83)
  have HS := Lib.hid (item_sizeA hy none 0)
  have HX := Lib.hid h
  generalize w1.alloc (.cells (icells itz none 0).toArray 83) = w2 at *
  generalize w1.alloc (.cells (icells (iN x.O) none 0).toArray 83) = w3 at *
  clear hb1 hk1 hw1 h hy
  rw [hz1] at st al hC
  clear hz1
  have v0 : w2.cell? ⟨w.heap.size, 4, none⟩ = some (.int .i64 x.O) := (HK.out.cell 4).trans (fcells_O x q c)
  have mk := fun w => make_iN x.O w
  go_enter Tryz.func85, Tryz.ntmps85
  go_wp2_with fail
  exact bodyPost_ret (v := .agg (icells (iN x.O) none 0).toArray) (results_cell_row rfl _ _ _ _ _ _ _ rfl hC.out (Tryz.underlying83) rfl HS.out) rfl ⟨rfl, hB.out⟩
set_option maxRecDepth 100000 in
set_option maxHeartbeats 1000000 in
theorem itemOf_D (x : Fac) (q : Option Addr) (c : Nat) (w : World) (h : sF.Good w x q c) :
    Calls Tryz.prog 85 #[.agg (fcells x q c).toArray, .int .i32 105] w (IDone (iD x.D, none, 0) w) := by
  have bx := run_boxOp (P := Tryz.prog) (t := 28) (cs := (fcells x q c).toArray) w
  have hz1 : (w.alloc (Obj.cells (fcells x q c).toArray 28)).heap.size = w.heap.size + 1 := World.size_alloc ..
  have hy : (iD x.D : Itm).ok := (hdrOf_good h 105).ok
  have st := store_item1 (w.alloc (.cells (fcells x q c).toArray 28)) (x := iD x.D) (q := none) (c := 0) hy
  have al := alloc_item (w.alloc (.cells (fcells x q c).toArray 28))
  have hb1 := (Below.refl w.heap.size w).alloc (Nat.le_refl _) (.cells (fcells x q c).toArray 28)
  have hk1 : Blk (w.alloc (Obj.cells (fcells x q c).toArray 28)) w.heap.size (fcells x q c) 28 := Blk.new w (fcells x q c).toArray 28
  obtain ⟨w1, hw1⟩ : ∃ v, v = w.alloc (.cells (fcells x q c).toArray 28) := ⟨_, rfl⟩
  rw [← hw1] at bx st al hb1 hk1 hz1
  have HK := Lib.hid (hk1.old (.cells (icells itz none 0).toArray 83))
  have hB := Lib.hid (hb1.alloc (by omega) (.cells (icells (iD x.D) none 0).toArray 83))
  have hC := Lib.hid (show Blk (w1.alloc (.cells (icells (iD x.D) none 0).toArray 83)) w1.heap.size (icells (iD x.D) none 0) 83 from Blk.new w1 _ 83)
  have HS := Lib.hid (item_sizeA hy none 0)
  have HX := Lib.hid h
  generalize w1.alloc (.cells (icells itz none 0).toArray 83) = w2 at *
  generalize w1.alloc (.cells (icells (iD x.D) none 0).toArray 83) = w3 at *
  clear hb1 hk1 hw1 h hy
  rw [hz1] at st al hC
  clear hz1
  have v0 : (loadOp 25 (.pointer (some ⟨w.heap.size, 5, none⟩))).run Tryz.prog w2 = .ok (.value (.agg (x.D.map v8).toArray)) w2 := load_fid (o := 0) HX.out.ok.len HK.out.range
  have mk := fun w => make_iD x.D HX.out.ok.len w
  go_enter Tryz.func85, Tryz.ntmps85
  go_wp2_with fail
  exact bodyPost_ret (v := .agg (icells (iD x.D) none 0).toArray) (results_cell_row rfl _ _ _ _ _ _ _ rfl hC.out (Tryz.underlying83) rfl HS.out) rfl ⟨rfl, hB.out⟩
set_option maxRecDepth 100000 in
set_option maxHeartbeats 1000000 in
theorem itemOf_B (x : Fac) (q : Option Addr) (c : Nat) (w : World) (h : sF.Good w x q c) :
    Calls Tryz.prog 85 #[.agg (fcells x q c).toArray, .int .i32 99] w (IDone (iB x.B, q, c) w) := by
  have bx := run_boxOp (P := Tryz.prog) (t := 28) (cs := (fcells x q c).toArray) w
  have hz1 : (w.alloc (Obj.cells (fcells x q c).toArray 28)).heap.size = w.heap.size + 1 := World.size_alloc ..
  have hy : (iB x.B : Itm).ok := (hdrOf_good h 99).ok
  have st := store_item1 (w.alloc (.cells (fcells x q c).toArray 28)) (x := iB x.B) (q := q) (c := c) hy
  have al := alloc_item (w.alloc (.cells (fcells x q c).toArray 28))
  have hb1 := (Below.refl w.heap.size w).alloc (Nat.le_refl _) (.cells (fcells x q c).toArray 28)
  have hk1 : Blk (w.alloc (Obj.cells (fcells x q c).toArray 28)) w.heap.size (fcells x q c) 28 := Blk.new w (fcells x q c).toArray 28
  obtain ⟨w1, hw1⟩ : ∃ v, v = w.alloc (.cells (fcells x q c).toArray 28) := ⟨_, rfl⟩
  rw [← hw1] at bx st al hb1 hk1 hz1
  have HK := Lib.hid (hk1.old (.cells (icells itz none 0).toArray 83))
  have hB := Lib.hid (hb1.alloc (by omega) (.cells (icells (iB x.B) q c).toArray 83))
  have hC := Lib.hid (show Blk (w1.alloc (.cells (icells (iB x.B) q c).toArray 83)) w1.heap.size (icells (iB x.B) q c) 83 from Blk.new w1 _ 83)
  have HS := Lib.hid (item_sizeA hy q c)
  have HX := Lib.hid h
  generalize w1.alloc (.cells (icells itz none 0).toArray 83) = w2 at *
  generalize w1.alloc (.cells (icells (iB x.B) q c).toArray 83) = w3 at *
  clear hb1 hk1 hw1 h hy
  rw [hz1] at st al hC
  clear hz1
  obtain ⟨m, hm⟩ : ∃ m, m = x.B.length := ⟨_, rfl⟩
  have v0 : w2.cell? ⟨w.heap.size, 37, none⟩ = some (.slice q m c) := by rw [hm]; exact (HK.out.cell 37).trans (fcells_B HX.out.ok.len q c)
  have mk := fun w => make_iB x.B q m c hm w
  clear hm
  go_enter Tryz.func85, Tryz.ntmps85
  go_wp2_with fail
  exact bodyPost_ret (v := .agg (icells (iB x.B) q c).toArray) (results_cell_row rfl _ _ _ _ _ _ _ rfl hC.out (Tryz.underlying83) rfl HS.out) rfl ⟨rfl, hB.out⟩
set_option maxRecDepth 100000 in
set_option maxHeartbeats 1000000 in
theorem itemOf_B2 (x : Fac) (q : Option Addr) (c : Nat) (w : World) (h : sF.Good w x q c) :
    Calls Tryz.prog 85 #[.agg (fcells x q c).toArray, .int .i32 100] w (IDone (iB x.B, q, c) w) := by
  have bx := run_boxOp (P := Tryz.prog) (t := 28) (cs := (fcells x q c).toArray) w
  have hz1 : (w.alloc (Obj.cells (fcells x q c).toArray 28)).heap.size = w.heap.size + 1 := World.size_alloc ..
  have hy : (iB x.B : Itm).ok := (hdrOf_good h 100).ok
  have st := store_item1 (w.alloc (.cells (fcells x q c).toArray 28)) (x := iB x.B) (q := q) (c := c) hy
  have al := alloc_item (w.alloc (.cells (fcells x q c).toArray 28))
  have hb1 := (Below.refl w.heap.size w).alloc (Nat.le_refl _) (.cells (fcells x q c).toArray 28)
  have hk1 : Blk (w.alloc (Obj.cells (fcells x q c).toArray 28)) w.heap.size (fcells x q c) 28 := Blk.new w (fcells x q c).toArray 28
  obtain ⟨w1, hw1⟩ : ∃ v, v = w.alloc (.cells (fcells x q c).toArray 28) := ⟨_, rfl⟩
  rw [← hw1] at bx st al hb1 hk1 hz1
  have HK := Lib.hid (hk1.old (.cells (icells itz none 0).toArray 83))
  have hB := Lib.hid (hb1.alloc (by omega) (.cells (icells (iB x.B) q c).toArray 83))
  have hC := Lib.hid (show Blk (w1.alloc (.cells (icells (iB x.B) q c).toArray 83)) w1.heap.size (icells (iB x.B) q c) 83 from Blk.new w1 _ 83)
  have HS := Lib.hid (item_sizeA hy q c)
  have HX := Lib.hid h
  generalize w1.alloc (.cells (icells itz none 0).toArray 83) = w2 at *
  generalize w1.alloc (.cells (icells (iB x.B) q c).toArray 83) = w3 at *
  clear hb1 hk1 hw1 h hy
  rw [hz1] at st al hC
  clear hz1
  obtain ⟨m, hm⟩ : ∃ m, m = x.B.length := ⟨_, rfl⟩
  have v0 : w2.cell? ⟨w.heap.size, 37, none⟩ = some (.slice q m c) := by rw [hm]; exact (HK.out.cell 37).trans (fcells_B HX.out.ok.len q c)
  have mk := fun w => make_iB x.B q m c hm w
  clear hm
  go_enter Tryz.func85, Tryz.ntmps85
  go_wp2_with fail
  exact bodyPost_ret (v := .agg (icells (iB x.B) q c).toArray) (results_cell_row rfl _ _ _ _ _ _ _ rfl hC.out (Tryz.underlying83) rfl HS.out) rfl ⟨rfl, hB.out⟩
theorem itemOf_any (x : Fac) (q : Option Addr) (c : Nat) (l : Int) (hl : isHas l) (w : World) (h : sF.Good w x q c) :
    Calls Tryz.prog 85 #[.agg (fcells x q c).toArray, .int .i32 l] w (IDone (hdrOf x q c l) w) := by
  rcases hl with rfl | rfl | rfl | rfl | rfl | rfl | rfl
  · exact itemOf_S x q c w h
  · exact itemOf_H x q c w h
  · exact itemOf_N x q c w h
  · exact itemOf_O x q c w h
  · exact itemOf_D x q c w h
  · exact itemOf_B x q c w h
  · exact itemOf_B2 x q c w h
end
end Go.Proofs.YtokpabkcaofahaaGreat
