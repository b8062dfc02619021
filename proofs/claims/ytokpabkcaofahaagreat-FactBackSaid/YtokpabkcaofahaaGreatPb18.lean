/-
  Bounds by a letter; what a letter gives a fact (written by mklay9.py).
-/
import Derived.Test.YtokpabkcaofahaaGreatPb17
import Derived.Test.YtokpabkcaofahaaGreatPb14
import Derived.Deep.RegionHeld3
namespace Go.Proofs.YtokpabkcaofahaaGreat
section
set_option linter.unusedSimpArgs false
set_option linter.unusedVariables false
open Go.RowKit Sha Fct
open Fld (Itm)
/-- Is an item within its letter's bounds? -/
def inB (l : Int) (y : Itm) : Bool :=
  if l = 115 ∨ l = 110 then decide (1 ≤ y.N ∧ y.N ≤ 2147483647) else if l = 104 ∨ l = 111 then decide (1 ≤ y.N ∧ y.N ≤ 64) else
  if l = 99 then decide (y.B.length ≤ 1024) else if l = 100 then decide (y.B.length ≤ 4000) else true
attribute [local go_sem ↓] execOp_boxItem execOp_loadId execOp_storeInt execOp_storeId execOp_storeBytes
set_option maxRecDepth 100000 in
set_option maxHeartbeats 1000000 in
theorem within_115y (y : Itm) (q : Option Addr) (c : Nat) (w : World) (h : 1 ≤ y.N) :
    Calls Tryz.prog 114 #[.int .i32 115, .agg (icells y q c).toArray] w fun e w' => e = .returned (.bool (decide (y.N ≤ 2147483647))) ∧ Below w.heap.size w w' := by
  have bx := run_boxOp (P := Tryz.prog) (t := 83) (cs := (icells y q c).toArray) w
  have hB := Lib.hid ((Below.refl w.heap.size w).alloc (Nat.le_refl _) (.cells (icells y q c).toArray 83))
  have HK := Lib.hid (show Blk (w.alloc (Obj.cells (icells y q c).toArray 83)) w.heap.size (icells y q c) 83 from Blk.new w (icells y q c).toArray 83)
  generalize w.alloc (.cells (icells y q c).toArray 83) = w1 at *
  have v0 : w1.cell? ⟨w.heap.size, 0, none⟩ = some (.int .i64 y.N) := (HK.out.cell 0).trans (icells_0 y q c)
  have hd : decide (1 ≤ y.N) = true := by simpa using h
  clear h
  go_enter Tryz.func114, Tryz.ntmps114
  go_wp2_with fail
  go_ret
  exact ⟨rfl, hB.out⟩
set_option maxRecDepth 100000 in
set_option maxHeartbeats 1000000 in
theorem within_115n (y : Itm) (q : Option Addr) (c : Nat) (w : World) (h : ¬ 1 ≤ y.N) :
    Calls Tryz.prog 114 #[.int .i32 115, .agg (icells y q c).toArray] w fun e w' => e = .returned (.bool false) ∧ Below w.heap.size w w' := by
  have bx := run_boxOp (P := Tryz.prog) (t := 83) (cs := (icells y q c).toArray) w
  have hB := Lib.hid ((Below.refl w.heap.size w).alloc (Nat.le_refl _) (.cells (icells y q c).toArray 83))
  have HK := Lib.hid (show Blk (w.alloc (Obj.cells (icells y q c).toArray 83)) w.heap.size (icells y q c) 83 from Blk.new w (icells y q c).toArray 83)
  generalize w.alloc (.cells (icells y q c).toArray 83) = w1 at *
  have v0 : w1.cell? ⟨w.heap.size, 0, none⟩ = some (.int .i64 y.N) := (HK.out.cell 0).trans (icells_0 y q c)
  have hd : decide (1 ≤ y.N) = false := by simpa using h
  clear h
  go_enter Tryz.func114, Tryz.ntmps114
  go_wp2_with fail
  go_ret
  exact ⟨rfl, hB.out⟩
set_option maxRecDepth 100000 in
set_option maxHeartbeats 1000000 in
theorem within_110y (y : Itm) (q : Option Addr) (c : Nat) (w : World) (h : 1 ≤ y.N) :
    Calls Tryz.prog 114 #[.int .i32 110, .agg (icells y q c).toArray] w fun e w' => e = .returned (.bool (decide (y.N ≤ 2147483647))) ∧ Below w.heap.size w w' := by
  have bx := run_boxOp (P := Tryz.prog) (t := 83) (cs := (icells y q c).toArray) w
  have hB := Lib.hid ((Below.refl w.heap.size w).alloc (Nat.le_refl _) (.cells (icells y q c).toArray 83))
  have HK := Lib.hid (show Blk (w.alloc (Obj.cells (icells y q c).toArray 83)) w.heap.size (icells y q c) 83 from Blk.new w (icells y q c).toArray 83)
  generalize w.alloc (.cells (icells y q c).toArray 83) = w1 at *
  have v0 : w1.cell? ⟨w.heap.size, 0, none⟩ = some (.int .i64 y.N) := (HK.out.cell 0).trans (icells_0 y q c)
  have hd : decide (1 ≤ y.N) = true := by simpa using h
  clear h
  go_enter Tryz.func114, Tryz.ntmps114
  go_wp2_with fail
  go_ret
  exact ⟨rfl, hB.out⟩
set_option maxRecDepth 100000 in
set_option maxHeartbeats 1000000 in
theorem within_110n (y : Itm) (q : Option Addr) (c : Nat) (w : World) (h : ¬ 1 ≤ y.N) :
    Calls Tryz.prog 114 #[.int .i32 110, .agg (icells y q c).toArray] w fun e w' => e = .returned (.bool false) ∧ Below w.heap.size w w' := by
  have bx := run_boxOp (P := Tryz.prog) (t := 83) (cs := (icells y q c).toArray) w
  have hB := Lib.hid ((Below.refl w.heap.size w).alloc (Nat.le_refl _) (.cells (icells y q c).toArray 83))
  have HK := Lib.hid (show Blk (w.alloc (Obj.cells (icells y q c).toArray 83)) w.heap.size (icells y q c) 83 from Blk.new w (icells y q c).toArray 83)
  generalize w.alloc (.cells (icells y q c).toArray 83) = w1 at *
  have v0 : w1.cell? ⟨w.heap.size, 0, none⟩ = some (.int .i64 y.N) := (HK.out.cell 0).trans (icells_0 y q c)
  have hd : decide (1 ≤ y.N) = false := by simpa using h
  clear h
  go_enter Tryz.func114, Tryz.ntmps114
  go_wp2_with fail
  go_ret
  exact ⟨rfl, hB.out⟩
set_option maxRecDepth 100000 in
set_option maxHeartbeats 1000000 in
theorem within_104y (y : Itm) (q : Option Addr) (c : Nat) (w : World) (h : 1 ≤ y.N) :
    Calls Tryz.prog 114 #[.int .i32 104, .agg (icells y q c).toArray] w fun e w' => e = .returned (.bool (decide (y.N ≤ 64))) ∧ Below w.heap.size w w' := by
  have bx := run_boxOp (P := Tryz.prog) (t := 83) (cs := (icells y q c).toArray) w
  have hB := Lib.hid ((Below.refl w.heap.size w).alloc (Nat.le_refl _) (.cells (icells y q c).toArray 83))
  have HK := Lib.hid (show Blk (w.alloc (Obj.cells (icells y q c).toArray 83)) w.heap.size (icells y q c) 83 from Blk.new w (icells y q c).toArray 83)
  generalize w.alloc (.cells (icells y q c).toArray 83) = w1 at *
  have v0 : w1.cell? ⟨w.heap.size, 0, none⟩ = some (.int .i64 y.N) := (HK.out.cell 0).trans (icells_0 y q c)
  have hd : decide (1 ≤ y.N) = true := by simpa using h
  clear h
  go_enter Tryz.func114, Tryz.ntmps114
  go_wp2_with fail
  go_ret
  exact ⟨rfl, hB.out⟩
set_option maxRecDepth 100000 in
set_option maxHeartbeats 1000000 in
theorem within_104n (y : Itm) (q : Option Addr) (c : Nat) (w : World) (h : ¬ 1 ≤ y.N) :
    Calls Tryz.prog 114 #[.int .i32 104, .agg (icells y q c).toArray] w fun e w' => e = .returned (.bool false) ∧ Below w.heap.size w w' := by
  have bx := run_boxOp (P := Tryz.prog) (t := 83) (cs := (icells y q c).toArray) w
  have hB := Lib.hid ((Below.refl w.heap.size w).alloc (Nat.le_refl _) (.cells (icells y q c).toArray 83))
  have HK := Lib.hid (show Blk (w.alloc (Obj.cells (icells y q c).toArray 83)) w.heap.size (icells y q c) 83 from Blk.new w (icells y q c).toArray 83)
  generalize w.alloc (.cells (icells y q c).toArray 83) = w1 at *
  have v0 : w1.cell? ⟨w.heap.size, 0, none⟩ = some (.int .i64 y.N) := (HK.out.cell 0).trans (icells_0 y q c)
  have hd : decide (1 ≤ y.N) = false := by simpa using h
  clear h
  go_enter Tryz.func114, Tryz.ntmps114
  go_wp2_with fail
  go_ret
  exact ⟨rfl, hB.out⟩
set_option maxRecDepth 100000 in
set_option maxHeartbeats 1000000 in
theorem within_111y (y : Itm) (q : Option Addr) (c : Nat) (w : World) (h : 1 ≤ y.N) :
    Calls Tryz.prog 114 #[.int .i32 111, .agg (icells y q c).toArray] w fun e w' => e = .returned (.bool (decide (y.N ≤ 64))) ∧ Below w.heap.size w w' := by
  have bx := run_boxOp (P := Tryz.prog) (t := 83) (cs := (icells y q c).toArray) w
  have hB := Lib.hid ((Below.refl w.heap.size w).alloc (Nat.le_refl _) (.cells (icells y q c).toArray 83))
  have HK := Lib.hid (show Blk (w.alloc (Obj.cells (icells y q c).toArray 83)) w.heap.size (icells y q c) 83 from Blk.new w (icells y q c).toArray 83)
  generalize w.alloc (.cells (icells y q c).toArray 83) = w1 at *
  have v0 : w1.cell? ⟨w.heap.size, 0, none⟩ = some (.int .i64 y.N) := (HK.out.cell 0).trans (icells_0 y q c)
  have hd : decide (1 ≤ y.N) = true := by simpa using h
  clear h
  go_enter Tryz.func114, Tryz.ntmps114
  go_wp2_with fail
  go_ret
  exact ⟨rfl, hB.out⟩
set_option maxRecDepth 100000 in
set_option maxHeartbeats 1000000 in
theorem within_111n (y : Itm) (q : Option Addr) (c : Nat) (w : World) (h : ¬ 1 ≤ y.N) :
    Calls Tryz.prog 114 #[.int .i32 111, .agg (icells y q c).toArray] w fun e w' => e = .returned (.bool false) ∧ Below w.heap.size w w' := by
  have bx := run_boxOp (P := Tryz.prog) (t := 83) (cs := (icells y q c).toArray) w
  have hB := Lib.hid ((Below.refl w.heap.size w).alloc (Nat.le_refl _) (.cells (icells y q c).toArray 83))
  have HK := Lib.hid (show Blk (w.alloc (Obj.cells (icells y q c).toArray 83)) w.heap.size (icells y q c) 83 from Blk.new w (icells y q c).toArray 83)
  generalize w.alloc (.cells (icells y q c).toArray 83) = w1 at *
  have v0 : w1.cell? ⟨w.heap.size, 0, none⟩ = some (.int .i64 y.N) := (HK.out.cell 0).trans (icells_0 y q c)
  have hd : decide (1 ≤ y.N) = false := by simpa using h
  clear h
  go_enter Tryz.func114, Tryz.ntmps114
  go_wp2_with fail
  go_ret
  exact ⟨rfl, hB.out⟩
set_option maxRecDepth 100000 in
set_option maxHeartbeats 1000000 in
theorem within_99 (y : Itm) (q : Option Addr) (c m : Nat) (w : World) (hm : m = y.B.length) :
    Calls Tryz.prog 114 #[.int .i32 99, .agg (icells y q c).toArray] w fun e w' => e = .returned (.bool (decide ((m : Int) ≤ 1024))) ∧ Below w.heap.size w w' := by
  have bx := run_boxOp (P := Tryz.prog) (t := 83) (cs := (icells y q c).toArray) w
  have hB := Lib.hid ((Below.refl w.heap.size w).alloc (Nat.le_refl _) (.cells (icells y q c).toArray 83))
  have HK := Lib.hid (show Blk (w.alloc (Obj.cells (icells y q c).toArray 83)) w.heap.size (icells y q c) 83 from Blk.new w (icells y q c).toArray 83)
  generalize w.alloc (.cells (icells y q c).toArray 83) = w1 at *
  have v0 : w1.cell? ⟨w.heap.size, 1, none⟩ = some (.slice q m c) := by rw [hm]; exact (HK.out.cell 1).trans (icells_1 y q c)
  clear hm
  go_enter Tryz.func114, Tryz.ntmps114
  go_wp2_with fail
  go_ret
  exact ⟨rfl, hB.out⟩
set_option maxRecDepth 100000 in
set_option maxHeartbeats 1000000 in
theorem within_100 (y : Itm) (q : Option Addr) (c m : Nat) (w : World) (hm : m = y.B.length) :
    Calls Tryz.prog 114 #[.int .i32 100, .agg (icells y q c).toArray] w fun e w' => e = .returned (.bool (decide ((m : Int) ≤ 4000))) ∧ Below w.heap.size w w' := by
  have bx := run_boxOp (P := Tryz.prog) (t := 83) (cs := (icells y q c).toArray) w
  have hB := Lib.hid ((Below.refl w.heap.size w).alloc (Nat.le_refl _) (.cells (icells y q c).toArray 83))
  have HK := Lib.hid (show Blk (w.alloc (Obj.cells (icells y q c).toArray 83)) w.heap.size (icells y q c) 83 from Blk.new w (icells y q c).toArray 83)
  generalize w.alloc (.cells (icells y q c).toArray 83) = w1 at *
  have v0 : w1.cell? ⟨w.heap.size, 1, none⟩ = some (.slice q m c) := by rw [hm]; exact (HK.out.cell 1).trans (icells_1 y q c)
  clear hm
  go_enter Tryz.func114, Tryz.ntmps114
  go_wp2_with fail
  go_ret
  exact ⟨rfl, hB.out⟩
set_option maxRecDepth 100000 in
set_option maxHeartbeats 1000000 in
theorem within_105 (y : Itm) (q : Option Addr) (c : Nat) (w : World) :
    Calls Tryz.prog 114 #[.int .i32 105, .agg (icells y q c).toArray] w fun e w' => e = .returned (.bool true) ∧ Below w.heap.size w w' := by
  have bx := run_boxOp (P := Tryz.prog) (t := 83) (cs := (icells y q c).toArray) w
  have hB := Lib.hid ((Below.refl w.heap.size w).alloc (Nat.le_refl _) (.cells (icells y q c).toArray 83))
  have HK := Lib.hid (show Blk (w.alloc (Obj.cells (icells y q c).toArray 83)) w.heap.size (icells y q c) 83 from Blk.new w (icells y q c).toArray 83)
  generalize w.alloc (.cells (icells y q c).toArray 83) = w1 at *
  go_enter Tryz.func114, Tryz.ntmps114
  go_wp2_with fail
  go_ret
  exact ⟨rfl, hB.out⟩
theorem within_any (l : Int) (hl : isHas l) (y : Itm) (q : Option Addr) (c : Nat) (w : World) :
    Calls Tryz.prog 114 #[.int .i32 l, .agg (icells y q c).toArray] w fun e w' => e = .returned (.bool (inB l y)) ∧ Below w.heap.size w w' := by
  rcases hl with rfl | rfl | rfl | rfl | rfl | rfl | rfl
  · by_cases h : 1 ≤ y.N
    · exact (within_115y y q c w h).mono fun e w' ⟨he, hb⟩ => ⟨by rw [he]; simp [inB, h], hb⟩
    · exact (within_115n y q c w h).mono fun e w' ⟨he, hb⟩ => ⟨by rw [he]; simp [inB, h], hb⟩
  · by_cases h : 1 ≤ y.N
    · exact (within_104y y q c w h).mono fun e w' ⟨he, hb⟩ => ⟨by rw [he]; simp [inB, h], hb⟩
    · exact (within_104n y q c w h).mono fun e w' ⟨he, hb⟩ => ⟨by rw [he]; simp [inB, h], hb⟩
  · by_cases h : 1 ≤ y.N
    · exact (within_110y y q c w h).mono fun e w' ⟨he, hb⟩ => ⟨by rw [he]; simp [inB, h], hb⟩
    · exact (within_110n y q c w h).mono fun e w' ⟨he, hb⟩ => ⟨by rw [he]; simp [inB, h], hb⟩
  · by_cases h : 1 ≤ y.N
    · exact (within_111y y q c w h).mono fun e w' ⟨he, hb⟩ => ⟨by rw [he]; simp [inB, h], hb⟩
    · exact (within_111n y q c w h).mono fun e w' ⟨he, hb⟩ => ⟨by rw [he]; simp [inB, h], hb⟩
  · exact (within_105 y q c w).mono fun e w' ⟨he, hb⟩ => ⟨by rw [he]; simp [inB], hb⟩
  · exact (within_99 y q c _ w rfl).mono fun e w' ⟨he, hb⟩ => ⟨by rw [he]; simp [inB]; omega, hb⟩
  · exact (within_100 y q c _ w rfl).mono fun e w' ⟨he, hb⟩ => ⟨by rw [he]; simp [inB]; omega, hb⟩
def layF (z : Fac) (l : Int) (y : Itm) : Fac :=
  if l = 115 then { z with S := y.N } else if l = 104 then { z with H := y.N } else if l = 110 then { z with N := y.N } else if l = 111 then { z with O := y.N } else
  if l = 105 then { z with D := y.D } else if l = 99 then { z with D := Sha.sum y.B, B := y.B } else { z with B := y.B }
def layQ {α : Type} (l : Int) (a b : α) : α := if l = 99 ∨ l = 100 then b else a
theorem layF_ok {z : Fac} (hz : z.ok) {y : Itm} (hy : y.ok) (l : Int) : (layF z l y).ok := by
  have hN : fit y.N := ⟨hy.1, hy.2⟩
  unfold layF
  (repeat' split)
  · exact ⟨hz.K, hN, hz.H, hz.N, hz.O, hz.D, hz.B, hz.len⟩
  · exact ⟨hz.K, hz.S, hN, hz.N, hz.O, hz.D, hz.B, hz.len⟩
  · exact ⟨hz.K, hz.S, hz.H, hN, hz.O, hz.D, hz.B, hz.len⟩
  · exact ⟨hz.K, hz.S, hz.H, hz.N, hN, hz.D, hz.B, hz.len⟩
  · exact ⟨hz.K, hz.S, hz.H, hz.N, hz.O, hy.D, hz.B, hy.len⟩
  · exact ⟨hz.K, hz.S, hz.H, hz.N, hz.O, sum8 _, hy.B, sum32 _⟩
  · exact ⟨hz.K, hz.S, hz.H, hz.N, hz.O, hz.D, hy.B, hz.len⟩
theorem stF_N (z : Fac) (q : Option Addr) (c : Nat) (n : Int) (hz : z.D.length = 32) : StF 3 3 (.int .i64 n) z q c { z with N := n } q c := stF_one int_size1 rfl rfl hz (by omega) rfl
theorem stF_O (z : Fac) (q : Option Addr) (c : Nat) (n : Int) (hz : z.D.length = 32) : StF 3 4 (.int .i64 n) z q c { z with O := n } q c := stF_one int_size1 rfl rfl hz (by omega) rfl
/-- The block g holds another fact; all else is as it was. -/
def LyDone (g : Nat) (z : Fac) (q : Option Addr) (c : Nat) (w : World) (e : Ending) (w' : World) : Prop := e = .returned (.tuple #[]) ∧ Blk w' g (fcells z q c) 28 ∧ Touch [g] w w'
set_option maxRecDepth 100000 in
set_option maxHeartbeats 1000000 in
theorem lay_115 (g : Nat) (z : Fac) (q : Option Addr) (c : Nat) (y : Itm) (p : Option Addr) (d : Nat) (w : World) (hg : Blk w g (fcells z q c) 28) (hz : z.D.length = 32) (hy : y.ok) :
    Calls Tryz.prog 115 #[.pointer (some ⟨g, 0, none⟩), .int .i32 115, .agg (icells y p d).toArray] w (LyDone g { z with S := y.N } q c w) := by
  have bx := run_boxOp (P := Tryz.prog) (t := 83) (cs := (icells y p d).toArray) w
  have hT := Lib.hid (Touch.of_below (fp := [g]) ((Below.refl w.heap.size w).alloc (Nat.le_refl _) (.cells (icells y p d).toArray 83)))
  have HK := Lib.hid (show Blk (w.alloc (Obj.cells (icells y p d).toArray 83)) w.heap.size (icells y p d) 83 from Blk.new w (icells y p d).toArray 83)
  have HG := Lib.hid (hg.old (.cells (icells y p d).toArray 83))
  generalize w.alloc (.cells (icells y p d).toArray 83) = w1 at *
  have v0 : w1.cell? ⟨w.heap.size, 0, none⟩ = some (.int .i64 y.N) := (HK.out.cell 0).trans (icells_0 y p d)
  obtain ⟨w2, sr, hk2, ht2⟩ := (stF_S z q c y.N hz).run HG.out
  have HK2 := Lib.hid hk2
  have HT2 := Lib.hid (hT.out.trans ht2 (From.refl _ _))
  clear hk2 ht2 hz hy hg
  go_enter Tryz.func115, Tryz.ntmps115
  go_wp2_with fail
  go_end0
  exact ⟨rfl, HK2.out, HT2.out⟩
set_option maxRecDepth 100000 in
set_option maxHeartbeats 1000000 in
theorem lay_104 (g : Nat) (z : Fac) (q : Option Addr) (c : Nat) (y : Itm) (p : Option Addr) (d : Nat) (w : World) (hg : Blk w g (fcells z q c) 28) (hz : z.D.length = 32) (hy : y.ok) :
    Calls Tryz.prog 115 #[.pointer (some ⟨g, 0, none⟩), .int .i32 104, .agg (icells y p d).toArray] w (LyDone g { z with H := y.N } q c w) := by
  have bx := run_boxOp (P := Tryz.prog) (t := 83) (cs := (icells y p d).toArray) w
  have hT := Lib.hid (Touch.of_below (fp := [g]) ((Below.refl w.heap.size w).alloc (Nat.le_refl _) (.cells (icells y p d).toArray 83)))
  have HK := Lib.hid (show Blk (w.alloc (Obj.cells (icells y p d).toArray 83)) w.heap.size (icells y p d) 83 from Blk.new w (icells y p d).toArray 83)
  have HG := Lib.hid (hg.old (.cells (icells y p d).toArray 83))
  generalize w.alloc (.cells (icells y p d).toArray 83) = w1 at *
  have v0 : w1.cell? ⟨w.heap.size, 0, none⟩ = some (.int .i64 y.N) := (HK.out.cell 0).trans (icells_0 y p d)
  obtain ⟨w2, sr, hk2, ht2⟩ := (stF_H z q c y.N hz).run HG.out
  have HK2 := Lib.hid hk2
  have HT2 := Lib.hid (hT.out.trans ht2 (From.refl _ _))
  clear hk2 ht2 hz hy hg
  go_enter Tryz.func115, Tryz.ntmps115
  go_wp2_with fail
  go_end0
  exact ⟨rfl, HK2.out, HT2.out⟩
set_option maxRecDepth 100000 in
set_option maxHeartbeats 1000000 in
theorem lay_110 (g : Nat) (z : Fac) (q : Option Addr) (c : Nat) (y : Itm) (p : Option Addr) (d : Nat) (w : World) (hg : Blk w g (fcells z q c) 28) (hz : z.D.length = 32) (hy : y.ok) :
    Calls Tryz.prog 115 #[.pointer (some ⟨g, 0, none⟩), .int .i32 110, .agg (icells y p d).toArray] w (LyDone g { z with N := y.N } q c w) := by
  have bx := run_boxOp (P := Tryz.prog) (t := 83) (cs := (icells y p d).toArray) w
  have hT := Lib.hid (Touch.of_below (fp := [g]) ((Below.refl w.heap.size w).alloc (Nat.le_refl _) (.cells (icells y p d).toArray 83)))
  have HK := Lib.hid (show Blk (w.alloc (Obj.cells (icells y p d).toArray 83)) w.heap.size (icells y p d) 83 from Blk.new w (icells y p d).toArray 83)
  have HG := Lib.hid (hg.old (.cells (icells y p d).toArray 83))
  generalize w.alloc (.cells (icells y p d).toArray 83) = w1 at *
  have v0 : w1.cell? ⟨w.heap.size, 0, none⟩ = some (.int .i64 y.N) := (HK.out.cell 0).trans (icells_0 y p d)
  obtain ⟨w2, sr, hk2, ht2⟩ := (stF_N z q c y.N hz).run HG.out
  have HK2 := Lib.hid hk2
  have HT2 := Lib.hid (hT.out.trans ht2 (From.refl _ _))
  clear hk2 ht2 hz hy hg
  go_enter Tryz.func115, Tryz.ntmps115
  go_wp2_with fail
  go_end0
  exact ⟨rfl, HK2.out, HT2.out⟩
set_option maxRecDepth 100000 in
set_option maxHeartbeats 1000000 in
theorem lay_111 (g : Nat) (z : Fac) (q : Option Addr) (c : Nat) (y : Itm) (p : Option Addr) (d : Nat) (w : World) (hg : Blk w g (fcells z q c) 28) (hz : z.D.length = 32) (hy : y.ok) :
    Calls Tryz.prog 115 #[.pointer (some ⟨g, 0, none⟩), .int .i32 111, .agg (icells y p d).toArray] w (LyDone g { z with O := y.N } q c w) := by
  have bx := run_boxOp (P := Tryz.prog) (t := 83) (cs := (icells y p d).toArray) w
  have hT := Lib.hid (Touch.of_below (fp := [g]) ((Below.refl w.heap.size w).alloc (Nat.le_refl _) (.cells (icells y p d).toArray 83)))
  have HK := Lib.hid (show Blk (w.alloc (Obj.cells (icells y p d).toArray 83)) w.heap.size (icells y p d) 83 from Blk.new w (icells y p d).toArray 83)
  have HG := Lib.hid (hg.old (.cells (icells y p d).toArray 83))
  generalize w.alloc (.cells (icells y p d).toArray 83) = w1 at *
  have v0 : w1.cell? ⟨w.heap.size, 0, none⟩ = some (.int .i64 y.N) := (HK.out.cell 0).trans (icells_0 y p d)
  obtain ⟨w2, sr, hk2, ht2⟩ := (stF_O z q c y.N hz).run HG.out
  have HK2 := Lib.hid hk2
  have HT2 := Lib.hid (hT.out.trans ht2 (From.refl _ _))
  clear hk2 ht2 hz hy hg
  go_enter Tryz.func115, Tryz.ntmps115
  go_wp2_with fail
  go_end0
  exact ⟨rfl, HK2.out, HT2.out⟩
set_option maxRecDepth 100000 in
set_option maxHeartbeats 1000000 in
theorem lay_105 (g : Nat) (z : Fac) (q : Option Addr) (c : Nat) (y : Itm) (p : Option Addr) (d : Nat) (w : World) (hg : Blk w g (fcells z q c) 28) (hz : z.D.length = 32) (hy : y.ok) :
    Calls Tryz.prog 115 #[.pointer (some ⟨g, 0, none⟩), .int .i32 105, .agg (icells y p d).toArray] w (LyDone g { z with D := y.D } q c w) := by
  have bx := run_boxOp (P := Tryz.prog) (t := 83) (cs := (icells y p d).toArray) w
  have hT := Lib.hid (Touch.of_below (fp := [g]) ((Below.refl w.heap.size w).alloc (Nat.le_refl _) (.cells (icells y p d).toArray 83)))
  have HK := Lib.hid (show Blk (w.alloc (Obj.cells (icells y p d).toArray 83)) w.heap.size (icells y p d) 83 from Blk.new w (icells y p d).toArray 83)
  have HG := Lib.hid (hg.old (.cells (icells y p d).toArray 83))
  generalize w.alloc (.cells (icells y p d).toArray 83) = w1 at *
  have v0 : (loadOp 25 (.pointer (some ⟨w.heap.size, 2, none⟩))).run Tryz.prog w1 = .ok (.value (.agg (y.D.map v8).toArray)) w1 := load_id (o := 0) hy HK.out.range
  obtain ⟨w2, sr, hk2, ht2⟩ := (stF_D z q c y.D hz hy.len).run HG.out
  have HK2 := Lib.hid hk2
  have HT2 := Lib.hid (hT.out.trans ht2 (From.refl _ _))
  clear hk2 ht2 hz hy hg
  go_enter Tryz.func115, Tryz.ntmps115
  go_wp2_with fail
  go_end0
  exact ⟨rfl, HK2.out, HT2.out⟩
set_option maxRecDepth 100000 in
set_option maxHeartbeats 1000000 in
theorem lay_100 (g : Nat) (z : Fac) (q : Option Addr) (c : Nat) (y : Itm) (p : Option Addr) (d : Nat) (w : World) (hg : Blk w g (fcells z q c) 28) (hz : z.D.length = 32) (hy : y.ok) :
    Calls Tryz.prog 115 #[.pointer (some ⟨g, 0, none⟩), .int .i32 100, .agg (icells y p d).toArray] w (LyDone g { z with B := y.B } p d w) := by
  have bx := run_boxOp (P := Tryz.prog) (t := 83) (cs := (icells y p d).toArray) w
  have hT := Lib.hid (Touch.of_below (fp := [g]) ((Below.refl w.heap.size w).alloc (Nat.le_refl _) (.cells (icells y p d).toArray 83)))
  have HK := Lib.hid (show Blk (w.alloc (Obj.cells (icells y p d).toArray 83)) w.heap.size (icells y p d) 83 from Blk.new w (icells y p d).toArray 83)
  have HG := Lib.hid (hg.old (.cells (icells y p d).toArray 83))
  generalize w.alloc (.cells (icells y p d).toArray 83) = w1 at *
  obtain ⟨m, hm⟩ : ∃ m, m = y.B.length := ⟨_, rfl⟩
  have v0 : w1.cell? ⟨w.heap.size, 1, none⟩ = some (.slice p m d) := by rw [hm]; exact (HK.out.cell 1).trans (icells_1 y p d)
  obtain ⟨w2, sr, hk2, ht2⟩ := (stF_B z q c y.B m hm p d hz).run HG.out
  clear hm
  have HK2 := Lib.hid hk2
  have HT2 := Lib.hid (hT.out.trans ht2 (From.refl _ _))
  clear hk2 ht2 hz hy hg
  go_enter Tryz.func115, Tryz.ntmps115
  go_wp2_with fail
  go_end0
  exact ⟨rfl, HK2.out, HT2.out⟩
/-- An id stored into a fact. -/
theorem setD {w : World} {g : Nat} {z : Fac} {q : Option Addr} {c : Nat} {D : List Int} (hb : Blk w g (fcells z q c) 28) (hz : z.D.length = 32) (hD : D.length = 32) :
    w.there g 5 (D.map v8).length ∧ Blk (w.setCells g 5 (D.map v8)) g (fcells { z with D := D } q c) 28 ∧ Touch [g] w (w.setCells g 5 (D.map v8)) := by
  refine ⟨hb.there 5 _ (by rw [fcells_length hz]; simp [hD]), ?_, ?_⟩
  · have e : ∀ (z : Fac), fcells z q c = [i64c z.K, i64c z.S, i64c z.H, i64c z.N, i64c z.O] ++ z.D.map v8 ++ [.slice q z.B.length c] := fun z => by unfold fcells; simp
    rw [e] at hb ⊢
    exact Blk.setCells (D.map v8) 5 w _ (z.D.map v8) _ hb rfl (by simp [hz, hD])
  · have h := setCells_below (a := w) (B := g) (Nat.le_refl _) (D.map v8) 5 w (Below.refl _ _)
    exact ⟨h.os, h.tape, h.output, h.size, fun k hk hn => setCells_heap g _ 5 w k (by simpa using hn)⟩
theorem sum_cells (b : List Int) : ∀ v ∈ (Sha.sum b).map v8, v.oneCell' = true := v8_cells
theorem sum_len8 (b : List Int) : (Tryz.prog.info? 25).map (fun x => x.size) = some ((Sha.sum b).map v8).length := by rw [id_size, List.length_map, sum32]
set_option maxRecDepth 100000 in
set_option maxHeartbeats 1000000 in
theorem lay_99 (g : Nat) (z : Fac) (q : Option Addr) (c : Nat) (y : Itm) (p : Option Addr) (d : Nat) (w : World) (hg : Blk w g (fcells z q c) 28) (hz : z.D.length = 32) (hy : GoodI w y p d) (hgy : OutOf g y.B p) :
    Calls Tryz.prog 115 #[.pointer (some ⟨g, 0, none⟩), .int .i32 99, .agg (icells y p d).toArray] w (LyDone g { z with D := Sha.sum y.B, B := y.B } p d w) := by
  have bx := run_boxOp (P := Tryz.prog) (t := 83) (cs := (icells y p d).toArray) w
  have hb1 := (Below.refl w.heap.size w).alloc (Nat.le_refl _) (.cells (icells y p d).toArray 83)
  have HB1 := Lib.hid hb1
  have HK := Lib.hid (show Blk (w.alloc (Obj.cells (icells y p d).toArray 83)) w.heap.size (icells y p d) 83 from Blk.new w (icells y p d).toArray 83)
  have HG := Lib.hid (hg.old (.cells (icells y p d).toArray 83))
  have HY := Lib.hid (hy.below hb1)
  clear hb1
  generalize w.alloc (.cells (icells y p d).toArray 83) = w1 at *
  obtain ⟨m, hm⟩ : ∃ m, m = y.B.length := ⟨_, rfl⟩
  obtain ⟨b, hb⟩ : ∃ b, b = w.heap.size := ⟨_, rfl⟩
  have hne : b ≠ g := by have := hg.lt; omega
  have hlt1 : b < w1.heap.size := by rw [hb]; exact HK.out.lt
  rw [← hb] at bx HK
  have v1 : w1.cell? ⟨b, 1, none⟩ = some (.slice p m d) := by rw [hm]; exact (HK.out.cell 1).trans (icells_1 y p d)
  have HM := Lib.hid hm
  have HZ := Lib.hid hz
  have HN := Lib.hid hne
  have HL := Lib.hid hlt1
  have HBE := Lib.hid hb
  have g1 := sum_cells y.B
  have g2 := sum_len8 y.B
  clear hm hz hy hg hgy hb hne hlt1
  go_enter Tryz.func115, Tryz.ntmps115
  go_wp2_with fail
  go_region_held3 (fun w' => w'.cell? ⟨b, 1, none⟩ = some (.slice p m d))
    (first | exact v1 | exact v2 | exact v3 | exact v4)
    ((first
      | (go_at_call 73; rw [HM.out]; refine (sum_any y.B p d _ HY.out.ok.B (HY.out.at_.below (Below.refl _ _).drew) HY.out.le HY.out.nil HY.out.max).mono ?_; rintro e w2 ⟨rfl, hb2⟩; rw [← HM.out]; (have HB2 := Lib.hid (show Below w1.heap.size w1 w2 from (Below.refl _ w1).drew.trans hb2)); clear hb2; (have v2 : w2.cell? ⟨b, 1, none⟩ = some (.slice p m d) := (HB2.out.cell (p := ⟨b, 1, none⟩) HL.out).trans v1); (obtain ⟨th3, hk3, ht3⟩ := setD (HG.out.below HB2.out HG.out.lt) HZ.out (sum32 y.B)); (obtain ⟨w4, sr4, hk4, ht4⟩ := (stF_B { z with D := Sha.sum y.B } q c y.B m HM.out p d (sum32 _)).run hk3); (have v3 : (w2.setCells g 5 ((Sha.sum y.B).map v8)).cell? ⟨b, 1, none⟩ = some (.slice p m d) := (World.cell?_of_block (w := w2) (a := ⟨b, 1, none⟩) (ht3.block b (Nat.lt_of_lt_of_le HL.out HB2.out.size) (by simpa using HN.out))).trans v2); (have v4 : w4.cell? ⟨b, 1, none⟩ = some (.slice p m d) := (World.cell?_of_block (w := w2.setCells g 5 ((Sha.sum y.B).map v8)) (a := ⟨b, 1, none⟩) (ht4.block b (Nat.lt_of_lt_of_le HL.out (Nat.le_trans HB2.out.size ht3.size)) (by simpa using HN.out))).trans v3); (have HK4 := Lib.hid hk4); (have HT4 := Lib.hid (show Touch [g] w w4 from ((Touch.of_below (fp := [g]) (HB1.out.trans (HB2.out.mono HB1.out.size))).trans ht3 (From.refl _ _)).trans ht4 (From.refl _ _))); clear hk3 ht3 hk4 ht4)))
  all_goals (go_wp2_with fail; go_end0)
  all_goals exact ⟨rfl, HK4.out, HT4.out⟩
theorem lay_any (l : Int) (hl : isHas l) (g : Nat) (z : Fac) (q : Option Addr) (c : Nat) (y : Itm) (p : Option Addr) (d : Nat) (w : World) (hg : Blk w g (fcells z q c) 28) (hz : z.D.length = 32) (hy : GoodI w y p d) (hgy : OutOf g y.B p) :
    Calls Tryz.prog 115 #[.pointer (some ⟨g, 0, none⟩), .int .i32 l, .agg (icells y p d).toArray] w (LyDone g (layF z l y) (layQ l q p) (layQ l c d) w) := by
  rcases hl with rfl | rfl | rfl | rfl | rfl | rfl | rfl
  · exact lay_115 g z q c y p d w hg hz hy.ok
  · exact lay_104 g z q c y p d w hg hz hy.ok
  · exact lay_110 g z q c y p d w hg hz hy.ok
  · exact lay_111 g z q c y p d w hg hz hy.ok
  · exact lay_105 g z q c y p d w hg hz hy.ok
  · exact lay_99 g z q c y p d w hg hz hy hgy
  · exact lay_100 g z q c y p d w hg hz hy.ok
end
end Go.Proofs.YtokpabkcaofahaaGreat
