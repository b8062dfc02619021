/-
  The wire package's with: what a note has by a letter, behind other items (written by mknwd15.py).
  A drawn region walked by hand, operation by operation: what reads what is held, or no world, is taken first; what alone may come up is carried out. General: no program is named here.
-/
import Derived.Test.YtbogjfmefkhglaaGreatP6
import Derived.Test.YtbogjfmefkhglaaGreatP4
import Derived.Deep.RegionHeld3
namespace Go.Proofs.YtbogjfmefkhglaaGreat
section
set_option linter.unusedSimpArgs false
set_option linter.unusedVariables false
open Go.RowKit Sha Nte
open Fld (Itm)
theorem note_ne_item : (32 : TypeId) ≠ 118 := by decide
theorem form_ne_item : (63 : TypeId) ≠ 118 := by decide
theorem nblk_int (w : World) (ns : List Int) : Blk (w.alloc (.cells (ns.map nic).toArray 3)) w.heap.size (ns.map nic) 3 := Blk.new w (ns.map nic).toArray 3
section
variable (ρ : Operand → Value) (dst : Option Tmp) (ty : TypeId) (pos : String) (after : Array Edge) (guard : Option (Nat × Bool)) (x y : Operand)
theorem execOp_allocId15 : execOp ρ { dst := dst, op := .alloc 27, type := ty, pos := pos, after := after, guard := guard } = allocOp 27 := by unfold allocOp; rfl
theorem execOp_storeId15 : execOp ρ { dst := dst, op := .store 27 x y, type := ty, pos := pos, after := after, guard := guard } = storeOp 27 (ρ x) (ρ y) := by unfold storeOp; rfl
theorem execOp_allocWord15 : execOp ρ { dst := dst, op := .alloc 57, type := ty, pos := pos, after := after, guard := guard } = allocOp 57 := by unfold allocOp; rfl
theorem execOp_storeWord15 : execOp ρ { dst := dst, op := .store 57 x y, type := ty, pos := pos, after := after, guard := guard } = storeOp 57 (ρ x) (ρ y) := by unfold storeOp; rfl
end
theorem id_zero15 : (Tryz.prog.info? 27).map (fun i => i.zero) = some (some (.agg (Fld.zero32.map v8).toArray)) := by kernel_rfl
theorem word_zero15 : (Tryz.prog.info? 57).map (fun i => i.zero) = some (some (.agg (nmc ⟨0, 0, 0⟩).toArray)) := by kernel_rfl
theorem alloc_id15 (w : World) : (allocOp 27).run Tryz.prog w = .ok (.value (.pointer (some ⟨w.heap.size, 0, none⟩))) (w.alloc (.cells (Fld.zero32.map v8).toArray 27)) := run_allocOp w id_zero15
theorem alloc_word15 (w : World) : (allocOp 57).run Tryz.prog w = .ok (.value (.pointer (some ⟨w.heap.size, 0, none⟩))) (w.alloc (.cells (nmc ⟨0, 0, 0⟩).toArray 57)) := run_allocOp w word_zero15
theorem v8_all (d : List Int) : (d.map v8).toArray.all (·.oneCell') = true := by
  rw [Array.all_eq_true_iff_forall_mem]; intro v hv; exact nv8_cells v (by simpa using hv)
theorem store_id15 (w : World) {d : List Int} (hd : d.length = 32) : (storeOp 27 (.pointer (some ⟨w.heap.size, 0, none⟩)) (.agg (d.map v8).toArray)).run Tryz.prog (w.alloc (.cells (Fld.zero32.map v8).toArray 27)) = .ok .skip (w.alloc (.cells (d.map v8).toArray 27)) :=
  run_storeNew w (by rw [id_size]; simp [hd]) (by simp [hd, Fld.zero32_length]) (v8_all d)
theorem store_word15 (w : World) (m : Mb) : (storeOp 57 (.pointer (some ⟨w.heap.size, 0, none⟩)) (.agg (nmc m).toArray)).run Tryz.prog (w.alloc (.cells (nmc ⟨0, 0, 0⟩).toArray 57)) = .ok .skip (w.alloc (.cells (nmc m).toArray 57)) :=
  run_storeNew w (by rw [word_size]; rfl) rfl (by simp [nmc, Value.oneCell'])
structure WFew (x : Not) : Prop where
  I : x.I.length ≤ 4000
  W : x.W.length ≤ 4000
/-- What with is asked: a note from before, items in a row of the call's own. -/
structure WIn (w0 w : World) (ys : List Hdr) (v : Value) (x : Not) (h : NHd) : Prop where
  good : NGood w0 x h
  few : WFew x
  below : Below w0.heap.size w0 w
  own : w.ownsRow w0.heap.size 118 34 v ys.length (ys.flatMap cellsI)
  le : ys.length ≤ 3000
theorem hdrs_N {x : Not} {h : NHd} {c : Int} {ns : List Int} (hc : c ≠ 120) (hi : its x c = ns.map iN) : hdrs x h c = ns.map nNh := by
  unfold hdrs
  rw [if_neg hc, hi, List.map_map]; rfl
section
attribute [local go_sem ↓] execOp_boxNote execOp_loadId execOp_nmakeItem execOp_buildItems execOp_allocId15 execOp_storeId15 execOp_loadWord execOp_allocWord15 execOp_storeWord15
set_option maxRecDepth 100000 in
set_option maxHeartbeats 2000000 in
theorem wwith_call (w0 w : World) (ys : List Hdr) (v : Value) (x : Not) (h : NHd) (hi : WIn w0 w ys v x h) :
    Calls Tryz.prog 82 #[v, .agg (ncells x h).toArray, .int .i32 99] w (PWith w0.heap.size ys (hdrs x h 99) w) := by
  have hB := hi.below.size
  have hle := hi.le
  obtain ⟨g, w1, r1, hg1, hl1, K1, B1⟩ := box_note w x h
  have HV := Lib.hid (nrow_below hi.own B1)
  have HS1 := Lib.hid (Stays.below (t := 118) B1 hB)
  have HB1 := Lib.hid (Nat.le_trans hB B1.size)
  have HX := Lib.hid hi.good
  have a0 : w1.cell? ⟨g, 3, none⟩ = some (nic x.C1) := nblk_cells K1.range 3 rfl
  have a1 : w1.cell? ⟨g, 4, none⟩ = some (nic x.C2) := nblk_cells K1.range 4 rfl
  have a2 : w1.cell? ⟨g, 5, none⟩ = some (nic x.C3) := nblk_cells K1.range 5 rfl
  have HD := Lib.hid (show hdrs x h 99 = [x.C1, x.C2, x.C3].map nNh from hdrs_N (by decide) (by simp [its]))
  have HK := Lib.hid (nblk_int w1 [x.C1, x.C2, x.C3])
  have HV2 := Lib.hid (HV.out.alloc (.cells ([x.C1, x.C2, x.C3].map nic).toArray 3))
  have HS2 := Lib.hid (HS1.out.trans (Stays.below (t := 118) ((Below.refl _ w1).alloc (Nat.le_refl _) (.cells ([x.C1, x.C2, x.C3].map nic).toArray 3)) HB1.out))
  have HB2 := Lib.hid (show w0.heap.size ≤ (w1.alloc (.cells ([x.C1, x.C2, x.C3].map nic).toArray 3)).heap.size from by have := HB1.out; simp; omega)
  have HF := Lib.hid (show ∀ n ∈ [x.C1, x.C2, x.C3], fit n from by
    have g := HX.out.ok
    intro n hn
    simp at hn
    rcases hn with rfl | rfl | rfl
    · exact g.C.1
    · exact g.C.2.1
    · exact g.C.2.2)
  clear hi B1 hg1 hl1 hB K1
  go_enter Tryz.func82, Tryz.ntmps82
  go_wp2_with fail
  refine (wnums_any w0.heap.size ys v [x.C1, x.C2, x.C3] 3 rfl w1.heap.size _ HF.out HV2.out HK.out HB2.out (by omega) (by omega)).mono ?_
  rintro e w3 ⟨v3, rfl, ho3, hs3⟩
  rw [← HD.out] at ho3
  have HO3 := Lib.hid ho3
  have HS3 := Lib.hid (HS2.out.trans hs3)
  clear ho3 hs3
  go_wp2_with fail
  go_ret
  exact ⟨v3, rfl, HO3.out, HS3.out⟩
set_option maxRecDepth 100000 in
set_option maxHeartbeats 2000000 in
theorem wwith_set (w0 w : World) (ys : List Hdr) (v : Value) (x : Not) (h : NHd) (hi : WIn w0 w ys v x h) :
    Calls Tryz.prog 82 #[v, .agg (ncells x h).toArray, .int .i32 115] w (PWith w0.heap.size ys (hdrs x h 115) w) := by
  have hB := hi.below.size
  have hle := hi.le
  obtain ⟨g, w1, r1, hg1, hl1, K1, B1⟩ := box_note w x h
  have HV := Lib.hid (nrow_below hi.own B1)
  have HS1 := Lib.hid (Stays.below (t := 118) B1 hB)
  have HB1 := Lib.hid (Nat.le_trans hB B1.size)
  have HX := Lib.hid hi.good
  have a0 : w1.cell? ⟨g, 6, none⟩ = some (nic x.S) := nblk_cells K1.range 6 rfl
  have HD := Lib.hid (show hdrs x h 115 = [x.S].map nNh from hdrs_N (by decide) (by simp [its]))
  have HK := Lib.hid (nblk_int w1 [x.S])
  have HV2 := Lib.hid (HV.out.alloc (.cells ([x.S].map nic).toArray 3))
  have HS2 := Lib.hid (HS1.out.trans (Stays.below (t := 118) ((Below.refl _ w1).alloc (Nat.le_refl _) (.cells ([x.S].map nic).toArray 3)) HB1.out))
  have HB2 := Lib.hid (show w0.heap.size ≤ (w1.alloc (.cells ([x.S].map nic).toArray 3)).heap.size from by have := HB1.out; simp; omega)
  have HF := Lib.hid (show ∀ n ∈ [x.S], fit n from by
    have g := HX.out.ok
    intro n hn
    simp at hn
    rcases hn with rfl
    · exact g.S)
  clear hi B1 hg1 hl1 hB K1
  go_enter Tryz.func82, Tryz.ntmps82
  go_wp2_with fail
  refine (wnums_any w0.heap.size ys v [x.S] 1 rfl w1.heap.size _ HF.out HV2.out HK.out HB2.out (by omega) (by omega)).mono ?_
  rintro e w3 ⟨v3, rfl, ho3, hs3⟩
  rw [← HD.out] at ho3
  have HO3 := Lib.hid ho3
  have HS3 := Lib.hid (HS2.out.trans hs3)
  clear ho3 hs3
  go_wp2_with fail
  go_ret
  exact ⟨v3, rfl, HO3.out, HS3.out⟩
set_option maxRecDepth 100000 in
set_option maxHeartbeats 2000000 in
theorem wwith_home (w0 w : World) (ys : List Hdr) (v : Value) (x : Not) (h : NHd) (hi : WIn w0 w ys v x h) :
    Calls Tryz.prog 82 #[v, .agg (ncells x h).toArray, .int .i32 104] w (PWith w0.heap.size ys (hdrs x h 104) w) := by
  have hB := hi.below.size
  have hle := hi.le
  obtain ⟨g, w1, r1, hg1, hl1, K1, B1⟩ := box_note w x h
  have HV := Lib.hid (nrow_below hi.own B1)
  have HS1 := Lib.hid (Stays.below (t := 118) B1 hB)
  have HB1 := Lib.hid (Nat.le_trans hB B1.size)
  have HX := Lib.hid hi.good
  have a0 : w1.cell? ⟨g, 7, none⟩ = some (nic x.H) := nblk_cells K1.range 7 rfl
  have HD := Lib.hid (show hdrs x h 104 = [x.H].map nNh from hdrs_N (by decide) (by simp [its]))
  have HK := Lib.hid (nblk_int w1 [x.H])
  have HV2 := Lib.hid (HV.out.alloc (.cells ([x.H].map nic).toArray 3))
  have HS2 := Lib.hid (HS1.out.trans (Stays.below (t := 118) ((Below.refl _ w1).alloc (Nat.le_refl _) (.cells ([x.H].map nic).toArray 3)) HB1.out))
  have HB2 := Lib.hid (show w0.heap.size ≤ (w1.alloc (.cells ([x.H].map nic).toArray 3)).heap.size from by have := HB1.out; simp; omega)
  have HF := Lib.hid (show ∀ n ∈ [x.H], fit n from by
    have g := HX.out.ok
    intro n hn
    simp at hn
    rcases hn with rfl
    · exact g.H)
  clear hi B1 hg1 hl1 hB K1
  go_enter Tryz.func82, Tryz.ntmps82
  go_wp2_with fail
  refine (wnums_any w0.heap.size ys v [x.H] 1 rfl w1.heap.size _ HF.out HV2.out HK.out HB2.out (by omega) (by omega)).mono ?_
  rintro e w3 ⟨v3, rfl, ho3, hs3⟩
  rw [← HD.out] at ho3
  have HO3 := Lib.hid ho3
  have HS3 := Lib.hid (HS2.out.trans hs3)
  clear ho3 hs3
  go_wp2_with fail
  go_ret
  exact ⟨v3, rfl, HO3.out, HS3.out⟩
set_option maxRecDepth 100000 in
set_option maxHeartbeats 2000000 in
theorem wwith_ballot (w0 w : World) (ys : List Hdr) (v : Value) (x : Not) (h : NHd) (hi : WIn w0 w ys v x h) :
    Calls Tryz.prog 82 #[v, .agg (ncells x h).toArray, .int .i32 98] w (PWith w0.heap.size ys (hdrs x h 98) w) := by
  have hB := hi.below.size
  have hle := hi.le
  obtain ⟨g, w1, r1, hg1, hl1, K1, B1⟩ := box_note w x h
  have HV := Lib.hid (nrow_below hi.own B1)
  have HS1 := Lib.hid (Stays.below (t := 118) B1 hB)
  have HB1 := Lib.hid (Nat.le_trans hB B1.size)
  have HX := Lib.hid hi.good
  have a0 : w1.cell? ⟨g, 8, none⟩ = some (nic x.B1) := nblk_cells K1.range 8 rfl
  have a1 : w1.cell? ⟨g, 9, none⟩ = some (nic x.B2) := nblk_cells K1.range 9 rfl
  have HD := Lib.hid (show hdrs x h 98 = [x.B1, x.B2].map nNh from hdrs_N (by decide) (by simp [its]))
  have HK := Lib.hid (nblk_int w1 [x.B1, x.B2])
  have HV2 := Lib.hid (HV.out.alloc (.cells ([x.B1, x.B2].map nic).toArray 3))
  have HS2 := Lib.hid (HS1.out.trans (Stays.below (t := 118) ((Below.refl _ w1).alloc (Nat.le_refl _) (.cells ([x.B1, x.B2].map nic).toArray 3)) HB1.out))
  have HB2 := Lib.hid (show w0.heap.size ≤ (w1.alloc (.cells ([x.B1, x.B2].map nic).toArray 3)).heap.size from by have := HB1.out; simp; omega)
  have HF := Lib.hid (show ∀ n ∈ [x.B1, x.B2], fit n from by
    have g := HX.out.ok
    intro n hn
    simp at hn
    rcases hn with rfl | rfl
    · exact g.B.1
    · exact g.B.2)
  clear hi B1 hg1 hl1 hB K1
  go_enter Tryz.func82, Tryz.ntmps82
  go_wp2_with fail
  refine (wnums_any w0.heap.size ys v [x.B1, x.B2] 2 rfl w1.heap.size _ HF.out HV2.out HK.out HB2.out (by omega) (by omega)).mono ?_
  rintro e w3 ⟨v3, rfl, ho3, hs3⟩
  rw [← HD.out] at ho3
  have HO3 := Lib.hid ho3
  have HS3 := Lib.hid (HS2.out.trans hs3)
  clear ho3 hs3
  go_wp2_with fail
  go_ret
  exact ⟨v3, rfl, HO3.out, HS3.out⟩
set_option maxRecDepth 100000 in
set_option maxHeartbeats 2000000 in
theorem wwith_other (w0 w : World) (ys : List Hdr) (v : Value) (x : Not) (h : NHd) (hi : WIn w0 w ys v x h) :
    Calls Tryz.prog 82 #[v, .agg (ncells x h).toArray, .int .i32 111] w (PWith w0.heap.size ys (hdrs x h 111) w) := by
  have hB := hi.below.size
  have hle := hi.le
  obtain ⟨g, w1, r1, hg1, hl1, K1, B1⟩ := box_note w x h
  have HV := Lib.hid (nrow_below hi.own B1)
  have HS1 := Lib.hid (Stays.below (t := 118) B1 hB)
  have HB1 := Lib.hid (Nat.le_trans hB B1.size)
  have HX := Lib.hid hi.good
  have a0 : w1.cell? ⟨g, 10, none⟩ = some (nic x.O1) := nblk_cells K1.range 10 rfl
  have a1 : w1.cell? ⟨g, 11, none⟩ = some (nic x.O2) := nblk_cells K1.range 11 rfl
  have HD := Lib.hid (show hdrs x h 111 = [x.O1, x.O2].map nNh from hdrs_N (by decide) (by simp [its]))
  have HK := Lib.hid (nblk_int w1 [x.O1, x.O2])
  have HV2 := Lib.hid (HV.out.alloc (.cells ([x.O1, x.O2].map nic).toArray 3))
  have HS2 := Lib.hid (HS1.out.trans (Stays.below (t := 118) ((Below.refl _ w1).alloc (Nat.le_refl _) (.cells ([x.O1, x.O2].map nic).toArray 3)) HB1.out))
  have HB2 := Lib.hid (show w0.heap.size ≤ (w1.alloc (.cells ([x.O1, x.O2].map nic).toArray 3)).heap.size from by have := HB1.out; simp; omega)
  have HF := Lib.hid (show ∀ n ∈ [x.O1, x.O2], fit n from by
    have g := HX.out.ok
    intro n hn
    simp at hn
    rcases hn with rfl | rfl
    · exact g.O.1
    · exact g.O.2)
  clear hi B1 hg1 hl1 hB K1
  go_enter Tryz.func82, Tryz.ntmps82
  go_wp2_with fail
  refine (wnums_any w0.heap.size ys v [x.O1, x.O2] 2 rfl w1.heap.size _ HF.out HV2.out HK.out HB2.out (by omega) (by omega)).mono ?_
  rintro e w3 ⟨v3, rfl, ho3, hs3⟩
  rw [← HD.out] at ho3
  have HO3 := Lib.hid ho3
  have HS3 := Lib.hid (HS2.out.trans hs3)
  clear ho3 hs3
  go_wp2_with fail
  go_ret
  exact ⟨v3, rfl, HO3.out, HS3.out⟩
set_option maxRecDepth 100000 in
set_option maxHeartbeats 2000000 in
theorem wwith_yes (w0 w : World) (ys : List Hdr) (v : Value) (x : Not) (h : NHd) (hi : WIn w0 w ys v x h) :
    Calls Tryz.prog 82 #[v, .agg (ncells x h).toArray, .int .i32 121] w (PWith w0.heap.size ys (hdrs x h 121) w) := by
  have hB := hi.below.size
  have hle := hi.le
  obtain ⟨g, w1, r1, hg1, hl1, K1, B1⟩ := box_note w x h
  have HV := Lib.hid (nrow_below hi.own B1)
  have HS1 := Lib.hid (Stays.below (t := 118) B1 hB)
  have HB1 := Lib.hid (Nat.le_trans hB B1.size)
  have HX := Lib.hid hi.good
  have a0 : w1.cell? ⟨g, 12, none⟩ = some (.bool x.Y) := nblk_cells K1.range 12 rfl
  have TR := Lib.hid (wtruth_any x.Y w1)
  have HD := Lib.hid (show hdrs x h 121 = [yes x.Y].map nNh from hdrs_N (by decide) (by simp [its]))
  have HF := Lib.hid (show ∀ n ∈ [yes x.Y], fit n from by
    intro n hn
    simp at hn
    rw [hn]; unfold yes fit; split <;> omega)
  obtain ⟨m, hm⟩ : ∃ m, m = yes x.Y := ⟨_, rfl⟩
  rw [← hm] at TR HD HF
  have HK := Lib.hid (nblk_int w1 [m])
  have HV2 := Lib.hid (HV.out.alloc (.cells ([m].map nic).toArray 3))
  have HS2 := Lib.hid (HS1.out.trans (Stays.below (t := 118) ((Below.refl _ w1).alloc (Nat.le_refl _) (.cells ([m].map nic).toArray 3)) HB1.out))
  have HB2 := Lib.hid (show w0.heap.size ≤ (w1.alloc (.cells ([m].map nic).toArray 3)).heap.size from by have := HB1.out; simp; omega)
  clear hi B1 hg1 hl1 hB K1 hm
  go_enter Tryz.func82, Tryz.ntmps82
  go_wp2_with fail
  refine TR.out.mono ?_
  rintro e w2 ⟨rfl, rfl⟩
  go_wp2_with fail
  refine (wnums_any w0.heap.size ys v [m] 1 rfl w1.heap.size _ HF.out HV2.out HK.out HB2.out (by omega) (by omega)).mono ?_
  rintro e w3 ⟨v3, rfl, ho3, hs3⟩
  rw [← HD.out] at ho3
  have HO3 := Lib.hid ho3
  have HS3 := Lib.hid (HS2.out.trans hs3)
  clear ho3 hs3
  go_wp2_with fail
  go_ret
  exact ⟨v3, rfl, HO3.out, HS3.out⟩
set_option maxRecDepth 100000 in
set_option maxHeartbeats 2000000 in
theorem wwith_id (w0 w : World) (ys : List Hdr) (v : Value) (x : Not) (h : NHd) (hi : WIn w0 w ys v x h) :
    Calls Tryz.prog 82 #[v, .agg (ncells x h).toArray, .int .i32 100] w (PWith w0.heap.size ys (hdrs x h 100) w) := by
  have hB := hi.below.size
  have hle := hi.le
  obtain ⟨g, w1, r1, hg1, hl1, K1, B1⟩ := box_note w x h
  have HV := Lib.hid (nrow_below hi.own B1)
  have HS1 := Lib.hid (Stays.below (t := 118) B1 hB)
  have HB1 := Lib.hid (Nat.le_trans hB B1.size)
  have HX := Lib.hid hi.good
  have yok : (iD x.D : Itm).ok := iD_ok HX.out.ok.D HX.out.ok.len
  have HD := Lib.hid (show hdrs x h 100 = [(iD x.D, none, 0)] from by simp [hdrs, its])
  have l0 := load_nid (o := 0) HX.out.ok.len K1.range
  have mk := fun w => nmake_iD x.D HX.out.ok.len w
  have bi := build_item w1 (q := none) (c := 0) yok
  have HL := Lib.hid (icells_length yok (none) (0))
  have HA := Lib.hid (nat_cells w1 (icells (iD x.D) (none) (0)) 118 (0, 0))
  have HV2 := Lib.hid (HV.out.alloc (.cells (icells (iD x.D) (none) (0)).toArray 118))
  have HS2 := Lib.hid (HS1.out.trans (Stays.below (t := 118) ((Below.refl _ w1).alloc (Nat.le_refl _) (.cells (icells (iD x.D) (none) (0)).toArray 118)) HB1.out))
  have HB2 := Lib.hid (show w0.heap.size ≤ (w1.alloc (.cells (icells (iD x.D) (none) (0)).toArray 118)).heap.size from by have := HB1.out; simp; omega)
  clear hi B1 hg1 hl1 hB K1 yok
  go_enter Tryz.func82, Tryz.ntmps82
  go_wp2_with (at_builtin; refine wpList_app_s rfl (.tmp 95) (.tmp 99) 67 rfl w0.heap.size 118 (size := 34) (by omega) Tryz.underlying67 item_all3 nitem_zsize v ys.length _ rfl HV2.out (some ⟨w1.heap.size, 0, none⟩) 1 1 (icells (iD x.D) (none) (0)) rfl HA.out (by rw [HL.out]) (fun h => by cases h) (Nat.le_refl _) (icells_one _ _ _) (by omega) (by unfold maxLen; omega) HB2.out ?_; intro v8' w8 hown8 hgr8 hat8)
  have HS8 := Lib.hid (HS2.out.trans (Stays.grown HV2.out hgr8 HB2.out))
  have HO8 := Lib.hid (show w8.ownsRow w0.heap.size 118 34 v8' (ys.length + 1) ((ys ++ [(iD x.D, none, 0)]).flatMap cellsI) from by
    rw [List.flatMap_append, List.flatMap_singleton]; exact hown8)
  clear hown8 hgr8 hat8 HV2 HS2 HB2 HA HL
  go_wp2_with fail
  go_ret
  exact ⟨v8', rfl, by rw [HD.out]; exact HO8.out, HS8.out⟩
set_option maxRecDepth 100000 in
set_option maxHeartbeats 2000000 in
theorem wwith_data (w0 w : World) (ys : List Hdr) (v : Value) (x : Not) (h : NHd) (hi : WIn w0 w ys v x h) :
    Calls Tryz.prog 82 #[v, .agg (ncells x h).toArray, .int .i32 120] w (PWith w0.heap.size ys (hdrs x h 120) w) := by
  have hB := hi.below.size
  have hle := hi.le
  obtain ⟨g, w1, r1, hg1, hl1, K1, B1⟩ := box_note w x h
  have HV := Lib.hid (nrow_below hi.own B1)
  have HS1 := Lib.hid (Stays.below (t := 118) B1 hB)
  have HB1 := Lib.hid (Nat.le_trans hB B1.size)
  have HX := Lib.hid hi.good
  have yok : (iB x.X : Itm).ok := iB_ok HX.out.ok.X
  have HD := Lib.hid (show hdrs x h 120 = [(iB x.X, h.q, h.c)] from by simp [hdrs, its])
  have l0 : w1.cell? ⟨g, 45, none⟩ = some (.slice h.q x.X.length h.c) := nblk_cells K1.range 45 (ncells_X HX.out.ok.len h)
  have mk := fun w => nmake_iB x.X h.q x.X.length h.c rfl w
  have bi := build_item w1 (q := h.q) (c := h.c) yok
  have HL := Lib.hid (icells_length yok (h.q) (h.c))
  have HA := Lib.hid (nat_cells w1 (icells (iB x.X) (h.q) (h.c)) 118 (0, 0))
  have HV2 := Lib.hid (HV.out.alloc (.cells (icells (iB x.X) (h.q) (h.c)).toArray 118))
  have HS2 := Lib.hid (HS1.out.trans (Stays.below (t := 118) ((Below.refl _ w1).alloc (Nat.le_refl _) (.cells (icells (iB x.X) (h.q) (h.c)).toArray 118)) HB1.out))
  have HB2 := Lib.hid (show w0.heap.size ≤ (w1.alloc (.cells (icells (iB x.X) (h.q) (h.c)).toArray 118)).heap.size from by have := HB1.out; simp; omega)
  clear hi B1 hg1 hl1 hB K1 yok
  go_enter Tryz.func82, Tryz.ntmps82
  go_wp2_with (at_builtin; refine wpList_app_s rfl (.tmp 103) (.tmp 107) 67 rfl w0.heap.size 118 (size := 34) (by omega) Tryz.underlying67 item_all3 nitem_zsize v ys.length _ rfl HV2.out (some ⟨w1.heap.size, 0, none⟩) 1 1 (icells (iB x.X) (h.q) (h.c)) rfl HA.out (by rw [HL.out]) (fun h => by cases h) (Nat.le_refl _) (icells_one _ _ _) (by omega) (by unfold maxLen; omega) HB2.out ?_; intro v8' w8 hown8 hgr8 hat8)
  have HS8 := Lib.hid (HS2.out.trans (Stays.grown HV2.out hgr8 HB2.out))
  have HO8 := Lib.hid (show w8.ownsRow w0.heap.size 118 34 v8' (ys.length + 1) ((ys ++ [(iB x.X, h.q, h.c)]).flatMap cellsI) from by
    rw [List.flatMap_append, List.flatMap_singleton]; exact hown8)
  clear hown8 hgr8 hat8 HV2 HS2 HB2 HA HL
  go_wp2_with fail
  go_ret
  exact ⟨v8', rfl, by rw [HD.out]; exact HO8.out, HS8.out⟩
set_option maxRecDepth 100000 in
set_option maxHeartbeats 2000000 in
theorem wwith_ids (w0 w : World) (ys : List Hdr) (v : Value) (x : Not) (h : NHd) (hi : WIn w0 w ys v x h) :
    Calls Tryz.prog 82 #[v, .agg (ncells x h).toArray, .int .i32 105] w (PWith w0.heap.size ys (hdrs x h 105) w) := by
  have hB := hi.below.size
  have hle := hi.le
  obtain ⟨g, w1, r1, hg1, hl1, K1, B1⟩ := box_note w x h
  have HV := Lib.hid (nrow_below hi.own B1)
  have HS1 := Lib.hid (Stays.below (t := 118) B1 hB)
  have HB1 := Lib.hid (Nat.le_trans hB B1.size)
  have HX := Lib.hid hi.good
  have HF1 := Lib.hid hi.few.I
  have l0 : w1.cell? ⟨g, 46, none⟩ = some (.slice h.r x.I.length h.d) := nblk_cells K1.range 46 (ncells_I HX.out.ok.len h)
  have HD := Lib.hid (show hdrs x h 105 = nNh x.I.length :: x.I.map nDh from by simp [hdrs, its, nNh, nDh, List.map_flatMap]; induction x.I with | nil => rfl | cons a l ih => simp [ih, nDh])
  have t1 := HX.out.I.le
  have t2 := HX.out.I.max
  obtain ⟨n, hn⟩ : ∃ n, n = x.I.length := ⟨_, rfl⟩
  have HN := Lib.hid hn
  rw [← hn] at l0 HF1 HD t1
  have HK := Lib.hid (nblk_int w1 [(n : Int)])
  have HV2 := Lib.hid (HV.out.alloc (.cells ([(n : Int)].map nic).toArray 3))
  have HBW := Lib.hid (hi.below.trans (B1.mono hB))
  have HS2 := Lib.hid (HS1.out.trans (Stays.below (t := 118) ((Below.refl _ w1).alloc (Nat.le_refl _) (.cells ([(n : Int)].map nic).toArray 3)) HB1.out))
  have HB2 := Lib.hid (show w0.heap.size ≤ (w1.alloc (.cells ([(n : Int)].map nic).toArray 3)).heap.size from by have := HB1.out; simp; omega)
  have HBW2 := Lib.hid (HBW.out.alloc HB1.out (.cells ([(n : Int)].map nic).toArray 3))
  have HG := Lib.hid (K1.old (.cells ([(n : Int)].map nic).toArray 3))
  have HF := Lib.hid (show ∀ m ∈ [(n : Int)], fit m from by
    intro m hm
    have := HF1.out
    simp at hm
    rw [hm]; unfold fit; omega)
  clear hi B1 hg1 hl1 hB K1 hn
  go_enter Tryz.func82, Tryz.ntmps82
  go_wp2_with fail
  refine (wnums_any w0.heap.size ys v [(n : Int)] 1 rfl w1.heap.size _ HF.out HV2.out HK.out HB2.out (by omega) (by omega)).mono ?_
  rintro e w3 ⟨v3, rfl, ho3, hs3⟩
  have HO3 := Lib.hid ho3
  have HS3 := Lib.hid (HS2.out.trans hs3)
  have HB3 := Lib.hid (hs3.bel _ HBW2.out)
  have l1 : w3.cell? ⟨g, 46, none⟩ = some (.slice h.r n h.d) := by rw [HN.out]; exact nblk_cells (hs3.blk HG.out note_ne_item).range 46 (ncells_I HX.out.ok.len h)
  clear ho3 hs3 l0 HG HBW2 HV2 HK HS2 HB2 HBW
  go_wp2_with fail
  go_loopw [0, 120] (fun vv i wr => ∃ (j : Nat) (u : Value), u = vv ∧ i = .int .i64 j ∧ j ≤ n ∧ Hid (wr.ownsRow w0.heap.size 118 34 u (ys.length + 1 + j) ((ys ++ nNh n :: (x.I.take j).map nDh).flatMap cellsI)) ∧ Hid (Stays 118 w0.heap.size w wr) ∧ Hid (Below w0.heap.size w0 wr)) (fun _ i _ => n - (intOf i).toNat)
  case atStart => exact ⟨0, v3, rfl, rfl, by omega, Lib.hid (by simpa using HO3.out), HS3, HB3⟩
  case round =>
    obtain ⟨j, u, rfl, rfl, hj, HO, HS, HB⟩ := hrel
    clear HO3 HS3 HB3 HV HS1 HB1
    by_cases hlt : j < n
    · have hjn : j < x.I.length := by rw [← HN.out]; exact hlt
      obtain ⟨b, off, q1, c1, hp, hr, hgd⟩ := (HX.out.I.below HB.out).rows.get j hjn
      have hr : wr.rangeAt b (off + j * 32) ((x.I[j]).map v8) := hr
      have HTK := Lib.hid (show (x.I.take (j + 1)).map nDh = (x.I.take j).map nDh ++ [nDh x.I[j]] from by
        rw [List.take_succ_eq_append_getElem hjn, List.map_append]; rfl)
      have hdl : (x.I[j]).length = 32 := hgd.ok.2
      have hdb : Frm.Bytes x.I[j] := hgd.ok.1
      rw [hp] at *
      generalize x.I[j] = d at *
      have ld := load_idr hdl hr
      have al := alloc_id15 wr
      have st := store_id15 wr hdl
      have HFew := HF1.out
      have lb : (loadOp 27 (.pointer (some ⟨wr.heap.size, 0, none⟩))).run Tryz.prog (wr.alloc (.cells (d.map v8).toArray 27)) = .ok (.value (.agg (d.map v8).toArray)) (wr.alloc (.cells (d.map v8).toArray 27)) := load_idr hdl (Blk.new wr (d.map v8).toArray 27).range
      have hb5 := (Below.refl _ wr).alloc (Nat.le_refl _) (.cells (d.map v8).toArray 27)
      have HO5 := Lib.hid (HO.out.alloc (.cells (d.map v8).toArray 27))
      have HS5 := Lib.hid (HS.out.trans (Stays.below (t := 118) hb5 HB.out.size))
      have HB5 := Lib.hid (HB.out.trans (hb5.mono HB.out.size))
      have mk := fun w => nmake_iD d hdl w
      have yok : (iD d : Itm).ok := iD_ok hdb hdl
      obtain ⟨w5, hw5⟩ : ∃ w5, w5 = wr.alloc (.cells (d.map v8).toArray 27) := ⟨_, rfl⟩
      rw [← hw5] at st lb HO5 HS5 HB5
      have bi := build_item w5 (q := none) (c := 0) yok
      have HL := Lib.hid (icells_length yok none 0)
      have HA := Lib.hid (nat_cells w5 (icells (iD d) none 0) 118 (0, 0))
      have HO6 := Lib.hid (HO5.out.alloc (.cells (icells (iD d) none 0).toArray 118))
      have HS6 := Lib.hid (HS5.out.trans (Stays.below (t := 118) ((Below.refl _ w5).alloc (Nat.le_refl _) (.cells (icells (iD d) none 0).toArray 118)) HB5.out.size))
      have HB6 := Lib.hid (HB5.out.alloc HB5.out.size (.cells (icells (iD d) none 0).toArray 118))
      clear hw5 yok hjn HO HS HB HO5 HS5 HB5 hr hgd hdl hdb hp hb5
      go_wp2_with (at_builtin; refine wpList_app_s rfl (.tmp 124) (.tmp 127) 67 rfl w0.heap.size 118 (size := 34) (by omega) Tryz.underlying67 item_all3 nitem_zsize u (ys.length + 1 + j) _ rfl HO6.out (some ⟨w5.heap.size, 0, none⟩) 1 1 (icells (iD d) none 0) rfl HA.out (by rw [HL.out]) (fun h => by cases h) (Nat.le_refl _) (icells_one _ _ _) (by omega) (by unfold maxLen; omega) HB6.out.size ?_; intro v8' w8 hown8 hgr8 hat8)
      have HS8 := Lib.hid (HS6.out.trans (Stays.grown HO6.out hgr8 HB6.out.size))
      have HB8 := Lib.hid (HB6.out.grown hgr8 HB6.out.size (fun k e => row_base HO6.out k e))
      have HO8 := Lib.hid (show w8.ownsRow w0.heap.size 118 34 v8' (ys.length + 1 + (j + 1)) ((ys ++ nNh n :: (x.I.take (j + 1)).map nDh).flatMap cellsI) from by
        rw [HTK.out, ← List.cons_append, ← List.append_assoc, List.flatMap_append, List.flatMap_singleton]; exact hown8)
      clear hown8 hgr8 hat8 HO6 HS6 HB6 HA HL HTK
      go_wp2_with fail
      go_roundw
      case rel => exact ⟨j + 1, _, rfl, by go_num, by omega, HO8, HS8, HB8⟩
      case measure => simp [intOf]; omega
    · obtain rfl : j = n := by omega
      have HTL := Lib.hid (show x.I.take j = x.I from List.take_of_length_le (by rw [← HN.out]; exact Nat.le_refl _))
      go_wp2_with fail
      go_ret
      refine ⟨_, rfl, ?_, HS.out⟩
      have := HO.out
      rw [HTL.out] at this
      rw [HD.out, List.length_cons, List.length_map, ← HN.out, show ys.length + (j + 1) = ys.length + 1 + j by omega]
      exact this
set_option maxRecDepth 100000 in
set_option maxHeartbeats 2000000 in
theorem wwith_words (w0 w : World) (ys : List Hdr) (v : Value) (x : Not) (h : NHd) (hi : WIn w0 w ys v x h) :
    Calls Tryz.prog 82 #[v, .agg (ncells x h).toArray, .int .i32 119] w (PWith w0.heap.size ys (hdrs x h 119) w) := by
  have hB := hi.below.size
  have hle := hi.le
  obtain ⟨g, w1, r1, hg1, hl1, K1, B1⟩ := box_note w x h
  have HV := Lib.hid (nrow_below hi.own B1)
  have HS1 := Lib.hid (Stays.below (t := 118) B1 hB)
  have HB1 := Lib.hid (Nat.le_trans hB B1.size)
  have HX := Lib.hid hi.good
  have HF1 := Lib.hid hi.few.W
  have l0 : w1.cell? ⟨g, 47, none⟩ = some (.slice h.s x.W.length h.e) := nblk_cells K1.range 47 (ncells_W HX.out.ok.len h)
  have HD := Lib.hid (show hdrs x h 119 = nNh x.W.length :: x.W.flatMap (fun m => [nNh m.I, nNh m.S, nNh m.N]) from by simp [hdrs, its, nNh, List.map_flatMap, w3])
  have HWL := Lib.hid (show ∀ l : List Mb, (l.flatMap (fun m => [nNh m.I, nNh m.S, nNh m.N])).length = 3 * l.length from by intro l; induction l with | nil => rfl | cons a l ih => rw [List.flatMap_cons, List.length_append, ih]; simp; omega)
  have t1 := HX.out.W.le
  have t2 := HX.out.W.max
  obtain ⟨n, hn⟩ : ∃ n, n = x.W.length := ⟨_, rfl⟩
  have HN := Lib.hid hn
  rw [← hn] at l0 HF1 HD t1
  have HK := Lib.hid (nblk_int w1 [(n : Int)])
  have HV2 := Lib.hid (HV.out.alloc (.cells ([(n : Int)].map nic).toArray 3))
  have HBW := Lib.hid (hi.below.trans (B1.mono hB))
  have HS2 := Lib.hid (HS1.out.trans (Stays.below (t := 118) ((Below.refl _ w1).alloc (Nat.le_refl _) (.cells ([(n : Int)].map nic).toArray 3)) HB1.out))
  have HB2 := Lib.hid (show w0.heap.size ≤ (w1.alloc (.cells ([(n : Int)].map nic).toArray 3)).heap.size from by have := HB1.out; simp; omega)
  have HBW2 := Lib.hid (HBW.out.alloc HB1.out (.cells ([(n : Int)].map nic).toArray 3))
  have HG := Lib.hid (K1.old (.cells ([(n : Int)].map nic).toArray 3))
  have HF := Lib.hid (show ∀ m ∈ [(n : Int)], fit m from by
    intro m hm
    have := HF1.out
    simp at hm
    rw [hm]; unfold fit; omega)
  clear hi B1 hg1 hl1 hB K1 hn
  go_enter Tryz.func82, Tryz.ntmps82
  go_wp2_with fail
  refine (wnums_any w0.heap.size ys v [(n : Int)] 1 rfl w1.heap.size _ HF.out HV2.out HK.out HB2.out (by omega) (by omega)).mono ?_
  rintro e w3 ⟨v3, rfl, ho3, hs3⟩
  have HO3 := Lib.hid ho3
  have HS3 := Lib.hid (HS2.out.trans hs3)
  have HB3 := Lib.hid (hs3.bel _ HBW2.out)
  have l1 : w3.cell? ⟨g, 47, none⟩ = some (.slice h.s n h.e) := by rw [HN.out]; exact nblk_cells (hs3.blk HG.out note_ne_item).range 47 (ncells_W HX.out.ok.len h)
  clear ho3 hs3 l0 HG HBW2 HV2 HK HS2 HB2 HBW
  go_wp2_with fail
  go_loopw [0, 21] (fun vv i wr => ∃ (j : Nat) (u : Value), u = vv ∧ i = .int .i64 j ∧ j ≤ n ∧ Hid (wr.ownsRow w0.heap.size 118 34 u (ys ++ nNh n :: (x.W.take j).flatMap (fun m => [nNh m.I, nNh m.S, nNh m.N])).length ((ys ++ nNh n :: (x.W.take j).flatMap (fun m => [nNh m.I, nNh m.S, nNh m.N])).flatMap cellsI)) ∧ Hid (Stays 118 w0.heap.size w wr) ∧ Hid (Below w0.heap.size w0 wr)) (fun _ i _ => n - (intOf i).toNat)
  case atStart => exact ⟨0, v3, rfl, rfl, by omega, Lib.hid (by simpa using HO3.out), HS3, HB3⟩
  case round =>
    obtain ⟨j, u, rfl, rfl, hj, HO, HS, HB⟩ := hrel
    clear HO3 HS3 HB3 HV HS1 HB1
    by_cases hlt : j < n
    · have hjn : j < x.W.length := by rw [← HN.out]; exact hlt
      obtain ⟨b, off, q1, c1, hp, hr, hgd⟩ := (HX.out.W.below HB.out).rows.get j hjn
      have hr : wr.rangeAt b (off + j * 3) (nmc x.W[j]) := hr
      have HTK := Lib.hid (show (ys ++ nNh n :: (x.W.take (j + 1)).flatMap (fun m => [nNh m.I, nNh m.S, nNh m.N])) = (ys ++ nNh n :: (x.W.take j).flatMap (fun m => [nNh m.I, nNh m.S, nNh m.N])) ++ [x.W[j].I, x.W[j].S, x.W[j].N].map nNh from by
        rw [List.take_succ_eq_append_getElem hjn, List.flatMap_append, List.flatMap_singleton]; simp)
      have hlen : (ys ++ nNh n :: (x.W.take j).flatMap (fun m => [nNh m.I, nNh m.S, nNh m.N])).length ≤ 16000 := by
        rw [List.length_append, List.length_cons, HWL.out, List.length_take]; have := HF1.out; omega
      have hok : (x.W[j]).ok := hgd.ok
      rw [hp] at *
      generalize (ys ++ nNh n :: (x.W.take j).flatMap (fun m => [nNh m.I, nNh m.S, nNh m.N])) = zs at *
      generalize x.W[j] = d at *
      have ld := load_word hr
      have al := alloc_word15 wr
      have st := store_word15 wr d
      have hk5 : Blk (wr.alloc (.cells (nmc d).toArray 57)) wr.heap.size (nmc d) 57 := Blk.new wr (nmc d).toArray 57
      have e0 : (wr.alloc (.cells (nmc d).toArray 57)).cell? ⟨wr.heap.size, 0, none⟩ = some (nic d.I) := hk5.cell 0
      have e1 : (wr.alloc (.cells (nmc d).toArray 57)).cell? ⟨wr.heap.size, 1, none⟩ = some (nic d.S) := hk5.cell 1
      have e2 : (wr.alloc (.cells (nmc d).toArray 57)).cell? ⟨wr.heap.size, 2, none⟩ = some (nic d.N) := hk5.cell 2
      have hb5 := (Below.refl _ wr).alloc (Nat.le_refl _) (.cells (nmc d).toArray 57)
      have HO5 := Lib.hid (HO.out.alloc (.cells (nmc d).toArray 57))
      have HS5 := Lib.hid (HS.out.trans (Stays.below (t := 118) hb5 HB.out.size))
      have HB5 := Lib.hid (HB.out.trans (hb5.mono HB.out.size))
      obtain ⟨w5, hw5⟩ : ∃ w5, w5 = wr.alloc (.cells (nmc d).toArray 57) := ⟨_, rfl⟩
      rw [← hw5] at st e0 e1 e2 HO5 HS5 HB5
      have HK6 := Lib.hid (nblk_int w5 [d.I, d.S, d.N])
      have HO6 := Lib.hid (HO5.out.alloc (.cells ([d.I, d.S, d.N].map nic).toArray 3))
      have HS6 := Lib.hid (HS5.out.trans (Stays.below (t := 118) ((Below.refl _ w5).alloc (Nat.le_refl _) (.cells ([d.I, d.S, d.N].map nic).toArray 3)) HB5.out.size))
      have HB6 := Lib.hid (HB5.out.alloc HB5.out.size (.cells ([d.I, d.S, d.N].map nic).toArray 3))
      have HF6 := Lib.hid (show ∀ m ∈ [d.I, d.S, d.N], fit m from by
        intro m hm
        simp at hm
        rcases hm with rfl | rfl | rfl
        · exact hok.i
        · exact hok.s
        · exact hok.n)
      clear hw5 hjn HO HS HB HO5 HS5 HB5 hr hgd hp hb5 hk5 hok
      go_wp2_with fail
      refine (wnums_any w0.heap.size zs u [d.I, d.S, d.N] 3 rfl w5.heap.size _ HF6.out HO6.out HK6.out HB6.out.size (by omega) (by omega)).mono ?_
      rintro e w8 ⟨v8', rfl, ho8, hs8⟩
      have HS8 := Lib.hid (HS6.out.trans hs8)
      have HB8 := Lib.hid (hs8.bel _ HB6.out)
      rw [← List.length_append, ← HTK.out] at ho8
      have HO8 := Lib.hid ho8
      clear ho8 hs8 HO6 HS6 HB6 HK6 HF6 HTK
      go_wp2_with fail
      go_roundw
      case rel => exact ⟨j + 1, _, rfl, by go_num, by omega, HO8, HS8, HB8⟩
      case measure => simp [intOf]; omega
    · obtain rfl : j = n := by omega
      have HTL := Lib.hid (show x.W.take j = x.W from List.take_of_length_le (by rw [← HN.out]; exact Nat.le_refl _))
      go_wp2_with fail
      go_ret
      refine ⟨_, rfl, ?_, HS.out⟩
      have := HO.out
      rw [HTL.out] at this
      rw [HD.out, ← List.length_append]
      exact this
end
theorem wwith_any (w0 w : World) (ys : List Hdr) (v : Value) (x : Not) (h : NHd) (hi : WIn w0 w ys v x h) (c : Int) (hc : isT c) :
    Calls Tryz.prog 82 #[v, .agg (ncells x h).toArray, .int .i32 c] w (PWith w0.heap.size ys (hdrs x h c) w) := by
  rcases hc with rfl | rfl | rfl | rfl | rfl | rfl | rfl | rfl | rfl | rfl
  · exact wwith_call w0 w ys v x h hi
  · exact wwith_ballot w0 w ys v x h hi
  · exact wwith_other w0 w ys v x h hi
  · exact wwith_id w0 w ys v x h hi
  · exact wwith_data w0 w ys v x h hi
  · exact wwith_ids w0 w ys v x h hi
  · exact wwith_words w0 w ys v x h hi
  · exact wwith_set w0 w ys v x h hi
  · exact wwith_home w0 w ys v x h hi
  · exact wwith_yes w0 w ys v x h hi
end
section
set_option linter.unusedSimpArgs false
set_option linter.unusedVariables false
section
variable {P : Program} {md : Region.Mode} {l : List Oper} {Q : Exit → Act → World → Prop} {S : World → Prop} {fuel : Nat} {listed : Array Bool} {a : Act} {w : World}
theorem blt_lt {i n : Nat} (h : Nat.blt i n = true) : i < n := Nat.le_of_ble_eq_true h
theorem at_toArray {i : Nat} (h : i < l.length) : l.toArray[i]? = some l[i] := by simp [h]
theorem take_at (i : Nat) (hlen : Nat.blt i l.length = true) {v : Value} (hs : Region.noSelect l.toArray = true) (hf : Region.free md l.toArray listed i = true) (hr : (Region.ready md l.toArray listed).contains i = true)
    (hQ : ∀ c a w, Q (.panic c) (a.put (l[i]'(blt_lt hlen)).dst v) w → Q (.panic c) a w) (hw : Region.wanted (l[i]'(blt_lt hlen)) (yielded l.toArray a.tmps) = true)
    (hy : ∀ w, S w → (execOp a.eval (l[i]'(blt_lt hlen))).run P w = .ok (.value v) w) (hS : S w)
    (h : wpAnyH P md l.toArray Q S fuel (listed.setIfInBounds i true) (a.put (l[i]'(blt_lt hlen)).dst v) w) : wpAnyH P md l.toArray Q S (fuel + 1) listed a w :=
  wpAnyH_take (at_toArray (blt_lt hlen)) hs hf hr hQ (Or.inl ⟨hw, hy⟩) hS h
theorem pass_at (i : Nat) (hlen : Nat.blt i l.length = true) (hs : Region.noSelect l.toArray = true) (hf : Region.free md l.toArray listed i = true) (hr : (Region.ready md l.toArray listed).contains i = true)
    (hQ : ∀ c a w, Q (.panic c) (a.put (l[i]'(blt_lt hlen)).dst undef) w → Q (.panic c) a w) (hw : Region.wanted (l[i]'(blt_lt hlen)) (yielded l.toArray a.tmps) = false) (hS : S w)
    (h : wpAnyH P md l.toArray Q S fuel (listed.setIfInBounds i true) (a.put (l[i]'(blt_lt hlen)).dst undef) w) : wpAnyH P md l.toArray Q S (fuel + 1) listed a w :=
  wpAnyH_take (at_toArray (blt_lt hlen)) hs hf hr hQ (Or.inr ⟨hw, rfl⟩) hS h
theorem ready_at (i : Nat) (hlen : Nat.blt i l.length = true) (hr : Region.ready md l.toArray listed = [i])
    (h : ∀ K' : Act → World → Prop, Shut (∀ a w, S w → (S w → wpAnyH P md l.toArray Q S fuel (listed.setIfInBounds i true) a w) → K' a w) → if Region.wanted (l[i]'(blt_lt hlen)) (yielded l.toArray a.tmps) = true then Oper.wp P (l[i]'(blt_lt hlen)) a w K' Q else K' (a.put (l[i]'(blt_lt hlen)).dst undef) w) :
    wpAnyH P md l.toArray Q S (fuel + 1) listed a w :=
  wpAnyH_ready hr (by simp) (AllReadyH.cons (at_toArray (blt_lt hlen)) h AllReadyH.nil)
theorem ready2_at (i j : Nat) (hi : Nat.blt i l.length = true) (hj : Nat.blt j l.length = true) (hr : Region.ready md l.toArray listed = [i, j])
    (h1 : ∀ K' : Act → World → Prop, Shut (∀ a w, S w → (S w → wpAnyH P md l.toArray Q S fuel (listed.setIfInBounds i true) a w) → K' a w) → if Region.wanted (l[i]'(blt_lt hi)) (yielded l.toArray a.tmps) = true then Oper.wp P (l[i]'(blt_lt hi)) a w K' Q else K' (a.put (l[i]'(blt_lt hi)).dst undef) w)
    (h2 : ∀ K' : Act → World → Prop, Shut (∀ a w, S w → (S w → wpAnyH P md l.toArray Q S fuel (listed.setIfInBounds j true) a w) → K' a w) → if Region.wanted (l[j]'(blt_lt hj)) (yielded l.toArray a.tmps) = true then Oper.wp P (l[j]'(blt_lt hj)) a w K' Q else K' (a.put (l[j]'(blt_lt hj)).dst undef) w) :
    wpAnyH P md l.toArray Q S (fuel + 1) listed a w :=
  wpAnyH_ready hr (by simp) (AllReadyH.cons (at_toArray (blt_lt hi)) h1 (AllReadyH.cons (at_toArray (blt_lt hj)) h2 AllReadyH.nil))
end
end
end Go.Proofs.YtbogjfmefkhglaaGreat
