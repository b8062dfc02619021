/-
  An id is read as an item.
-/
import Derived.Test.YtgakmkglejddeaaFldX
namespace Go.Proofs.Ytgakmkglejddeaa
set_option linter.unusedSimpArgs false
set_option linter.unusedVariables false
open Go.RowKit Sha
open Fld (Itm)
theorem icells_splice {x : Itm} (hx : x.ok) {D' : List Int} (hl : D'.length = 32) {q : Option Addr} {c : Nat} : splice (icells x q c) 2 (D'.map v8) = icells ⟨x.N, x.B, D'⟩ q c := by
  have h : (icells x q c).length = 34 := icells_length hx q c
  have e : ∀ (y : Itm), icells y q c = [.int .i64 y.N, .slice q y.B.length c] ++ y.D.map v8 := fun y => by unfold icells; rfl
  unfold splice
  rw [List.length_map, hl, List.drop_eq_nil_of_le (by omega), List.append_nil, e x, e ⟨x.N, x.B, D'⟩]
  rfl
attribute [local go_sem ↓] execOp_loadItem execOp_buildItems
set_option maxRecDepth 100000 in
set_option maxHeartbeats 2000000 in
theorem get_d (w0 : World) (ga : Nat) (bs : List Int) (p : Option Addr) (n c : Nat) (hin : RIn w0 ga bs p n c) (hn : n ≤ 1000000) (at_ : Nat) (l : List Itm) (w : World) (h : RAt w0 ga bs p n c (at_, l) w) :
    Calls Try.prog 33 #[.pointer (some ⟨ga, 0, none⟩), .int .i32 100] w (GDone w0 ga bs p n c 100 (at_, l) w) := by
  obtain ⟨v, ys, hs⟩ := h
  have HI := Lib.hid hin
  have HS := Lib.hid hs
  have hat : at_ ≤ n := hs.at_
  clear hin hs
  by_cases hsh : n - at_ < 32
  · have HG := Lib.hid (show Fld.getS bs 100 (at_, l) = ((n, l), 0, 4) by unfold Fld.getS; rw [if_neg (by omega), if_pos rfl, HI.out.len, if_pos hsh])
    go_enter Try.func33, Try.ntmps33
    go_wp2_with (first
      | (refine wpList_alloc_arr rfl 40 rfl _ item_info ?_; have hkA := HS.out.blk.old (Obj.cells (icells ⟨0, [], Fld.zero32⟩ none 0).toArray 40); have hiA := Blk.new w (icells ⟨0, [], Fld.zero32⟩ none 0).toArray 40; have hoA := only_alloc (only_refl w ga) (Obj.cells (icells ⟨0, [], Fld.zero32⟩ none 0).toArray 40); rw [List.toList_toArray] at hiA; have hBA := below_only HS.out.below hoA HI.out.base HS.out.below.size; have hgx : w.heap.size ≤ w.heap.size := Nat.le_refl _; have hlt : ga < w.heap.size := HS.out.blk.lt; have hgne : w.heap.size ≠ ga := (by omega); generalize w.alloc (Obj.cells (icells ⟨0, [], Fld.zero32⟩ none 0).toArray 40) = wA at *; generalize hgxe : w.heap.size = gx at *; have HGX := Lib.hid hgxe.symm; clear hgxe; have HKA := Lib.hid hkA; have HIA := Lib.hid hiA; have HOA := Lib.hid hoA; have HBA := Lib.hid hBA; clear hkA hiA hoA hBA hgx)
      | (go_at_call 41; refine (fill_any w0 ga gx 2 32 32 bs p n c HI.out v at_ wA HBA.out hat HKA.out _ 40 HIA.out hlt (by omega) (by rw [icells_length item0_ok']; omega)).mono ?_; rintro e w1 hf; unfold FDone at hf; rw [if_pos hsh] at hf; obtain ⟨rfl, hk1, hi1, ho1⟩ := hf; have HK1 := Lib.hid hk1; have HO1 := Lib.hid (only_trans HOA.out ho1); clear hk1 ho1 hi1))
    go_ret2
    exact ⟨by rw [HG.out]; rfl, by rw [HG.out]; exact HS.out.err HI.out.base HO1.out HK1.out (Nat.le_refl _) (by have h2 := HS.out.few; simp only at h2; show l.length ≤ n; omega), iters_of (others_only HO1.out 5) ⟨_, _, HS.out.blk⟩⟩
  · have HG := Lib.hid (show Fld.getS bs 100 (at_, l) = ((at_ + 32, l ++ [⟨0, [], (bs.drop at_).take 32⟩]), 0, 0) by unfold Fld.getS; rw [if_neg (by omega), if_pos rfl, HI.out.len, if_neg hsh])
    have hk1 : at_ + 32 ≤ n := by omega
    have HDL := Lib.hid (show ((bs.drop at_).take 32).length = 32 by rw [List.length_take, List.length_drop, HI.out.len]; omega)
    have HOKX := Lib.hid (show Itm.ok ⟨0, [], (bs.drop at_).take 32⟩ from ⟨by simp, by simp, by simp, fun x hx => HI.out.bd x (List.mem_of_mem_drop (List.mem_of_mem_take hx)), HDL.out⟩)
    go_enter Try.func33, Try.ntmps33
    go_wp2_with (first
      | (refine wpList_alloc_arr rfl 40 rfl _ item_info ?_; have hkA := HS.out.blk.old (Obj.cells (icells ⟨0, [], Fld.zero32⟩ none 0).toArray 40); have hiA := Blk.new w (icells ⟨0, [], Fld.zero32⟩ none 0).toArray 40; have hoA := only_alloc (only_refl w ga) (Obj.cells (icells ⟨0, [], Fld.zero32⟩ none 0).toArray 40); rw [List.toList_toArray] at hiA; have hBA := below_only HS.out.below hoA HI.out.base HS.out.below.size; have hgx : w.heap.size ≤ w.heap.size := Nat.le_refl _; have hlt : ga < w.heap.size := HS.out.blk.lt; have hgne : w.heap.size ≠ ga := (by omega); generalize w.alloc (Obj.cells (icells ⟨0, [], Fld.zero32⟩ none 0).toArray 40) = wA at *; generalize hgxe : w.heap.size = gx at *; have HGX := Lib.hid hgxe.symm; clear hgxe; have HKA := Lib.hid hkA; have HIA := Lib.hid hiA; have HOA := Lib.hid hoA; have HBA := Lib.hid hBA; clear hkA hiA hoA hBA hgx)
      | (go_at_call 41; refine (fill_any w0 ga gx 2 32 32 bs p n c HI.out v at_ wA HBA.out hat HKA.out _ 40 HIA.out hlt (by omega) (by rw [icells_length item0_ok']; omega)).mono ?_; rintro e w1 hf; unfold FDone at hf; rw [if_neg hsh] at hf; obtain ⟨rfl, hk1', hi1, w3, hb3, ho3⟩ := hf; have HK1 := Lib.hid hk1'; have HO1 := Lib.hid (only_fill HOA.out (Nat.le_of_eq HGX.out.symm) hb3 ho3); rw [icells_splice item0_ok' HDL.out] at hi1; have HI1 := Lib.hid hi1; clear hk1' hb3 ho3 hi1))
    have hgs := HS.out.step HI.out.base HO1.out HK1.out HI1.out ⟨HOKX.out, rfl, by simp, Or.inl ⟨rfl, rfl⟩⟩ (Nat.le_of_eq HGX.out.symm)
    have HLL := Lib.hid (show l.length + 1 ≤ at_ + 32 by have h2 := HS.out.few; simp only at h2; omega)
    obtain ⟨x, hxx⟩ : ∃ x : Itm, x = ⟨0, [], (bs.drop at_).take 32⟩ := ⟨_, rfl⟩
    have HXN := Lib.hid (show x.N = 0 by rw [hxx])
    have GS := Lib.hid hgs
    clear hgs HK1 HI1 HO1
    generalize w1 = w2 at *
    obtain ⟨at2, hat2⟩ : ∃ a, a = at_ + 32 := ⟨_, rfl⟩
    rw [← hat2] at GS HG HLL hk1
    clear hat2 HDL hsh
    rw [← hxx] at GS HG
    clear hxx HOKX
    obtain ⟨q, hq⟩ : ∃ q : Option Addr, q = none := ⟨_, rfl⟩
    obtain ⟨qc, hqc⟩ : ∃ qc : Nat, qc = 0 := ⟨_, rfl⟩
    rw [← hq, ← hqc] at GS
    clear hq hqc
    have c2 : w2.cell? ⟨ga, 2, none⟩ = some v := GS.out.blk.cell 2
    have g0 : w2.cell? ⟨gx, 0, none⟩ = some (.int .i64 x.N) := (GS.out.item.cell 0).trans (icells_0 _ _ _)
    have c2' : (w2.alloc (Obj.cells (icells x q qc).toArray 40)).cell? ⟨ga, 2, none⟩ = some v := (GS.out.blk.old _).cell 2
    have ld := load_item GS.out.goodx.ok GS.out.item.drew
    have bd := fun w => build_item w (q := q) (c := qc) GS.out.goodx.ok
    have hll := HLL.out
    obtain ⟨i0, hi0, hz0, hz1, hz2⟩ := info_parts item_all3
    have HI0 := Lib.hid hi0
    have HZ0 := Lib.hid hz0
    have HZ1 := Lib.hid hz1
    have HZ2 := Lib.hid hz2
    clear hi0 hz0 hz1 hz2
    have HZS := Lib.hid (show (Value.agg (icells ⟨0, [], Fld.zero32⟩ none 0).toArray).cells.size = 34 by show (icells ⟨0, [], Fld.zero32⟩ none 0).toArray.size = 34; rw [List.size_toArray, icells_length item0_ok'])
    go_region_law ((refine step_append_lies _ (by rfl) _ _ _ (by rfl) w0.heap.size 40 i0 _ 34 64 Try.underlying22 HI0.out HZ0.out HZ1.out HZ2.out HZS.out (by omega) v l.length _ (by rfl) ((GS.out.own.alloc _).drew) ⟨w2.heap.size, 0, none⟩ 1 1 (icells x q qc) (by rfl) (by rw [icells_length GS.out.goodx.ok]) (World.news_of_block (cs := (icells x q qc).toArray) (t := 40) (fr := (0, 0)) (heap_alloc_new w2 _)) (icells_one x q qc) (by omega) (by unfold maxLen; omega) (by omega) (by have := GS.out.size; simp; omega) (w2.heap.size + 1) (by simp) ?_; intro g5 cap5 w5 hown5 hgrow5 hat5 hlt5; obtain ⟨ra5, it5, k5, i5⟩ := GS.out.done HI.out.base (Obj.cells (icells x q qc).toArray 40) ⟨hgrow5.os, hgrow5.tape, hgrow5.output, hgrow5.size, hgrow5.block⟩ hown5 hk1 hll; have s0 : w5.cell? ⟨ga, 2, none⟩ = some v := k5.cell 2; have s1 : w5.frozen? ⟨ga, 2, none⟩ = false := k5.free 2; have s2 : w5.cell? ⟨gx, 0, none⟩ = some (.int .i64 x.N) := (i5.cell 0).trans (icells_0 _ _ _); have RA5 := Lib.hid ra5; have IT5 := Lib.hid it5; clear hown5 hgrow5 hat5 ra5 it5 k5 i5))
    all_goals
      go_wp2_with fail
      go_ret2
      exact ⟨by rw [HG.out]; show Ending.returned (.tuple #[.int .i64 x.N, .int .i64 0]) = _; rw [HXN.out], by rw [HG.out]; exact RA5.out, IT5.out⟩
end Go.Proofs.Ytgakmkglejddeaa
