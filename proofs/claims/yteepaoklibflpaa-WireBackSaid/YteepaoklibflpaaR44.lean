/-
  How often a group is there is read as an item.
  An id is read as an item.
  Bytes are read as an item.
-/
import Derived.Test.YteepaoklibflpaaR43
namespace Go.Proofs.Yteepaoklibflpaa
section
set_option linter.unusedSimpArgs false
set_option linter.unusedVariables false
open Go.RowKit Sha
open Fld (Itm)
attribute [local go_sem ↓] execOp_loadItem execOp_buildItems
set_option maxRecDepth 100000 in
set_option maxHeartbeats 2000000 in
theorem get_o (w0 : World) (ga : Nat) (bs : List Int) (p : Option Addr) (n c : Nat) (hin : RIn w0 ga bs p n c) (hn : n ≤ 1000000) (at_ : Nat) (l : List Itm) (w : World) (h : RAt w0 ga bs p n c (at_, l) w) :
    Calls Try.prog 35 #[.pointer (some ⟨ga, 0, none⟩), .int .i32 40] w (GDone w0 ga bs p n c 40 (at_, l) w) := by
  obtain ⟨v, ys, hs⟩ := h
  have HI := Lib.hid hin
  have HS := Lib.hid hs
  have hat : at_ ≤ n := hs.at_
  obtain ⟨r, hr⟩ : ∃ r, r = Fld.rdTop (bs.drop at_) := ⟨_, rfl⟩
  have HR := Lib.hid hr
  clear hin hs
  by_cases h0 : r.1 = 0
  · have h0' : (r.1 == 0) = true := by simpa using h0
    obtain ⟨m, e1, e2, e3, e4, e5⟩ := Fld.rdTop_back (bs.drop at_) r.2.1 r.2.2 (fun x hx => HI.out.bd x (List.mem_of_mem_drop hx)) (by rw [← hr, ← h0])
    have HG := Lib.hid (getS_o_ok (bs := bs) (at_ := at_) (acc := l) hr h0)
    have hpos := Fld.num_pos m
    rw [List.length_drop, HI.out.len] at e4
    have hk1 : at_ + r.2.2 ≤ n := by omega
    have hk2 : at_ + 1 ≤ at_ + r.2.2 := by omega
    have HOKX := Lib.hid (show Itm.ok ⟨r.2.1, [], Fld.zero32⟩ from ⟨by simp only []; omega, by simp only []; omega, by simp, item0_ok'.D, Fld.zero32_length⟩)
    clear e1 e2 e3 e4 e5 h0 hr hpos
    go_enter Try.func35, Try.ntmps35
    go_wp2_with (first
      | (refine wpList_alloc_arr rfl 98 rfl _ item_info ?_; have hkA := HS.out.blk.old (Obj.cells (icells ⟨0, [], Fld.zero32⟩ none 0).toArray 98); have hiA := Blk.new w (icells ⟨0, [], Fld.zero32⟩ none 0).toArray 98; have hoA := only_alloc (only_refl w ga) (Obj.cells (icells ⟨0, [], Fld.zero32⟩ none 0).toArray 98); rw [List.toList_toArray] at hiA; have hBA := below_only HS.out.below hoA HI.out.base HS.out.below.size; have hgx : w.heap.size ≤ w.heap.size := Nat.le_refl _; have hlt : ga < w.heap.size := HS.out.blk.lt; have hgne : w.heap.size ≠ ga := (by omega); generalize w.alloc (Obj.cells (icells ⟨0, [], Fld.zero32⟩ none 0).toArray 98) = wA at *; generalize hgxe : w.heap.size = gx at *; have HGX := Lib.hid hgxe.symm; clear hgxe; have HKA := Lib.hid hkA; have HIA := Lib.hid hiA; have HOA := Lib.hid hoA; have HBA := Lib.hid hBA; clear hkA hiA hoA hBA hgx)
      | (go_at_call 50; refine (count_any w0 ga bs p n c HI.out v at_ wA HBA.out hat HKA.out).mono ?_; rw [← HR.out]; rintro e w1 ⟨rfl, hk1, ho1⟩; have hi1 := HIA.out.grow ho1 (fun e => hgne (Option.some.inj e).symm); have d0 : w1.cell? ⟨gx, 0, none⟩ = some (.int .i64 0) := (hi1.cell 0).trans (icells_0 _ _ _); have d1 : w1.frozen? ⟨gx, 0, none⟩ = false := hi1.free 0; have HK1 := Lib.hid hk1; have HO1 := Lib.hid (only_trans HOA.out ho1); have HI1 := Lib.hid hi1; clear hk1 ho1 hi1))
    have ho2 := only_setNew HO1.out (Nat.le_of_eq HGX.out.symm) 0 (.int .i64 r.2.1)
    have hk3 := HK1.out.setOther (⟨gx, 0, none⟩ : Addr) (.int .i64 r.2.1) (Ne.symm hgne)
    have hi2 : Blk (w1.setCell ⟨gx, 0, none⟩ (.int .i64 r.2.1)) gx (icells ⟨r.2.1, [], Fld.zero32⟩ none 0) 98 := by have := HI1.out.set 0 (.int .i64 r.2.1); rwa [icells_set0] at this
    have hgs := HS.out.step HI.out.base ho2 hk3 hi2 ⟨HOKX.out, rfl, by simp, Or.inl ⟨rfl, rfl⟩⟩ (Nat.le_of_eq HGX.out.symm)
    have HLL := Lib.hid (show l.length + 1 ≤ at_ + r.2.2 by have h2 := HS.out.few; simp only at h2; omega)
    obtain ⟨x, hxx⟩ : ∃ x : Itm, x = ⟨r.2.1, [], Fld.zero32⟩ := ⟨_, rfl⟩
    have HXN := Lib.hid (show x.N = r.2.1 by rw [hxx])
    clear ho2 hk3 hi2 d0 d1
    generalize w1.setCell ⟨gx, 0, none⟩ (.int .i64 r.2.1) = w2 at *
    have GS := Lib.hid hgs
    clear hgs
    obtain ⟨at2, hat2⟩ : ∃ a, a = at_ + r.2.2 := ⟨_, rfl⟩
    rw [← hat2] at GS HG HLL hk1 hk2
    clear hat2 HK1 HI1 HO1
    rw [← hxx] at GS HG
    clear hxx HOKX
    obtain ⟨q, hq⟩ : ∃ q : Option Addr, q = none := ⟨_, rfl⟩
    obtain ⟨qc, hqc⟩ : ∃ qc : Nat, qc = 0 := ⟨_, rfl⟩
    rw [← hq, ← hqc] at GS
    clear hq hqc
    have c2 : w2.cell? ⟨ga, 2, none⟩ = some v := GS.out.blk.cell 2
    have g0 : w2.cell? ⟨gx, 0, none⟩ = some (.int .i64 x.N) := (GS.out.item.cell 0).trans (icells_0 _ _ _)
    have c2' : (w2.alloc (Obj.cells (icells x q qc).toArray 98)).cell? ⟨ga, 2, none⟩ = some v := (GS.out.blk.old _).cell 2
    have ld := load_item GS.out.goodx.ok GS.out.item.drew
    have bd := fun w => build_item w (q := q) (c := qc) GS.out.goodx.ok
    have hll := HLL.out
    obtain ⟨i0, hi0, hz0, hz1, hz2⟩ := info_parts item_all3
    have HI0 := Lib.hid hi0
    have HZ0 := Lib.hid hz0
    have HZ1 := Lib.hid hz1
    have HZ2 := Lib.hid hz2
    clear hi0 hz0 hz1 hz2
    have HZS := Lib.hid (show (Value.agg (icells ⟨0, [], Fld.zero32⟩ none 0).toArray).cells.size = 34 by show (icells ⟨0, [], Fld.zero32⟩ none 0).toArray.size = 34; rw [List.size_toArray, icells_length item0_ok'])
    go_region_law ((refine step_append_lies _ (by rfl) _ _ _ (by rfl) w0.heap.size 98 i0 _ 34 64 Try.underlying55 HI0.out HZ0.out HZ1.out HZ2.out HZS.out (by omega) v l.length _ (by rfl) ((GS.out.own.alloc _).drew) ⟨w2.heap.size, 0, none⟩ 1 1 (icells x q qc) (by rfl) (by rw [icells_length GS.out.goodx.ok]) (World.news_of_block (cs := (icells x q qc).toArray) (t := 98) (fr := (0, 0)) (heap_alloc_new w2 _)) (icells_one x q qc) (by omega) (by unfold maxLen; omega) (by omega) (by have := GS.out.size; simp; omega) (w2.heap.size + 1) (by simp) ?_; intro g5 cap5 w5 hown5 hgrow5 hat5 hlt5; obtain ⟨ra5, it5, k5, i5⟩ := GS.out.done HI.out.base (Obj.cells (icells x q qc).toArray 98) ⟨hgrow5.os, hgrow5.tape, hgrow5.output, hgrow5.size, hgrow5.block⟩ hown5 hk1 hll; have s0 : w5.cell? ⟨ga, 2, none⟩ = some v := k5.cell 2; have s1 : w5.frozen? ⟨ga, 2, none⟩ = false := k5.free 2; have s2 : w5.cell? ⟨gx, 0, none⟩ = some (.int .i64 x.N) := (i5.cell 0).trans (icells_0 _ _ _); have RA5 := Lib.hid ra5; have IT5 := Lib.hid it5; clear hown5 hgrow5 hat5 ra5 it5 k5 i5))
    all_goals
      go_wp2_with fail
      go_ret2
      exact ⟨by rw [HG.out]; show Ending.returned (.tuple #[.int .i64 x.N, .int .i64 0]) = _; rw [HXN.out], by rw [HG.out]; exact RA5.out, IT5.out⟩
  · have h0' : (r.1 == 0) = false := by simpa using h0
    have HG := Lib.hid (getS_o_err (bs := bs) (at_ := at_) (acc := l) (by rw [HI.out.len]; exact hat) hr h0)
    have HAT := Lib.hid (show at_ + r.2.2 ≤ n ∧ l.length ≤ at_ + r.2.2 from by have h1 := rdTop_at (bs.drop at_) at_ (by rw [← hr]; exact h0); rw [← hr, List.length_drop, HI.out.len] at h1; have h2 := HS.out.few; simp only at h2; split at h1 <;> omega)
    clear h0 hr
    go_enter Try.func35, Try.ntmps35
    go_wp2_with (first
      | (refine wpList_alloc_arr rfl 98 rfl _ item_info ?_; have hkA := HS.out.blk.old (Obj.cells (icells ⟨0, [], Fld.zero32⟩ none 0).toArray 98); have hiA := Blk.new w (icells ⟨0, [], Fld.zero32⟩ none 0).toArray 98; have hoA := only_alloc (only_refl w ga) (Obj.cells (icells ⟨0, [], Fld.zero32⟩ none 0).toArray 98); rw [List.toList_toArray] at hiA; have hBA := below_only HS.out.below hoA HI.out.base HS.out.below.size; have hgx : w.heap.size ≤ w.heap.size := Nat.le_refl _; have hlt : ga < w.heap.size := HS.out.blk.lt; have hgne : w.heap.size ≠ ga := (by omega); generalize w.alloc (Obj.cells (icells ⟨0, [], Fld.zero32⟩ none 0).toArray 98) = wA at *; generalize hgxe : w.heap.size = gx at *; have HGX := Lib.hid hgxe.symm; clear hgxe; have HKA := Lib.hid hkA; have HIA := Lib.hid hiA; have HOA := Lib.hid hoA; have HBA := Lib.hid hBA; clear hkA hiA hoA hBA hgx)
      | (go_at_call 50; refine (count_any w0 ga bs p n c HI.out v at_ wA HBA.out hat HKA.out).mono ?_; rw [← HR.out]; rintro e w1 ⟨rfl, hk1, ho1⟩; have hi1 := HIA.out.grow ho1 (fun e => hgne (Option.some.inj e).symm); have d0 : w1.cell? ⟨gx, 0, none⟩ = some (.int .i64 0) := (hi1.cell 0).trans (icells_0 _ _ _); have d1 : w1.frozen? ⟨gx, 0, none⟩ = false := hi1.free 0; have HK1 := Lib.hid hk1; have HO1 := Lib.hid (only_trans HOA.out ho1); have HI1 := Lib.hid hi1; clear hk1 ho1 hi1))
    go_ret2
    have ho2 := only_setNew HO1.out (Nat.le_of_eq HGX.out.symm) 0 (.int .i64 r.2.1)
    have hk2 := HK1.out.setOther (⟨gx, 0, none⟩ : Addr) (.int .i64 r.2.1) (Ne.symm hgne)
    exact ⟨by rw [HG.out]; rfl, by rw [HG.out]; exact HS.out.err HI.out.base ho2 hk2 HAT.out.1 HAT.out.2, iters_of (others_only ho2 5) ⟨_, _, HS.out.blk⟩⟩
end
section
set_option linter.unusedSimpArgs false
set_option linter.unusedVariables false
open Go.RowKit Sha
open Fld (Itm)
theorem icells_splice {x : Itm} (hx : x.ok) {D' : List Int} (hl : D'.length = 32) {q : Option Addr} {c : Nat} : splice (icells x q c) 2 (D'.map v8) = icells ⟨x.N, x.B, D'⟩ q c := by
  have h : (icells x q c).length = 34 := icells_length hx q c
  have e : ∀ (y : Itm), icells y q c = [.int .i64 y.N, .slice q y.B.length c] ++ y.D.map v8 := fun y => by unfold icells; rfl
  unfold splice
  rw [List.length_map, hl, List.drop_eq_nil_of_le (by omega), List.append_nil, e x, e ⟨x.N, x.B, D'⟩]
  rfl
attribute [local go_sem ↓] execOp_loadItem execOp_buildItems
set_option maxRecDepth 100000 in
set_option maxHeartbeats 2000000 in
theorem get_d (w0 : World) (ga : Nat) (bs : List Int) (p : Option Addr) (n c : Nat) (hin : RIn w0 ga bs p n c) (hn : n ≤ 1000000) (at_ : Nat) (l : List Itm) (w : World) (h : RAt w0 ga bs p n c (at_, l) w) :
    Calls Try.prog 35 #[.pointer (some ⟨ga, 0, none⟩), .int .i32 100] w (GDone w0 ga bs p n c 100 (at_, l) w) := by
  obtain ⟨v, ys, hs⟩ := h
  have HI := Lib.hid hin
  have HS := Lib.hid hs
  have hat : at_ ≤ n := hs.at_
  clear hin hs
  by_cases hsh : n - at_ < 32
  · have HG := Lib.hid (show Fld.getS bs 100 (at_, l) = ((n, l), 0, 4) by unfold Fld.getS; rw [if_neg (by omega), if_pos rfl, HI.out.len, if_pos hsh])
    go_enter Try.func35, Try.ntmps35
    go_wp2_with (first
      | (refine wpList_alloc_arr rfl 98 rfl _ item_info ?_; have hkA := HS.out.blk.old (Obj.cells (icells ⟨0, [], Fld.zero32⟩ none 0).toArray 98); have hiA := Blk.new w (icells ⟨0, [], Fld.zero32⟩ none 0).toArray 98; have hoA := only_alloc (only_refl w ga) (Obj.cells (icells ⟨0, [], Fld.zero32⟩ none 0).toArray 98); rw [List.toList_toArray] at hiA; have hBA := below_only HS.out.below hoA HI.out.base HS.out.below.size; have hgx : w.heap.size ≤ w.heap.size := Nat.le_refl _; have hlt : ga < w.heap.size := HS.out.blk.lt; have hgne : w.heap.size ≠ ga := (by omega); generalize w.alloc (Obj.cells (icells ⟨0, [], Fld.zero32⟩ none 0).toArray 98) = wA at *; generalize hgxe : w.heap.size = gx at *; have HGX := Lib.hid hgxe.symm; clear hgxe; have HKA := Lib.hid hkA; have HIA := Lib.hid hiA; have HOA := Lib.hid hoA; have HBA := Lib.hid hBA; clear hkA hiA hoA hBA hgx)
      | (go_at_call 49; refine (fill_any w0 ga gx 2 32 32 bs p n c HI.out v at_ wA HBA.out hat HKA.out _ 98 HIA.out hlt (by omega) (by rw [icells_length item0_ok']; omega)).mono ?_; rintro e w1 hf; unfold FlsDone at hf; rw [if_pos hsh] at hf; obtain ⟨rfl, hk1, hi1, ho1⟩ := hf; have HK1 := Lib.hid hk1; have HO1 := Lib.hid (only_trans HOA.out ho1); clear hk1 ho1 hi1))
    go_ret2
    exact ⟨by rw [HG.out]; rfl, by rw [HG.out]; exact HS.out.err HI.out.base HO1.out HK1.out (Nat.le_refl _) (by have h2 := HS.out.few; simp only at h2; show l.length ≤ n; omega), iters_of (others_only HO1.out 5) ⟨_, _, HS.out.blk⟩⟩
  · have HG := Lib.hid (show Fld.getS bs 100 (at_, l) = ((at_ + 32, l ++ [⟨0, [], (bs.drop at_).take 32⟩]), 0, 0) by unfold Fld.getS; rw [if_neg (by omega), if_pos rfl, HI.out.len, if_neg hsh])
    have hk1 : at_ + 32 ≤ n := by omega
    have HDL := Lib.hid (show ((bs.drop at_).take 32).length = 32 by rw [List.length_take, List.length_drop, HI.out.len]; omega)
    have HOKX := Lib.hid (show Itm.ok ⟨0, [], (bs.drop at_).take 32⟩ from ⟨by simp, by simp, by simp, fun x hx => HI.out.bd x (List.mem_of_mem_drop (List.mem_of_mem_take hx)), HDL.out⟩)
    go_enter Try.func35, Try.ntmps35
    go_wp2_with (first
      | (refine wpList_alloc_arr rfl 98 rfl _ item_info ?_; have hkA := HS.out.blk.old (Obj.cells (icells ⟨0, [], Fld.zero32⟩ none 0).toArray 98); have hiA := Blk.new w (icells ⟨0, [], Fld.zero32⟩ none 0).toArray 98; have hoA := only_alloc (only_refl w ga) (Obj.cells (icells ⟨0, [], Fld.zero32⟩ none 0).toArray 98); rw [List.toList_toArray] at hiA; have hBA := below_only HS.out.below hoA HI.out.base HS.out.below.size; have hgx : w.heap.size ≤ w.heap.size := Nat.le_refl _; have hlt : ga < w.heap.size := HS.out.blk.lt; have hgne : w.heap.size ≠ ga := (by omega); generalize w.alloc (Obj.cells (icells ⟨0, [], Fld.zero32⟩ none 0).toArray 98) = wA at *; generalize hgxe : w.heap.size = gx at *; have HGX := Lib.hid hgxe.symm; clear hgxe; have HKA := Lib.hid hkA; have HIA := Lib.hid hiA; have HOA := Lib.hid hoA; have HBA := Lib.hid hBA; clear hkA hiA hoA hBA hgx)
      | (go_at_call 49; refine (fill_any w0 ga gx 2 32 32 bs p n c HI.out v at_ wA HBA.out hat HKA.out _ 98 HIA.out hlt (by omega) (by rw [icells_length item0_ok']; omega)).mono ?_; rintro e w1 hf; unfold FlsDone at hf; rw [if_neg hsh] at hf; obtain ⟨rfl, hk1', hi1, w3, hb3, ho3⟩ := hf; have HK1 := Lib.hid hk1'; have HO1 := Lib.hid (only_fill HOA.out (Nat.le_of_eq HGX.out.symm) hb3 ho3); rw [icells_splice item0_ok' HDL.out] at hi1; have HI1 := Lib.hid hi1; clear hk1' hb3 ho3 hi1))
    have hgs := HS.out.step HI.out.base HO1.out HK1.out HI1.out ⟨HOKX.out, rfl, by simp, Or.inl ⟨rfl, rfl⟩⟩ (Nat.le_of_eq HGX.out.symm)
    have HLL := Lib.hid (show l.length + 1 ≤ at_ + 32 by have h2 := HS.out.few; simp only at h2; omega)
    obtain ⟨x, hxx⟩ : ∃ x : Itm, x = ⟨0, [], (bs.drop at_).take 32⟩ := ⟨_, rfl⟩
    have HXN := Lib.hid (show x.N = 0 by rw [hxx])
    have GS := Lib.hid hgs
    clear hgs HK1 HI1 HO1
    generalize w1 = w2 at *
    obtain ⟨at2, hat2⟩ : ∃ a, a = at_ + 32 := ⟨_, rfl⟩
    rw [← hat2] at GS HG HLL hk1
    clear hat2 HDL hsh
    rw [← hxx] at GS HG
    clear hxx HOKX
    obtain ⟨q, hq⟩ : ∃ q : Option Addr, q = none := ⟨_, rfl⟩
    obtain ⟨qc, hqc⟩ : ∃ qc : Nat, qc = 0 := ⟨_, rfl⟩
    rw [← hq, ← hqc] at GS
    clear hq hqc
    have c2 : w2.cell? ⟨ga, 2, none⟩ = some v := GS.out.blk.cell 2
    have g0 : w2.cell? ⟨gx, 0, none⟩ = some (.int .i64 x.N) := (GS.out.item.cell 0).trans (icells_0 _ _ _)
    have c2' : (w2.alloc (Obj.cells (icells x q qc).toArray 98)).cell? ⟨ga, 2, none⟩ = some v := (GS.out.blk.old _).cell 2
    have ld := load_item GS.out.goodx.ok GS.out.item.drew
    have bd := fun w => build_item w (q := q) (c := qc) GS.out.goodx.ok
    have hll := HLL.out
    obtain ⟨i0, hi0, hz0, hz1, hz2⟩ := info_parts item_all3
    have HI0 := Lib.hid hi0
    have HZ0 := Lib.hid hz0
    have HZ1 := Lib.hid hz1
    have HZ2 := Lib.hid hz2
    clear hi0 hz0 hz1 hz2
    have HZS := Lib.hid (show (Value.agg (icells ⟨0, [], Fld.zero32⟩ none 0).toArray).cells.size = 34 by show (icells ⟨0, [], Fld.zero32⟩ none 0).toArray.size = 34; rw [List.size_toArray, icells_length item0_ok'])
    go_region_law ((refine step_append_lies _ (by rfl) _ _ _ (by rfl) w0.heap.size 98 i0 _ 34 64 Try.underlying55 HI0.out HZ0.out HZ1.out HZ2.out HZS.out (by omega) v l.length _ (by rfl) ((GS.out.own.alloc _).drew) ⟨w2.heap.size, 0, none⟩ 1 1 (icells x q qc) (by rfl) (by rw [icells_length GS.out.goodx.ok]) (World.news_of_block (cs := (icells x q qc).toArray) (t := 98) (fr := (0, 0)) (heap_alloc_new w2 _)) (icells_one x q qc) (by omega) (by unfold maxLen; omega) (by omega) (by have := GS.out.size; simp; omega) (w2.heap.size + 1) (by simp) ?_; intro g5 cap5 w5 hown5 hgrow5 hat5 hlt5; obtain ⟨ra5, it5, k5, i5⟩ := GS.out.done HI.out.base (Obj.cells (icells x q qc).toArray 98) ⟨hgrow5.os, hgrow5.tape, hgrow5.output, hgrow5.size, hgrow5.block⟩ hown5 hk1 hll; have s0 : w5.cell? ⟨ga, 2, none⟩ = some v := k5.cell 2; have s1 : w5.frozen? ⟨ga, 2, none⟩ = false := k5.free 2; have s2 : w5.cell? ⟨gx, 0, none⟩ = some (.int .i64 x.N) := (i5.cell 0).trans (icells_0 _ _ _); have RA5 := Lib.hid ra5; have IT5 := Lib.hid it5; clear hown5 hgrow5 hat5 ra5 it5 k5 i5))
    all_goals
      go_wp2_with fail
      go_ret2
      exact ⟨by rw [HG.out]; show Ending.returned (.tuple #[.int .i64 x.N, .int .i64 0]) = _; rw [HXN.out], by rw [HG.out]; exact RA5.out, IT5.out⟩
end
section
set_option linter.unusedSimpArgs false
set_option linter.unusedVariables false
open Go.RowKit Sha
open Fld (Itm)
attribute [local go_sem ↓] execOp_loadItem execOp_buildItems
set_option maxRecDepth 100000 in
set_option maxHeartbeats 2000000 in
theorem get_b (w0 : World) (ga : Nat) (bs : List Int) (p : Option Addr) (n c : Nat) (hin : RIn w0 ga bs p n c) (hn : n ≤ 1000000) (at_ : Nat) (l : List Itm) (w : World) (h : RAt w0 ga bs p n c (at_, l) w) :
    Calls Try.prog 35 #[.pointer (some ⟨ga, 0, none⟩), .int .i32 98] w (GDone w0 ga bs p n c 98 (at_, l) w) := by
  obtain ⟨v, ys, hs⟩ := h
  have HI := Lib.hid hin
  have HS := Lib.hid hs
  have hat : at_ ≤ n := hs.at_
  clear hin hs
  go_enter Try.func35, Try.ntmps35
  go_wp2_with ((refine wpList_alloc_arr rfl 98 rfl _ item_info ?_; have hkA := HS.out.blk.old (Obj.cells (icells ⟨0, [], Fld.zero32⟩ none 0).toArray 98); have hiA := Blk.new w (icells ⟨0, [], Fld.zero32⟩ none 0).toArray 98; have hoA := only_alloc (only_refl w ga) (Obj.cells (icells ⟨0, [], Fld.zero32⟩ none 0).toArray 98); rw [List.toList_toArray] at hiA; have hBA := below_only HS.out.below hoA HI.out.base HS.out.below.size; have hgx : w.heap.size ≤ w.heap.size := Nat.le_refl _; have hlt : ga < w.heap.size := HS.out.blk.lt; have hgne : w.heap.size ≠ ga := (by omega); generalize w.alloc (Obj.cells (icells ⟨0, [], Fld.zero32⟩ none 0).toArray 98) = wA at *; generalize hgxe : w.heap.size = gx at *; have HGX := Lib.hid hgxe.symm; clear hgxe; have HKA := Lib.hid hkA; have HIA := Lib.hid hiA; have HOA := Lib.hid hoA; have HBA := Lib.hid hBA; clear hkA hiA hoA hBA hgx))
  refine (bytes_any w0 ga bs p n c HI.out v at_ wA HBA.out hat HKA.out).mono ?_
  rintro e w1 ⟨qq, mm, cc, er, at2, rfl, hk1, ho1, hor⟩
  have hi1 := HIA.out.grow ho1 (fun e => hgne (Option.some.inj e).symm)
  have d0 : w1.cell? ⟨gx, 1, none⟩ = some (.slice none 0 0) := (hi1.cell 1).trans (icells_1 _ _ _)
  have d1 : w1.frozen? ⟨gx, 1, none⟩ = false := hi1.free 1
  have d2 : w1.cell? ⟨gx, 0, none⟩ = some (.int .i64 0) := (hi1.cell 0).trans (icells_0 _ _ _)
  have HK1 := Lib.hid hk1
  have HO1 := Lib.hid (only_trans HOA.out ho1)
  have HAS := Lib.hid (show gx < wA.heap.size from HIA.out.lt)
  have HI1 := Lib.hid hi1
  clear hk1 ho1 hi1
  have ho2 := only_setNew HO1.out (Nat.le_of_eq HGX.out.symm) 1 (.slice qq mm cc)
  have hk3 := HK1.out.setOther (⟨gx, 1, none⟩ : Addr) (.slice qq mm cc) (Ne.symm hgne)
  have HO2 := Lib.hid ho2
  have HK3 := Lib.hid hk3
  clear ho2 hk3
  rcases hor with ⟨he, h1, h2, h3⟩ | ⟨rfl, m, k, g, h1, h2, h3, h4, h5, rfl, rfl, rfl, h6, h7⟩
  · have he' : (er == 0) = false := by simpa using he
    have HG := Lib.hid (h3 l)
    have HF := Lib.hid (show l.length ≤ at2 by have h4 := HS.out.few; simp only at h4; omega)
    clear he h3
    go_wp2_with fail
    go_ret2
    exact ⟨by rw [HG.out]; rfl, by rw [HG.out]; exact HS.out.err HI.out.base HO2.out HK3.out h2 HF.out, iters_of (others_only HO2.out 5) ⟨_, _, HS.out.blk⟩⟩
  · have HG := Lib.hid (h1 l)
    have HLEN := Lib.hid h2
    have HB1 := Lib.hid h6
    have HGG := Lib.hid h7
    have hk1 : at2 ≤ n := h5
    have HLL := Lib.hid (show l.length + 1 ≤ at2 by have h8 := HS.out.few; simp only at h8; omega)
    have HMX := Lib.hid h3
    clear h1 h2 h3 h4 h5 h6 h7
    go_wp2_with fail
    obtain ⟨x, hxx⟩ : ∃ x : Itm, x = ⟨0, (bs.drop (at_ + k)).take cc, Fld.zero32⟩ := ⟨_, rfl⟩
    have HXN := Lib.hid (show x.N = 0 by rw [hxx])
    have hi2 : Blk (w1.setCell ⟨gx, 1, none⟩ (.slice (some ⟨g, 0, none⟩) cc cc)) gx (icells x (some ⟨g, 0, none⟩) cc) 98 := by
      have h8 := HI1.out.set 1 (.slice (some ⟨g, 0, none⟩) cc cc)
      have h9 := icells_set1 ⟨0, [], Fld.zero32⟩ none 0 ((bs.drop (at_ + k)).take cc) (some ⟨g, 0, none⟩) cc
      rw [← HLEN.out] at h9
      rw [h9] at h8
      rw [hxx]; exact h8
    have hgx : GoodR w0.heap.size (w1.setCell ⟨gx, 1, none⟩ (.slice (some ⟨g, 0, none⟩) cc cc)) x (some ⟨g, 0, none⟩) cc := by
      rw [hxx]
      refine ⟨⟨by simp, by simp, fun y hy => HI.out.bd y (List.mem_of_mem_drop (List.mem_of_mem_take hy)), item0_ok'.D, Fld.zero32_length⟩, HLEN.out, HMX.out, Or.inr ⟨g, rfl, ?_, HB1.out.setOther _ _ ?_⟩⟩
      · have h8 := HS.out.below.size
        have h9 := HGG.out
        have h10 := HAS.out
        have h11 := HGX.out
        omega
      have h8 := HAS.out
      have h9 := HGG.out
      show g ≠ gx
      omega
    have GS := Lib.hid (HS.out.step HI.out.base HO2.out HK3.out hi2 hgx (Nat.le_of_eq HGX.out.symm))
    rw [← hxx] at HG
    clear hxx hi2 hgx HK1 HO1 HI1 HO2 HK3 d0 d1 d2 HLEN HB1 HGG HMX
    generalize w1.setCell ⟨gx, 1, none⟩ (.slice (some ⟨g, 0, none⟩) cc cc) = w2 at *
    obtain ⟨q, hq⟩ : ∃ q : Option Addr, q = some ⟨g, 0, none⟩ := ⟨_, rfl⟩
    obtain ⟨qc, hqc⟩ : ∃ qc : Nat, qc = cc := ⟨_, rfl⟩
    rw [← hq, ← hqc] at GS
    clear hq hqc
    have c2 : w2.cell? ⟨ga, 2, none⟩ = some v := GS.out.blk.cell 2
    have g0 : w2.cell? ⟨gx, 0, none⟩ = some (.int .i64 x.N) := (GS.out.item.cell 0).trans (icells_0 _ _ _)
    have c2' : (w2.alloc (Obj.cells (icells x q qc).toArray 98)).cell? ⟨ga, 2, none⟩ = some v := (GS.out.blk.old _).cell 2
    have ld := load_item GS.out.goodx.ok GS.out.item.drew
    have bd := fun w => build_item w (q := q) (c := qc) GS.out.goodx.ok
    have hll := HLL.out
    obtain ⟨i0, hi0, hz0, hz1, hz2⟩ := info_parts item_all3
    have HI0 := Lib.hid hi0
    have HZ0 := Lib.hid hz0
    have HZ1 := Lib.hid hz1
    have HZ2 := Lib.hid hz2
    clear hi0 hz0 hz1 hz2
    have HZS := Lib.hid (show (Value.agg (icells ⟨0, [], Fld.zero32⟩ none 0).toArray).cells.size = 34 by show (icells ⟨0, [], Fld.zero32⟩ none 0).toArray.size = 34; rw [List.size_toArray, icells_length item0_ok'])
    go_region_law ((refine step_append_lies _ (by rfl) _ _ _ (by rfl) w0.heap.size 98 i0 _ 34 64 Try.underlying55 HI0.out HZ0.out HZ1.out HZ2.out HZS.out (by omega) v l.length _ (by rfl) ((GS.out.own.alloc _).drew) ⟨w2.heap.size, 0, none⟩ 1 1 (icells x q qc) (by rfl) (by rw [icells_length GS.out.goodx.ok]) (World.news_of_block (cs := (icells x q qc).toArray) (t := 98) (fr := (0, 0)) (heap_alloc_new w2 _)) (icells_one x q qc) (by omega) (by unfold maxLen; omega) (by omega) (by have := GS.out.size; simp; omega) (w2.heap.size + 1) (by simp) ?_; intro g5 cap5 w5 hown5 hgrow5 hat5 hlt5; obtain ⟨ra5, it5, k5, i5⟩ := GS.out.done HI.out.base (Obj.cells (icells x q qc).toArray 98) ⟨hgrow5.os, hgrow5.tape, hgrow5.output, hgrow5.size, hgrow5.block⟩ hown5 hk1 hll; have s0 : w5.cell? ⟨ga, 2, none⟩ = some v := k5.cell 2; have s1 : w5.frozen? ⟨ga, 2, none⟩ = false := k5.free 2; have s2 : w5.cell? ⟨gx, 0, none⟩ = some (.int .i64 x.N) := (i5.cell 0).trans (icells_0 _ _ _); have RA5 := Lib.hid ra5; have IT5 := Lib.hid it5; clear hown5 hgrow5 hat5 ra5 it5 k5 i5))
    all_goals
      go_wp2_with fail
      go_ret2
      exact ⟨by rw [HG.out]; show Ending.returned (.tuple #[.int .i64 x.N, .int .i64 0]) = _; rw [HXN.out], by rw [HG.out]; exact RA5.out, IT5.out⟩
end
end Go.Proofs.Yteepaoklibflpaa
