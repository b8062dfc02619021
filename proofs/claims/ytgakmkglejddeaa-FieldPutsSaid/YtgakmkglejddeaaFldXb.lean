/-
  Bytes are read as an item.
-/
import Derived.Test.YtgakmkglejddeaaFldX
namespace Go.Proofs.Ytgakmkglejddeaa
set_option linter.unusedSimpArgs false
set_option linter.unusedVariables false
open Go.RowKit Sha
open Fld (Itm)
attribute [local go_sem ↓] execOp_loadItem execOp_buildItems
set_option maxRecDepth 100000 in
set_option maxHeartbeats 2000000 in
theorem get_b (w0 : World) (ga : Nat) (bs : List Int) (p : Option Addr) (n c : Nat) (hin : RIn w0 ga bs p n c) (hn : n ≤ 1000000) (at_ : Nat) (l : List Itm) (w : World) (h : RAt w0 ga bs p n c (at_, l) w) :
    Calls Try.prog 33 #[.pointer (some ⟨ga, 0, none⟩), .int .i32 98] w (GDone w0 ga bs p n c 98 (at_, l) w) := by
  obtain ⟨v, ys, hs⟩ := h
  have HI := Lib.hid hin
  have HS := Lib.hid hs
  have hat : at_ ≤ n := hs.at_
  clear hin hs
  go_enter Try.func33, Try.ntmps33
  go_wp2_with ((refine wpList_alloc_arr rfl 40 rfl _ item_info ?_; have hkA := HS.out.blk.old (Obj.cells (icells ⟨0, [], Fld.zero32⟩ none 0).toArray 40); have hiA := Blk.new w (icells ⟨0, [], Fld.zero32⟩ none 0).toArray 40; have hoA := only_alloc (only_refl w ga) (Obj.cells (icells ⟨0, [], Fld.zero32⟩ none 0).toArray 40); rw [List.toList_toArray] at hiA; have hBA := below_only HS.out.below hoA HI.out.base HS.out.below.size; have hgx : w.heap.size ≤ w.heap.size := Nat.le_refl _; have hlt : ga < w.heap.size := HS.out.blk.lt; have hgne : w.heap.size ≠ ga := (by omega); generalize w.alloc (Obj.cells (icells ⟨0, [], Fld.zero32⟩ none 0).toArray 40) = wA at *; generalize hgxe : w.heap.size = gx at *; have HGX := Lib.hid hgxe.symm; clear hgxe; have HKA := Lib.hid hkA; have HIA := Lib.hid hiA; have HOA := Lib.hid hoA; have HBA := Lib.hid hBA; clear hkA hiA hoA hBA hgx))
  refine (bytes_any w0 ga bs p n c HI.out v at_ wA HBA.out hat HKA.out).mono ?_
  rintro e w1 ⟨qq, mm, cc, er, at2, rfl, hk1, ho1, hor⟩
  have hi1 := HIA.out.grow ho1 (fun e => hgne (Option.some.inj e).symm)
  have d0 : w1.cell? ⟨gx, 1, none⟩ = some (.slice none 0 0) := (hi1.cell 1).trans (icells_1 _ _ _)
  have d1 : w1.frozen? ⟨gx, 1, none⟩ = false := hi1.free 1
  have d2 : w1.cell? ⟨gx, 0, none⟩ = some (.int .i64 0) := (hi1.cell 0).trans (icells_0 _ _ _)
  have HK1 := Lib.hid hk1
  have HO1 := Lib.hid (only_trans HOA.out ho1)
  have HAS := Lib.hid (show gx < wA.heap.size from HIA.out.lt)
  have HI1 := Lib.hid hi1
  clear hk1 ho1 hi1
  have ho2 := only_setNew HO1.out (Nat.le_of_eq HGX.out.symm) 1 (.slice qq mm cc)
  have hk3 := HK1.out.setOther (⟨gx, 1, none⟩ : Addr) (.slice qq mm cc) (Ne.symm hgne)
  have HO2 := Lib.hid ho2
  have HK3 := Lib.hid hk3
  clear ho2 hk3
  rcases hor with ⟨he, h1, h2, h3⟩ | ⟨rfl, m, k, g, h1, h2, h3, h4, h5, rfl, rfl, rfl, h6, h7⟩
  · have he' : (er == 0) = false := by simpa using he
    have HG := Lib.hid (h3 l)
    have HF := Lib.hid (show l.length ≤ at2 by have h4 := HS.out.few; simp only at h4; omega)
    clear he h3
    go_wp2_with fail
    go_ret2
    exact ⟨by rw [HG.out]; rfl, by rw [HG.out]; exact HS.out.err HI.out.base HO2.out HK3.out h2 HF.out, iters_of (others_only HO2.out 5) ⟨_, _, HS.out.blk⟩⟩
  · have HG := Lib.hid (h1 l)
    have HLEN := Lib.hid h2
    have HB1 := Lib.hid h6
    have HGG := Lib.hid h7
    have hk1 : at2 ≤ n := h5
    have HLL := Lib.hid (show l.length + 1 ≤ at2 by have h8 := HS.out.few; simp only at h8; omega)
    have HMX := Lib.hid h3
    clear h1 h2 h3 h4 h5 h6 h7
    go_wp2_with fail
    obtain ⟨x, hxx⟩ : ∃ x : Itm, x = ⟨0, (bs.drop (at_ + k)).take cc, Fld.zero32⟩ := ⟨_, rfl⟩
    have HXN := Lib.hid (show x.N = 0 by rw [hxx])
    have hi2 : Blk (w1.setCell ⟨gx, 1, none⟩ (.slice (some ⟨g, 0, none⟩) cc cc)) gx (icells x (some ⟨g, 0, none⟩) cc) 40 := by
      have h8 := HI1.out.set 1 (.slice (some ⟨g, 0, none⟩) cc cc)
      have h9 := icells_set1 ⟨0, [], Fld.zero32⟩ none 0 ((bs.drop (at_ + k)).take cc) (some ⟨g, 0, none⟩) cc
      rw [← HLEN.out] at h9
      rw [h9] at h8
      rw [hxx]; exact h8
    have hgx : GoodR (w1.setCell ⟨gx, 1, none⟩ (.slice (some ⟨g, 0, none⟩) cc cc)) x (some ⟨g, 0, none⟩) cc := by
      rw [hxx]
      refine ⟨⟨by simp, by simp, fun y hy => HI.out.bd y (List.mem_of_mem_drop (List.mem_of_mem_take hy)), item0_ok'.D, Fld.zero32_length⟩, HLEN.out, HMX.out, Or.inr ⟨g, rfl, HB1.out.setOther _ _ ?_⟩⟩
      have h8 := HAS.out
      have h9 := HGG.out
      show g ≠ gx
      omega
    have GS := Lib.hid (HS.out.step HI.out.base HO2.out HK3.out hi2 hgx (Nat.le_of_eq HGX.out.symm))
    rw [← hxx] at HG
    clear hxx hi2 hgx HK1 HO1 HI1 HO2 HK3 d0 d1 d2 HLEN HB1 HGG HMX
    generalize w1.setCell ⟨gx, 1, none⟩ (.slice (some ⟨g, 0, none⟩) cc cc) = w2 at *
    obtain ⟨q, hq⟩ : ∃ q : Option Addr, q = some ⟨g, 0, none⟩ := ⟨_, rfl⟩
    obtain ⟨qc, hqc⟩ : ∃ qc : Nat, qc = cc := ⟨_, rfl⟩
    rw [← hq, ← hqc] at GS
    clear hq hqc
    have c2 : w2.cell? ⟨ga, 2, none⟩ = some v := GS.out.blk.cell 2
    have g0 : w2.cell? ⟨gx, 0, none⟩ = some (.int .i64 x.N) := (GS.out.item.cell 0).trans (icells_0 _ _ _)
    have c2' : (w2.alloc (Obj.cells (icells x q qc).toArray 40)).cell? ⟨ga, 2, none⟩ = some v := (GS.out.blk.old _).cell 2
    have ld := load_item GS.out.goodx.ok GS.out.item.drew
    have bd := fun w => build_item w (q := q) (c := qc) GS.out.goodx.ok
    have hll := HLL.out
    obtain ⟨i0, hi0, hz0, hz1, hz2⟩ := info_parts item_all3
    have HI0 := Lib.hid hi0
    have HZ0 := Lib.hid hz0
    have HZ1 := Lib.hid hz1
    have HZ2 := Lib.hid hz2
    clear hi0 hz0 hz1 hz2
    have HZS := Lib.hid (show (Value.agg (icells ⟨0, [], Fld.zero32⟩ none 0).toArray).cells.size = 34 by show (icells ⟨0, [], Fld.zero32⟩ none 0).toArray.size = 34; rw [List.size_toArray, icells_length item0_ok'])
    go_region_law ((refine step_append_lies _ (by rfl) _ _ _ (by rfl) w0.heap.size 40 i0 _ 34 64 Try.underlying22 HI0.out HZ0.out HZ1.out HZ2.out HZS.out (by omega) v l.length _ (by rfl) ((GS.out.own.alloc _).drew) ⟨w2.heap.size, 0, none⟩ 1 1 (icells x q qc) (by rfl) (by rw [icells_length GS.out.goodx.ok]) (World.news_of_block (cs := (icells x q qc).toArray) (t := 40) (fr := (0, 0)) (heap_alloc_new w2 _)) (icells_one x q qc) (by omega) (by unfold maxLen; omega) (by omega) (by have := GS.out.size; simp; omega) (w2.heap.size + 1) (by simp) ?_; intro g5 cap5 w5 hown5 hgrow5 hat5 hlt5; obtain ⟨ra5, it5, k5, i5⟩ := GS.out.done HI.out.base (Obj.cells (icells x q qc).toArray 40) ⟨hgrow5.os, hgrow5.tape, hgrow5.output, hgrow5.size, hgrow5.block⟩ hown5 hk1 hll; have s0 : w5.cell? ⟨ga, 2, none⟩ = some v := k5.cell 2; have s1 : w5.frozen? ⟨ga, 2, none⟩ = false := k5.free 2; have s2 : w5.cell? ⟨gx, 0, none⟩ = some (.int .i64 x.N) := (i5.cell 0).trans (icells_0 _ _ _); have RA5 := Lib.hid ra5; have IT5 := Lib.hid it5; clear hown5 hgrow5 hat5 ra5 it5 k5 i5))
    all_goals
      go_wp2_with fail
      go_ret2
      exact ⟨by rw [HG.out]; show Ending.returned (.tuple #[.int .i64 x.N, .int .i64 0]) = _; rw [HXN.out], by rw [HG.out]; exact RA5.out, IT5.out⟩
end Go.Proofs.Ytgakmkglejddeaa
