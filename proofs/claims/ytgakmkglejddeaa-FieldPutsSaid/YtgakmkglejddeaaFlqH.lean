/-
  The reference of fields: an item of a letter (field), where all is well.
-/
import Derived.Test.YtgakmkglejddeaaFlqG
namespace Go.Proofs.Ytgakmkglejddeaa
set_option linter.unusedSimpArgs false
set_option linter.unusedVariables false
open Go.RowKit Sha
open Fld (Itm)
attribute [local go_sem ↓] execOp_loadId execOp_buildId execOp_neqId
theorem RW.fin {w0 w : World} {ga k n : Nat} {L v va : Value} {out : List Int} {xs : List Value} {er : Int} (hk : Blk w ga [L, .int .i64 k, v, .int .i64 er] 57) (hown : Own8 w w0.heap.size 5 va n xs) (hn : n = out.length) (hx : xs = out.map v8) (hb : w0.heap.size ≤ ga) (hB : Below w0.heap.size w0 w) :
    RW w0 ga L k va out er (w.setCell ⟨ga, 2, none⟩ va) := by
  subst hn hx
  exact ⟨by have := hk.set 2 va; simpa using this, own8_set hown hk r_ne 2 va, hb, hB.setCell hb _⟩
set_option maxRecDepth 100000 in
set_option maxHeartbeats 4000000 in
theorem rfield_d (w0 : World) (ga : Nat) (L : Value) (v : Value) (out : List Int) (k : Nat) (x : Itm) (hx : x.ok) (w : World)
    (hnext : Calls Try.prog 38 #[.pointer (some ⟨ga, 0, none⟩)] w (NextDone w0 ga L v out x k 0))
    (hN : x.N = 0) (hB : x.B = []) (ho : out.length ≤ 999990000) :
    Calls Try.prog 27 #[.pointer (some ⟨ga, 0, none⟩), .int .u8 100] w (RFDone w0 ga L k 0 (out ++ x.D)) := by
  have HNX := Lib.hid hnext
  obtain ⟨m, hmm⟩ : ∃ m, m = x.B.length := ⟨_, rfl⟩
  have HM := Lib.hid hmm
  have hxn : (0 : Int) = x.N := hN.symm
  have HN := Lib.hid hxn
  have OKX := Lib.hid hx
  obtain ⟨mo, hmoo⟩ : ∃ m, m = out.length := ⟨_, rfl⟩
  rw [← hmoo] at ho
  have HO := Lib.hid hmoo
  have hm0 : m = 0 := by rw [hmm, hB]; rfl
  subst hm0
  have HD := Lib.hid hx.len
  clear hnext hmm hxn hx hN hB hmoo
  go_enter Try.func27, Try.ntmps27
  go_wp2_with (first
    | (go_at_call 38; refine HNX.out.mono ?_; clear HNX; rintro e w1 ⟨q, c, rfl, hg, hr⟩; have hsz : (Try.prog.info? 40).map (fun i => i.size) = some (icells x q c).toArray.size := (by rw [item_size, List.size_toArray, icells_length OKX.out]); have hsz3 : (icells ⟨0, [], Fld.zero32⟩ none 0).toArray.size = (icells x q c).toArray.size := (by rw [List.size_toArray, List.size_toArray, icells_length item0_ok', icells_length OKX.out]); have HG := Lib.hid hg; have HR := Lib.hid hr; clear hg hr)
    | (refine wpList_alloc_arr rfl 40 rfl _ item_info ?_; have tk1 : True := trivial)
    | (have _t := tk1; refine wpList_store_row rfl 40 (.tmp 4) (.tmp 11) rfl _ _ rfl rfl 40 _ (heap_alloc_new _ _) hsz hsz3 (icells_all _ _ _) ?_; clear tk1 _t; rw [World.setRow_alloc_new]; obtain ⟨hr2, hg2, hb2⟩ := item_box HR.out HG.out; generalize w1.alloc (Obj.cells (icells x q c).toArray 40) = w2 at *; generalize w1.heap.size = gx at *; have c0 : w2.cell? ⟨gx, 0, none⟩ = some (.int .i64 0) := (by rw [HN.out]; exact (hb2.cell 0).trans (icells_0 _ _ _)); have c1 : w2.cell? ⟨gx, 1, none⟩ = some (.slice q 0 c) := (by rw [HM.out]; exact (hb2.cell 1).trans (icells_1 _ _ _)); have c3 : w2.cell? ⟨ga, 3, none⟩ = some (.int .i64 0) := hr2.blk.cell 3; have R2 := Lib.hid hr2; have G2 := Lib.hid hg2; have I2 := Lib.hid hb2; clear hr2 hg2 hb2))
  have GNE := Lib.hid (R2.out.ne I2.out)
  go_loopw [5] (fun i wr => ∃ (j : Nat) (vj : Value), i = .int .i64 j ∧ j ≤ 32 ∧ Hid (RW w0 ga L k vj (out ++ x.D.take j) 0 wr) ∧ Hid (Blk wr gx (icells x q c) 40)) (fun i _ => 32 - (intOf i).toNat)
  case atStart => exact ⟨0, v, rfl, by omega, Lib.hid (by simpa using R2.out), I2⟩
  case round =>
    clear HG HR R2 G2 I2 c0 c1 c3
    obtain ⟨j, vj, rfl, hj, RJ, IJ⟩ := hrel
    by_cases hlt : j < 32
    · have hjd : j < x.D.length := by rw [HD.out]; exact hlt
      obtain ⟨d, hd⟩ : ∃ d, d = x.D[j] := ⟨_, rfl⟩
      have HTK := Lib.hid (show x.D.take (j + 1) = x.D.take j ++ [d] by rw [hd, List.take_succ_eq_append_getElem hjd])
      have c4 : wr.cell? ⟨gx, 2 + j, none⟩ = some (.int .u8 d) := (IJ.out.cell (2 + j)).trans (by rw [icells_2, List.getElem?_map, List.getElem?_eq_getElem hjd, hd]; rfl)
      have c2 : wr.cell? ⟨ga, 2, none⟩ = some vj := RJ.out.blk.cell 2
      have c2' : (wr.alloc (Obj.cells #[.int .u8 d] 5)).cell? ⟨ga, 2, none⟩ = some vj := (RJ.out.blk.old _).cell 2
      have HLJ := Lib.hid (show (out ++ x.D.take j).length = mo + j by rw [List.length_append, List.length_take, HD.out, ← HO.out]; omega)
      have hji : ((j : Int)) < 32 := by omega
      have hj0 : (0 : Int) ≤ (j : Int) := by omega
      clear hd hjd
      go_wp2_with fail
      go_region_law ((refine step_app8 (by rfl) (.tmp 64) (.tmp 69) 26 (by rfl) w0.heap.size 5 Try.underlying26 kbyte_info vj _ _ (by rfl) ((RJ.out.own.alloc _).drew) (some ⟨wr.heap.size, 0, none⟩) 1 1 [v8 d] (by rfl) ((at_one wr _ _).drew) rfl (fun h => by cases h) (by omega) (by intro u hu; rw [List.mem_singleton.1 hu]; exact ⟨_, rfl⟩) (by rw [HLJ.out]; omega) (by unfold maxLen; rw [HLJ.out]; omega) (by have := RJ.out.below.size; simp; omega) ?_; intro va w8 hown8 hg8 hb8 hs8; obtain ⟨g8, c8, rfl, _, _, _, _⟩ := own_form hown8.row (by omega); have RA := RJ.out.on (((Below.refl wr.heap.size wr).alloc (Nat.le_refl _) (Obj.cells #[.int .u8 d] 5)).drew); have IA := (IJ.out.old (Obj.cells #[.int .u8 d] 5)).drew; have R8 := Lib.hid (RA.app (news := [d]) rfl hown8 hg8 hb8); have I8 := Lib.hid (IA.grow hg8 (own_ne RA.own.row IA (Ne.symm ui_ne))); have hk8 := RA.blk.grow hg8 (own_ne RA.own.row RA.blk r_ne); have s1 : w8.cell? ⟨ga, 2, none⟩ = some vj := hk8.cell 2; have s2 : w8.frozen? ⟨ga, 2, none⟩ = false := hk8.free 2; clear hown8 hg8 hb8 hk8 RA IA; generalize (out ++ x.D.take j).length + 1 = nl at *))
      all_goals
        go_wp2_with fail
        go_roundw
        case rel => exact ⟨j + 1, _, by go_num, by omega, Lib.hid (by have := R8.out; rw [HTK.out, ← List.append_assoc]; exact this), Lib.hid (I8.out.setOther _ _ GNE.out)⟩
        case measure => simp [intOf]; omega
    · obtain rfl : j = 32 := by omega
      go_wp2_with fail
      go_end0
      exact ⟨rfl, _, by have := RJ.out; rwa [List.take_of_length_le (by rw [HD.out]; exact Nat.le_refl _)] at this⟩
set_option maxRecDepth 100000 in
set_option maxHeartbeats 4000000 in
theorem rfield_b (w0 : World) (ga : Nat) (L : Value) (v : Value) (out : List Int) (k : Nat) (x : Itm) (hx : x.ok) (w : World)
    (hnext : Calls Try.prog 38 #[.pointer (some ⟨ga, 0, none⟩)] w (NextDone w0 ga L v out x k 0))
    (hN : x.N = 0) (hD : x.D = Fld.zero32) (hl : x.B.length ≤ 4000) (ho : out.length ≤ 999990000) :
    Calls Try.prog 27 #[.pointer (some ⟨ga, 0, none⟩), .int .u8 98] w (RFDone w0 ga L k 0 (out ++ Fld.num x.B.length ++ x.B)) := by
  have HNX := Lib.hid hnext
  obtain ⟨m, hmm⟩ : ∃ m, m = x.B.length := ⟨_, rfl⟩
  have HM := Lib.hid hmm
  have hxn : (0 : Int) = x.N := hN.symm
  have HN := Lib.hid hxn
  have OKX := Lib.hid hx
  obtain ⟨mo, hmoo⟩ : ∃ m, m = out.length := ⟨_, rfl⟩
  rw [← hmoo] at ho
  have HO := Lib.hid hmoo
  have hdd : decide (x.D = Fld.zero32) = true := by rw [hD]; exact decide_eq_true rfl
  rw [← hmm] at hl ⊢
  have hlen := Fld.num_len m (by rw [show (128 : Nat) ^ 9 = 9223372036854775808 by decide]; omega)
  obtain ⟨ml, hml⟩ : ∃ m', m' = (Fld.num m).length := ⟨_, rfl⟩
  have hpos : 0 < ml := by rw [hml]; exact Fld.num_pos m
  rw [← hml] at hlen
  have HL := Lib.hid hml
  have HO2 := Lib.hid (show (out ++ Fld.num m).length = mo + ml by rw [List.length_append, ← HL.out, ← HO.out])
  clear hnext hmm hxn hx hN hD hmoo hml
  go_enter Try.func27, Try.ntmps27
  go_wp2_with (first
    | (go_at_call 38; refine HNX.out.mono ?_; clear HNX; rintro e w1 ⟨q, c, rfl, hg, hr⟩; have hsz : (Try.prog.info? 40).map (fun i => i.size) = some (icells x q c).toArray.size := (by rw [item_size, List.size_toArray, icells_length OKX.out]); have hsz3 : (icells ⟨0, [], Fld.zero32⟩ none 0).toArray.size = (icells x q c).toArray.size := (by rw [List.size_toArray, List.size_toArray, icells_length item0_ok', icells_length OKX.out]); have HG := Lib.hid hg; have HR := Lib.hid hr; clear hg hr)
    | (refine wpList_alloc_arr rfl 40 rfl _ item_info ?_; have tk1 : True := trivial)
    | (have _t := tk1; refine wpList_store_row rfl 40 (.tmp 4) (.tmp 11) rfl _ _ rfl rfl 40 _ (heap_alloc_new _ _) hsz hsz3 (icells_all _ _ _) ?_; clear tk1 _t; rw [World.setRow_alloc_new]; obtain ⟨hr2, hg2, hb2⟩ := item_box HR.out HG.out; generalize w1.alloc (Obj.cells (icells x q c).toArray 40) = w2 at *; generalize w1.heap.size = gx at *; have c0 : w2.cell? ⟨gx, 0, none⟩ = some (.int .i64 0) := (by rw [HN.out]; exact (hb2.cell 0).trans (icells_0 _ _ _)); have c1 : w2.cell? ⟨gx, 1, none⟩ = some (.slice q m c) := (by rw [HM.out]; exact (hb2.cell 1).trans (icells_1 _ _ _)); have c2 : w2.cell? ⟨ga, 2, none⟩ = some v := hr2.blk.cell 2; have hgne : gx ≠ ga := hr2.ne hb2; have c3 : w2.cell? ⟨ga, 3, none⟩ = some (.int .i64 0) := hr2.blk.cell 3; have ld := load_id OKX.out hb2.range; have bd := run_mkOp (P := Try.prog) w2 (parts := #[]) id_zero; have nq := (fun oa ob => run_neqId oa ob x.D Fld.zero32 OKX.out.len Fld.zero32_length w2); rw [hdd] at nq; have R2 := Lib.hid hr2; have G2 := Lib.hid hg2; have I2 := Lib.hid hb2; clear hr2 hg2 hb2))
  clear ld bd nq HG HR c0
  go_region_law (first
    | (refine step_app8 (by rfl) (.tmp 77) (.tmp 81) 26 (by rfl) w0.heap.size 5 Try.underlying26 kbyte_info v _ _ (by rfl) R6.out.own q6 ml c6 ((Fld.num m).map v8) (by rfl) A6.out (by rw [List.length_map]; exact HL.out.symm) N6.out hle6 (ints_map _) (by rw [← HO.out]; omega) (by unfold maxLen; rw [← HO.out]; omega) R6.out.below.size ?_; intro va w8 hown8 hg8 hb8 hs8; obtain ⟨g8, c8, rfl, _, _, _, _⟩ := own_form hown8.row (by omega); have K8 := Lib.hid (R6.out.blk.grow hg8 (own_ne R6.out.own.row R6.out.blk r_ne)); have B8 := Lib.hid (R6.out.below.trans hb8); have I8 := Lib.hid (I6.out.grow hg8 (own_ne R6.out.own.row I6.out (Ne.symm ui_ne))); have f1 : w8.cell? ⟨gx, 1, none⟩ = some (.slice q m c) := (by rw [HM.out]; exact (I8.out.cell 1).trans (icells_1 _ _ _)); have H8 := Lib.hid hown8; have hnl : out.length + ml ≤ 999990009 := (by rw [← HO.out]; omega); clear hown8 hg8 hb8; generalize hnn : out.length + ml = nl at *; have NL := Lib.hid hnn; clear hnn; have tk8 : True := trivial)
    | (have _t := tk8; refine step_app8 (by rfl) (.tmp 82) (.tmp 84) 26 (by rfl) w0.heap.size 5 Try.underlying26 kbyte_info (.slice (some ⟨g8, 0, none⟩) nl c8) nl _ (by rfl) H8.out q m c (x.B.map v8) (by rfl) (G2.out.at_.below B8.out) (by rw [List.length_map]; exact HM.out.symm) G2.out.nil (by rw [HM.out]; exact G2.out.le) (ints_map _) (by omega) (by unfold maxLen; omega) B8.out.size ?_; clear tk8 _t; intro va w9 hown9 hg9 hb9 hs9; obtain ⟨g9, c9, rfl, _, _, _, _⟩ := own_form hown9.row (by have := NL.out; omega); have hk9 := K8.out.grow hg9 (own_ne H8.out.row K8.out r_ne); have s1 : w9.cell? ⟨ga, 2, none⟩ = some v := hk9.cell 2; have s2 : w9.frozen? ⟨ga, 2, none⟩ = false := hk9.free 2; have R9 := Lib.hid (RW.fin (out := out ++ Fld.num m ++ x.B) hk9 hown9 (by rw [List.length_append, HO2.out, ← NL.out, HO.out, HM.out]) (by simp) R2.out.base (B8.out.trans hb9)); clear hown9 hg9 hb9 hk9; generalize nl + m = nk at *)
    | (go_simp; go_at_call 39; refine (rnumber_any m w2.drew (by omega)).mono ?_; rintro e w6 ⟨v6, rfl, ho6, hb6⟩; rw [← HL.out] at ho6; obtain ⟨q6, c6, rfl, hl6, hA6, hle6, hmx6, hnil6⟩ := own_row ho6; have R6 := Lib.hid ((R2.out.on ((Below.refl w2.heap.size w2).drew)).on hb6); have I6 := Lib.hid (I2.out.drew.below hb6 I2.out.lt); have e1 : w6.cell? ⟨gx, 1, none⟩ = some (.slice q m c) := (by rw [HM.out]; exact (I6.out.cell 1).trans (icells_1 _ _ _)); have e2 : w6.cell? ⟨ga, 2, none⟩ = some v := R6.out.blk.cell 2; have A6 := Lib.hid hA6; have N6 := Lib.hid hnil6; clear ho6 hb6 hl6 hA6 hmx6 hnil6))
  all_goals
    go_wp2_with fail
    go_end0
    exact ⟨rfl, _, R9.out⟩
end Go.Proofs.Ytgakmkglejddeaa
