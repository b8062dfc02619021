/-
  The reference of fields: count, where all is well; an item of a letter (field), where it is none.
  The reference of fields: an item of a letter (field), where all is well.
-/
import Derived.Test.YtbogjfmefkhglaaGreatP11
namespace Go.Proofs.YtbogjfmefkhglaaGreat
section
set_option linter.unusedSimpArgs false
set_option linter.unusedVariables false
open Go.RowKit Sha
open Fld (Itm)
attribute [local go_sem ↓] execOp_loadId execOp_buildId execOp_neqId
theorem RW.app {w0 w w8 : World} {ga k m : Nat} {L v va : Value} {out news : List Int} {er : Int} (h : RW w0 ga L k v out er w) (hm : m = news.length) (hown : Own8 w8 w0.heap.size 5 va (out.length + m) (out.map v8 ++ news.map v8)) (hg : w.grownBy w8 v.ownBlock) (hb : Below w0.heap.size w w8) :
    RW w0 ga L k va (out ++ news) er (w8.setCell ⟨ga, 2, none⟩ va) := by
  subst hm
  have hk := h.blk.grow hg (own_ne h.own.row h.blk r_ne)
  exact ⟨by have := hk.set 2 va; simpa using this, by have := own8_set hown hk r_ne 2 va; simpa using this, h.base, (h.below.trans hb).setCell h.base _⟩
set_option maxRecDepth 100000 in
set_option maxHeartbeats 2000000 in
theorem rcount_ok (w0 : World) (ga : Nat) (L : Value) (v : Value) (out : List Int) (k : Nat) (x : Itm) (hx : x.ok) (most : Int) (w : World)
    (hnext : Calls Tryz.prog 122 #[.pointer (some ⟨ga, 0, none⟩)] w (NextDone w0 ga L v out x k 0))
    (hB : x.B = []) (hD : x.D = Fld.zero32) (h0 : 0 ≤ x.N) (h4 : x.N ≤ 4611686018427387903) (hr : x.N ≤ most) (ho : out.length ≤ 999999000) :
    Calls Tryz.prog 89 #[.pointer (some ⟨ga, 0, none⟩), .int .i64 most] w (CDone w0 ga L k 0 (out ++ Fld.num x.N.toNat) x.N) := by
  have HNX := Lib.hid hnext
  obtain ⟨nn, hnn⟩ : ∃ n, n = x.N.toNat := ⟨_, rfl⟩
  have hxn : (nn : Int) = x.N := by omega
  have hnm : nn ≤ 4611686018427387903 := by omega
  have hmo : ¬ most < (nn : Int) := by omega
  have hdd : decide (x.D = Fld.zero32) = true := by rw [hD]; exact decide_eq_true rfl
  have hlen := Fld.num_len nn (by rw [show (128 : Nat) ^ 9 = 9223372036854775808 by decide]; omega)
  obtain ⟨ml, hml⟩ : ∃ m, m = (Fld.num nn).length := ⟨_, rfl⟩
  have hpos : 0 < ml := by rw [hml]; exact Fld.num_pos nn
  obtain ⟨mo, hmoo⟩ : ∃ m, m = out.length := ⟨_, rfl⟩
  rw [← hml] at hlen
  rw [← hmoo] at ho
  rw [← hnn, ← hxn]
  have HN := Lib.hid hxn
  have HM := Lib.hid (show x.B.length = 0 by rw [hB]; rfl)
  have HL := Lib.hid hml
  have HO := Lib.hid hmoo
  have OKX := Lib.hid hx
  clear hnext hxn hx hB hD h0 h4 hr hnn hml hmoo
  go_enter Tryz.func89, Tryz.ntmps89
  go_wp2_with (first
    | (go_at_call 122; refine HNX.out.mono ?_; clear HNX; rintro e w1 ⟨q, c, rfl, hg, hr⟩; have hsz : (Tryz.prog.info? 118).map (fun i => i.size) = some (icells x q c).toArray.size := (by rw [item_size, List.size_toArray, icells_length OKX.out]); have hsz3 : (icells ⟨0, [], Fld.zero32⟩ none 0).toArray.size = (icells x q c).toArray.size := (by rw [List.size_toArray, List.size_toArray, icells_length item0_ok', icells_length OKX.out]); have HG := Lib.hid hg; have HR := Lib.hid hr; clear hg hr)
    | (refine wpList_alloc_arr rfl 118 rfl _ item_info ?_; have tk1 : True := trivial)
    | (have _t := tk1; refine wpList_store_row rfl 118 (.tmp 5) (.tmp 7) rfl _ _ rfl rfl 118 _ (heap_alloc_new _ _) hsz hsz3 (icells_all _ _ _) ?_; clear tk1 _t; rw [World.setRow_alloc_new]; obtain ⟨hr2, hg2, hb2⟩ := item_box HR.out HG.out; generalize w1.alloc (Obj.cells (icells x q c).toArray 118) = w2 at *; generalize w1.heap.size = gx at *; have c0 : w2.cell? ⟨gx, 0, none⟩ = some (.int .i64 nn) := (by rw [HN.out]; exact (hb2.cell 0).trans (icells_0 _ _ _)); have c1 : w2.cell? ⟨gx, 1, none⟩ = some (.slice q 0 c) := (by have h1 := (hb2.cell 1).trans (icells_1 _ _ _); rwa [HM.out] at h1); have c2 : w2.cell? ⟨ga, 2, none⟩ = some v := hr2.blk.cell 2; have hgne : gx ≠ ga := hr2.ne hb2; have c3 : w2.cell? ⟨ga, 3, none⟩ = some (.int .i64 0) := hr2.blk.cell 3; have ld := load_id OKX.out hb2.range; have bd := run_mkOp (P := Tryz.prog) w2 (parts := #[]) id_zero; have nq := (fun oa ob => run_neqId oa ob x.D Fld.zero32 OKX.out.len Fld.zero32_length w2); rw [hdd] at nq; have R2 := Lib.hid hr2; have G2 := Lib.hid hg2; have I2 := Lib.hid hb2; clear hr2 hg2 hb2))
  clear ld bd nq HG HR
  go_region_law (first
    | (refine step_app8 (by rfl) (.tmp 45) (.tmp 48) 28 (by rfl) w0.heap.size 5 Tryz.underlying28 kbyte_info v _ _ (by rfl) R6.out.own q6 ml c6 ((Fld.num nn).map v8) (by rfl) A6.out (by rw [List.length_map]; exact HL.out.symm) N6.out hle6 (ints_map _) (by rw [← HO.out]; omega) (by unfold maxLen; rw [← HO.out]; omega) (Nat.le_trans (Nat.le_refl _) R6.out.below.size) ?_; intro va w8 hown8 hg8 hb8 hs8; obtain ⟨g8, c8, rfl, _, _, _, _⟩ := own_form hown8.row (by omega); have R8 := Lib.hid (R6.out.app HL.out hown8 hg8 hb8); have hit := I6.out.grow hg8 (own_ne R6.out.own.row I6.out (Ne.symm ui_ne)); have s0 : w8.cell? ⟨gx, 0, none⟩ = some (.int .i64 nn) := (by rw [HN.out]; exact (hit.cell 0).trans (icells_0 _ _ _)); have hk8 := R6.out.blk.grow hg8 (own_ne R6.out.own.row R6.out.blk r_ne); have s1 : w8.cell? ⟨ga, 2, none⟩ = some v := hk8.cell 2; have s2 : w8.frozen? ⟨ga, 2, none⟩ = false := hk8.free 2; clear hown8 hg8 hb8 hit hk8; generalize out.length + ml = nl at *)
    | (go_simp; go_at_call 123; refine (rnumber_any nn w2.drew (by omega)).mono ?_; rintro e w6 ⟨v6, rfl, ho6, hb6⟩; rw [← HL.out] at ho6; obtain ⟨q6, c6, rfl, hl6, hA6, hle6, hmx6, hnil6⟩ := own_row ho6; have R6 := Lib.hid ((R2.out.on ((Below.refl w2.heap.size w2).drew)).on hb6); have I6 := Lib.hid (I2.out.drew.below hb6 I2.out.lt); have e0 : w6.cell? ⟨gx, 0, none⟩ = some (.int .i64 nn) := (by rw [HN.out]; exact (I6.out.cell 0).trans (icells_0 _ _ _)); have e2 : w6.cell? ⟨ga, 2, none⟩ = some v := R6.out.blk.cell 2; have A6 := Lib.hid hA6; have N6 := Lib.hid hnil6; clear ho6 hb6 hl6 hA6 hmx6 hnil6))
  all_goals
    go_wp2_with fail
    go_ret
    exact ⟨rfl, _, R8.out⟩
attribute [local go_sem ↓] execOp_loadId execOp_buildId execOp_neqId
def RFDone (w0 : World) (ga : Nat) (L : Value) (k : Nat) (er : Int) (out : List Int) (e : Ending) (w' : World) : Prop := e = .returned (.tuple #[]) ∧ ∃ v, RW w0 ga L k v out er w'
set_option maxRecDepth 100000 in
set_option maxHeartbeats 1000000 in
theorem rfield_err_98 (w0 : World) (ga : Nat) (L : Value) (v : Value) (out : List Int) (k : Nat) (er : Int) (he : er ≠ 0) (w : World)
    (hnext : Calls Tryz.prog 122 #[.pointer (some ⟨ga, 0, none⟩)] w (NextDone w0 ga L v out ⟨0, [], Fld.zero32⟩ k er)) :
    Calls Tryz.prog 88 #[.pointer (some ⟨ga, 0, none⟩), .int .u8 98] w (RFDone w0 ga L k er out) := by
  have HNX := Lib.hid hnext
  have hne : (er == 0) = false := by rw [beq_eq_false_iff_ne]; exact he
  clear hnext he
  go_enter Tryz.func88, Tryz.ntmps88
  go_wp2_with (first
    | (go_at_call 122; refine HNX.out.mono ?_; clear HNX; rintro e w1 ⟨q, c, rfl, hg, hr⟩; have hsz : (Tryz.prog.info? 118).map (fun i => i.size) = some (icells ⟨0, [], Fld.zero32⟩ q c).toArray.size := (by rw [item_size, List.size_toArray, icells_length item0_ok']); have hsz3 : (icells ⟨0, [], Fld.zero32⟩ none 0).toArray.size = (icells ⟨0, [], Fld.zero32⟩ q c).toArray.size := (by rw [List.size_toArray, List.size_toArray, icells_length item0_ok', icells_length item0_ok']); have HG := Lib.hid hg; have HR := Lib.hid hr; clear hg hr)
    | (refine wpList_alloc_arr rfl 118 rfl _ item_info ?_; have tk1 : True := trivial)
    | (have _t := tk1; refine wpList_store_row rfl 118 (.tmp 4) (.tmp 11) rfl _ _ rfl rfl 118 _ (heap_alloc_new _ _) hsz hsz3 (icells_all _ _ _) ?_; clear tk1 _t; rw [World.setRow_alloc_new]; obtain ⟨hr2, hg2, hb2⟩ := item_box HR.out HG.out; generalize w1.alloc (Obj.cells (icells ⟨0, [], Fld.zero32⟩ q c).toArray 118) = w2 at *; generalize w1.heap.size = gx at *; have c0 : w2.cell? ⟨gx, 0, none⟩ = some (.int .i64 0) := (hb2.cell 0).trans (icells_0 _ _ _); have c1 : w2.cell? ⟨gx, 1, none⟩ = some (.slice q 0 c) := (hb2.cell 1).trans (icells_1 _ _ _); have c3 : w2.cell? ⟨ga, 3, none⟩ = some (.int .i64 er) := hr2.blk.cell 3; have ld := load_id item0_ok' hb2.range; have bd := run_mkOp (P := Tryz.prog) w2 (parts := #[]) id_zero; have nq := (fun oa ob => run_neqId oa ob Fld.zero32 Fld.zero32 Fld.zero32_length Fld.zero32_length w2); rw [decide_eq_true rfl] at nq; have R2 := Lib.hid hr2; have G2 := Lib.hid hg2; have I2 := Lib.hid hb2; clear hr2 hg2 hb2))
  go_end0
  exact ⟨rfl, _, R2.out⟩
set_option maxRecDepth 100000 in
set_option maxHeartbeats 1000000 in
theorem rfield_err_100 (w0 : World) (ga : Nat) (L : Value) (v : Value) (out : List Int) (k : Nat) (er : Int) (he : er ≠ 0) (w : World)
    (hnext : Calls Tryz.prog 122 #[.pointer (some ⟨ga, 0, none⟩)] w (NextDone w0 ga L v out ⟨0, [], Fld.zero32⟩ k er)) :
    Calls Tryz.prog 88 #[.pointer (some ⟨ga, 0, none⟩), .int .u8 100] w (RFDone w0 ga L k er out) := by
  have HNX := Lib.hid hnext
  have hne : (er == 0) = false := by rw [beq_eq_false_iff_ne]; exact he
  clear hnext he
  go_enter Tryz.func88, Tryz.ntmps88
  go_wp2_with (first
    | (go_at_call 122; refine HNX.out.mono ?_; clear HNX; rintro e w1 ⟨q, c, rfl, hg, hr⟩; have hsz : (Tryz.prog.info? 118).map (fun i => i.size) = some (icells ⟨0, [], Fld.zero32⟩ q c).toArray.size := (by rw [item_size, List.size_toArray, icells_length item0_ok']); have hsz3 : (icells ⟨0, [], Fld.zero32⟩ none 0).toArray.size = (icells ⟨0, [], Fld.zero32⟩ q c).toArray.size := (by rw [List.size_toArray, List.size_toArray, icells_length item0_ok', icells_length item0_ok']); have HG := Lib.hid hg; have HR := Lib.hid hr; clear hg hr)
    | (refine wpList_alloc_arr rfl 118 rfl _ item_info ?_; have tk1 : True := trivial)
    | (have _t := tk1; refine wpList_store_row rfl 118 (.tmp 4) (.tmp 11) rfl _ _ rfl rfl 118 _ (heap_alloc_new _ _) hsz hsz3 (icells_all _ _ _) ?_; clear tk1 _t; rw [World.setRow_alloc_new]; obtain ⟨hr2, hg2, hb2⟩ := item_box HR.out HG.out; generalize w1.alloc (Obj.cells (icells ⟨0, [], Fld.zero32⟩ q c).toArray 118) = w2 at *; generalize w1.heap.size = gx at *; have c0 : w2.cell? ⟨gx, 0, none⟩ = some (.int .i64 0) := (hb2.cell 0).trans (icells_0 _ _ _); have c1 : w2.cell? ⟨gx, 1, none⟩ = some (.slice q 0 c) := (hb2.cell 1).trans (icells_1 _ _ _); have c3 : w2.cell? ⟨ga, 3, none⟩ = some (.int .i64 er) := hr2.blk.cell 3; have ld := load_id item0_ok' hb2.range; have bd := run_mkOp (P := Tryz.prog) w2 (parts := #[]) id_zero; have nq := (fun oa ob => run_neqId oa ob Fld.zero32 Fld.zero32 Fld.zero32_length Fld.zero32_length w2); rw [decide_eq_true rfl] at nq; have R2 := Lib.hid hr2; have G2 := Lib.hid hg2; have I2 := Lib.hid hb2; clear hr2 hg2 hb2))
  go_end0
  exact ⟨rfl, _, R2.out⟩
set_option maxRecDepth 100000 in
set_option maxHeartbeats 2000000 in
theorem rfield_n_98 (w0 : World) (ga : Nat) (L : Value) (v : Value) (out : List Int) (k : Nat) (x : Itm) (hx : x.ok) (w : World)
    (hnext : Calls Tryz.prog 122 #[.pointer (some ⟨ga, 0, none⟩)] w (NextDone w0 ga L v out x k 0))
    (hN : x.N ≠ 0) :
    Calls Tryz.prog 88 #[.pointer (some ⟨ga, 0, none⟩), .int .u8 98] w (RFDone w0 ga L k 2 out) := by
  have HNX := Lib.hid hnext
  have n0 := hx.N0
  have n1 := hx.N1
  obtain ⟨m, hmm⟩ : ∃ m, m = x.B.length := ⟨_, rfl⟩
  have HM := Lib.hid hmm
  obtain ⟨xn, hxn⟩ : ∃ n, n = x.N := ⟨_, rfl⟩
  rw [← hxn] at n0 n1
  have HN := Lib.hid hxn
  have OKX := Lib.hid hx
  have hq : (xn == 0) = false := by rw [beq_eq_false_iff_ne, hxn]; exact hN
  have hq2 : (xn != 0) = true := by rw [bne, hq]; rfl
  clear hnext hmm hxn hx hN
  go_enter Tryz.func88, Tryz.ntmps88
  go_wp2_with (first
    | (go_at_call 122; refine HNX.out.mono ?_; clear HNX; rintro e w1 ⟨q, c, rfl, hg, hr⟩; have hsz : (Tryz.prog.info? 118).map (fun i => i.size) = some (icells x q c).toArray.size := (by rw [item_size, List.size_toArray, icells_length OKX.out]); have hsz3 : (icells ⟨0, [], Fld.zero32⟩ none 0).toArray.size = (icells x q c).toArray.size := (by rw [List.size_toArray, List.size_toArray, icells_length item0_ok', icells_length OKX.out]); have HG := Lib.hid hg; have HR := Lib.hid hr; clear hg hr)
    | (refine wpList_alloc_arr rfl 118 rfl _ item_info ?_; have tk1 : True := trivial)
    | (have _t := tk1; refine wpList_store_row rfl 118 (.tmp 4) (.tmp 11) rfl _ _ rfl rfl 118 _ (heap_alloc_new _ _) hsz hsz3 (icells_all _ _ _) ?_; clear tk1 _t; rw [World.setRow_alloc_new]; obtain ⟨hr2, hg2, hb2⟩ := item_box HR.out HG.out; generalize w1.alloc (Obj.cells (icells x q c).toArray 118) = w2 at *; generalize w1.heap.size = gx at *; have c0 : w2.cell? ⟨gx, 0, none⟩ = some (.int .i64 xn) := (by rw [HN.out]; exact (hb2.cell 0).trans (icells_0 _ _ _)); have c1 : w2.cell? ⟨gx, 1, none⟩ = some (.slice q m c) := (by rw [HM.out]; exact (hb2.cell 1).trans (icells_1 _ _ _)); have c3 : w2.cell? ⟨ga, 3, none⟩ = some (.int .i64 0) := hr2.blk.cell 3; have tk0 : True := trivial; have R2 := Lib.hid hr2; have G2 := Lib.hid hg2; have I2 := Lib.hid hb2; clear hr2 hg2 hb2)
    | (have _t := tk0; go_at_call 90; clear tk0 _t; refine (rfails_0 R2.out I2.out _).mono ?_; rintro e w3 ⟨rfl, hr3, hb3⟩; have d0 : w3.cell? ⟨gx, 0, none⟩ = some (.int .i64 xn) := (by rw [HN.out]; exact (hb3.cell 0).trans (icells_0 _ _ _)); have d3 : w3.cell? ⟨ga, 3, none⟩ = some (.int .i64 2) := hr3.blk.cell 3; have R3 := Lib.hid hr3; clear hr3 hb3 c0 c1 c3; have tk9 : True := trivial)
    | (have _t := tk9; go_at_call 90; clear _t; refine (rfails_e R3.out (by decide) _).mono ?_; rintro e w4 ⟨rfl, rfl⟩))
  go_end0
  exact ⟨rfl, _, R3.out⟩
set_option maxRecDepth 100000 in
set_option maxHeartbeats 2000000 in
theorem rfield_n_100 (w0 : World) (ga : Nat) (L : Value) (v : Value) (out : List Int) (k : Nat) (x : Itm) (hx : x.ok) (w : World)
    (hnext : Calls Tryz.prog 122 #[.pointer (some ⟨ga, 0, none⟩)] w (NextDone w0 ga L v out x k 0))
    (hN : x.N ≠ 0) :
    Calls Tryz.prog 88 #[.pointer (some ⟨ga, 0, none⟩), .int .u8 100] w (RFDone w0 ga L k 2 out) := by
  have HNX := Lib.hid hnext
  have n0 := hx.N0
  have n1 := hx.N1
  obtain ⟨m, hmm⟩ : ∃ m, m = x.B.length := ⟨_, rfl⟩
  have HM := Lib.hid hmm
  obtain ⟨xn, hxn⟩ : ∃ n, n = x.N := ⟨_, rfl⟩
  rw [← hxn] at n0 n1
  have HN := Lib.hid hxn
  have OKX := Lib.hid hx
  have hq : (xn == 0) = false := by rw [beq_eq_false_iff_ne, hxn]; exact hN
  have hq2 : (xn != 0) = true := by rw [bne, hq]; rfl
  clear hnext hmm hxn hx hN
  go_enter Tryz.func88, Tryz.ntmps88
  go_wp2_with (first
    | (go_at_call 122; refine HNX.out.mono ?_; clear HNX; rintro e w1 ⟨q, c, rfl, hg, hr⟩; have hsz : (Tryz.prog.info? 118).map (fun i => i.size) = some (icells x q c).toArray.size := (by rw [item_size, List.size_toArray, icells_length OKX.out]); have hsz3 : (icells ⟨0, [], Fld.zero32⟩ none 0).toArray.size = (icells x q c).toArray.size := (by rw [List.size_toArray, List.size_toArray, icells_length item0_ok', icells_length OKX.out]); have HG := Lib.hid hg; have HR := Lib.hid hr; clear hg hr)
    | (refine wpList_alloc_arr rfl 118 rfl _ item_info ?_; have tk1 : True := trivial)
    | (have _t := tk1; refine wpList_store_row rfl 118 (.tmp 4) (.tmp 11) rfl _ _ rfl rfl 118 _ (heap_alloc_new _ _) hsz hsz3 (icells_all _ _ _) ?_; clear tk1 _t; rw [World.setRow_alloc_new]; obtain ⟨hr2, hg2, hb2⟩ := item_box HR.out HG.out; generalize w1.alloc (Obj.cells (icells x q c).toArray 118) = w2 at *; generalize w1.heap.size = gx at *; have c0 : w2.cell? ⟨gx, 0, none⟩ = some (.int .i64 xn) := (by rw [HN.out]; exact (hb2.cell 0).trans (icells_0 _ _ _)); have c1 : w2.cell? ⟨gx, 1, none⟩ = some (.slice q m c) := (by rw [HM.out]; exact (hb2.cell 1).trans (icells_1 _ _ _)); have c3 : w2.cell? ⟨ga, 3, none⟩ = some (.int .i64 0) := hr2.blk.cell 3; have tk0 : True := trivial; have R2 := Lib.hid hr2; have G2 := Lib.hid hg2; have I2 := Lib.hid hb2; clear hr2 hg2 hb2)
    | (have _t := tk0; go_at_call 90; clear tk0 _t; refine (rfails_0 R2.out I2.out _).mono ?_; rintro e w3 ⟨rfl, hr3, hb3⟩; have d0 : w3.cell? ⟨gx, 0, none⟩ = some (.int .i64 xn) := (by rw [HN.out]; exact (hb3.cell 0).trans (icells_0 _ _ _)); have d3 : w3.cell? ⟨ga, 3, none⟩ = some (.int .i64 2) := hr3.blk.cell 3; have R3 := Lib.hid hr3; clear hr3 hb3 c0 c1 c3; have tk9 : True := trivial)
    | (have _t := tk9; go_at_call 90; clear _t; refine (rfails_e R3.out (by decide) _).mono ?_; rintro e w4 ⟨rfl, rfl⟩))
  go_end0
  exact ⟨rfl, _, R3.out⟩
set_option maxRecDepth 100000 in
set_option maxHeartbeats 2000000 in
theorem rfield_id_98 (w0 : World) (ga : Nat) (L : Value) (v : Value) (out : List Int) (k : Nat) (x : Itm) (hx : x.ok) (w : World)
    (hnext : Calls Tryz.prog 122 #[.pointer (some ⟨ga, 0, none⟩)] w (NextDone w0 ga L v out x k 0))
    (hN : x.N = 0) (hD : x.D ≠ Fld.zero32) :
    Calls Tryz.prog 88 #[.pointer (some ⟨ga, 0, none⟩), .int .u8 98] w (RFDone w0 ga L k 2 out) := by
  have HNX := Lib.hid hnext
  have n0 := hx.N0
  have n1 := hx.N1
  obtain ⟨m, hmm⟩ : ∃ m, m = x.B.length := ⟨_, rfl⟩
  have HM := Lib.hid hmm
  obtain ⟨xn, hxn⟩ : ∃ n, n = x.N := ⟨_, rfl⟩
  rw [← hxn] at n0 n1
  have HN := Lib.hid hxn
  have OKX := Lib.hid hx
  have hq : xn = 0 := by rw [hxn]; exact hN
  subst hq
  have hdd : decide (x.D = Fld.zero32) = false := by rw [decide_eq_false_iff_not]; exact hD
  clear hnext hmm hxn hx hN hD
  go_enter Tryz.func88, Tryz.ntmps88
  go_wp2_with (first
    | (go_at_call 122; refine HNX.out.mono ?_; clear HNX; rintro e w1 ⟨q, c, rfl, hg, hr⟩; have hsz : (Tryz.prog.info? 118).map (fun i => i.size) = some (icells x q c).toArray.size := (by rw [item_size, List.size_toArray, icells_length OKX.out]); have hsz3 : (icells ⟨0, [], Fld.zero32⟩ none 0).toArray.size = (icells x q c).toArray.size := (by rw [List.size_toArray, List.size_toArray, icells_length item0_ok', icells_length OKX.out]); have HG := Lib.hid hg; have HR := Lib.hid hr; clear hg hr)
    | (refine wpList_alloc_arr rfl 118 rfl _ item_info ?_; have tk1 : True := trivial)
    | (have _t := tk1; refine wpList_store_row rfl 118 (.tmp 4) (.tmp 11) rfl _ _ rfl rfl 118 _ (heap_alloc_new _ _) hsz hsz3 (icells_all _ _ _) ?_; clear tk1 _t; rw [World.setRow_alloc_new]; obtain ⟨hr2, hg2, hb2⟩ := item_box HR.out HG.out; generalize w1.alloc (Obj.cells (icells x q c).toArray 118) = w2 at *; generalize w1.heap.size = gx at *; have c0 : w2.cell? ⟨gx, 0, none⟩ = some (.int .i64 0) := (by rw [HN.out]; exact (hb2.cell 0).trans (icells_0 _ _ _)); have c1 : w2.cell? ⟨gx, 1, none⟩ = some (.slice q m c) := (by rw [HM.out]; exact (hb2.cell 1).trans (icells_1 _ _ _)); have c3 : w2.cell? ⟨ga, 3, none⟩ = some (.int .i64 0) := hr2.blk.cell 3; have ld := load_id OKX.out hb2.range; have bd := run_mkOp (P := Tryz.prog) w2 (parts := #[]) id_zero; have nq := (fun oa ob => run_neqId oa ob x.D Fld.zero32 OKX.out.len Fld.zero32_length w2); rw [hdd] at nq; have tk0 : True := trivial; have R2 := Lib.hid hr2; have G2 := Lib.hid hg2; have I2 := Lib.hid hb2; clear hr2 hg2 hb2)
    | (have _t := tk0; go_at_call 90; clear tk0 _t; refine (rfails_0 R2.out I2.out _).mono ?_; rintro e w3 ⟨rfl, hr3, hb3⟩; have d0 : w3.cell? ⟨gx, 0, none⟩ = some (.int .i64 0) := (by rw [HN.out]; exact (hb3.cell 0).trans (icells_0 _ _ _)); have d3 : w3.cell? ⟨ga, 3, none⟩ = some (.int .i64 2) := hr3.blk.cell 3; have R3 := Lib.hid hr3; clear hr3 hb3 c0 c1 c3; have tk9 : True := trivial)
    | (have _t := tk9; go_at_call 90; clear _t; refine (rfails_e R3.out (by decide) _).mono ?_; rintro e w4 ⟨rfl, rfl⟩))
  go_end0
  exact ⟨rfl, _, R3.out⟩
set_option maxRecDepth 100000 in
set_option maxHeartbeats 2000000 in
theorem rfield_long_98 (w0 : World) (ga : Nat) (L : Value) (v : Value) (out : List Int) (k : Nat) (x : Itm) (hx : x.ok) (w : World)
    (hnext : Calls Tryz.prog 122 #[.pointer (some ⟨ga, 0, none⟩)] w (NextDone w0 ga L v out x k 0))
    (hN : x.N = 0) (hD : x.D = Fld.zero32) (hl : 4000 < x.B.length) :
    Calls Tryz.prog 88 #[.pointer (some ⟨ga, 0, none⟩), .int .u8 98] w (RFDone w0 ga L k 3 out) := by
  have HNX := Lib.hid hnext
  have n0 := hx.N0
  have n1 := hx.N1
  obtain ⟨m, hmm⟩ : ∃ m, m = x.B.length := ⟨_, rfl⟩
  have HM := Lib.hid hmm
  obtain ⟨xn, hxn⟩ : ∃ n, n = x.N := ⟨_, rfl⟩
  rw [← hxn] at n0 n1
  have HN := Lib.hid hxn
  have OKX := Lib.hid hx
  have hq : xn = 0 := by rw [hxn]; exact hN
  subst hq
  rw [← hmm] at hl
  have hdd : decide (x.D = Fld.zero32) = true := by rw [hD]; exact decide_eq_true rfl
  clear hnext hmm hxn hx hN hD
  go_enter Tryz.func88, Tryz.ntmps88
  go_wp2_with (first
    | (go_at_call 122; refine HNX.out.mono ?_; clear HNX; rintro e w1 ⟨q, c, rfl, hg, hr⟩; have hsz : (Tryz.prog.info? 118).map (fun i => i.size) = some (icells x q c).toArray.size := (by rw [item_size, List.size_toArray, icells_length OKX.out]); have hsz3 : (icells ⟨0, [], Fld.zero32⟩ none 0).toArray.size = (icells x q c).toArray.size := (by rw [List.size_toArray, List.size_toArray, icells_length item0_ok', icells_length OKX.out]); have HG := Lib.hid hg; have HR := Lib.hid hr; clear hg hr)
    | (refine wpList_alloc_arr rfl 118 rfl _ item_info ?_; have tk1 : True := trivial)
    | (have _t := tk1; refine wpList_store_row rfl 118 (.tmp 4) (.tmp 11) rfl _ _ rfl rfl 118 _ (heap_alloc_new _ _) hsz hsz3 (icells_all _ _ _) ?_; clear tk1 _t; rw [World.setRow_alloc_new]; obtain ⟨hr2, hg2, hb2⟩ := item_box HR.out HG.out; generalize w1.alloc (Obj.cells (icells x q c).toArray 118) = w2 at *; generalize w1.heap.size = gx at *; have c0 : w2.cell? ⟨gx, 0, none⟩ = some (.int .i64 0) := (by rw [HN.out]; exact (hb2.cell 0).trans (icells_0 _ _ _)); have c1 : w2.cell? ⟨gx, 1, none⟩ = some (.slice q m c) := (by rw [HM.out]; exact (hb2.cell 1).trans (icells_1 _ _ _)); have c3 : w2.cell? ⟨ga, 3, none⟩ = some (.int .i64 0) := hr2.blk.cell 3; have ld := load_id OKX.out hb2.range; have bd := run_mkOp (P := Tryz.prog) w2 (parts := #[]) id_zero; have nq := (fun oa ob => run_neqId oa ob x.D Fld.zero32 OKX.out.len Fld.zero32_length w2); rw [hdd] at nq; have tk0 : True := trivial; have R2 := Lib.hid hr2; have G2 := Lib.hid hg2; have I2 := Lib.hid hb2; clear hr2 hg2 hb2)
    | (have _t := tk0; go_at_call 90; clear tk0 _t; refine (rfails_0 R2.out I2.out _).mono ?_; rintro e w3 ⟨rfl, hr3, hb3⟩; have d0 : w3.cell? ⟨gx, 0, none⟩ = some (.int .i64 0) := (by rw [HN.out]; exact (hb3.cell 0).trans (icells_0 _ _ _)); have d3 : w3.cell? ⟨ga, 3, none⟩ = some (.int .i64 3) := hr3.blk.cell 3; have R3 := Lib.hid hr3; clear hr3 hb3 c0 c1 c3; have tk9 : True := trivial)
    | (have _t := tk9; go_at_call 90; clear _t; refine (rfails_e R3.out (by decide) _).mono ?_; rintro e w4 ⟨rfl, rfl⟩))
  go_end0
  exact ⟨rfl, _, R3.out⟩
set_option maxRecDepth 100000 in
set_option maxHeartbeats 2000000 in
theorem rfield_by_100 (w0 : World) (ga : Nat) (L : Value) (v : Value) (out : List Int) (k : Nat) (x : Itm) (hx : x.ok) (w : World)
    (hnext : Calls Tryz.prog 122 #[.pointer (some ⟨ga, 0, none⟩)] w (NextDone w0 ga L v out x k 0))
    (hN : x.N = 0) (hB : x.B ≠ []) :
    Calls Tryz.prog 88 #[.pointer (some ⟨ga, 0, none⟩), .int .u8 100] w (RFDone w0 ga L k 2 out) := by
  have HNX := Lib.hid hnext
  have n0 := hx.N0
  have n1 := hx.N1
  obtain ⟨m, hmm⟩ : ∃ m, m = x.B.length := ⟨_, rfl⟩
  have HM := Lib.hid hmm
  obtain ⟨xn, hxn⟩ : ∃ n, n = x.N := ⟨_, rfl⟩
  rw [← hxn] at n0 n1
  have HN := Lib.hid hxn
  have OKX := Lib.hid hx
  have hq : xn = 0 := by rw [hxn]; exact hN
  subst hq
  have hm0 : 0 < m := by rw [hmm]; exact List.length_pos_iff.2 hB
  clear hnext hmm hxn hx hN hB
  go_enter Tryz.func88, Tryz.ntmps88
  go_wp2_with (first
    | (go_at_call 122; refine HNX.out.mono ?_; clear HNX; rintro e w1 ⟨q, c, rfl, hg, hr⟩; have hsz : (Tryz.prog.info? 118).map (fun i => i.size) = some (icells x q c).toArray.size := (by rw [item_size, List.size_toArray, icells_length OKX.out]); have hsz3 : (icells ⟨0, [], Fld.zero32⟩ none 0).toArray.size = (icells x q c).toArray.size := (by rw [List.size_toArray, List.size_toArray, icells_length item0_ok', icells_length OKX.out]); have HG := Lib.hid hg; have HR := Lib.hid hr; clear hg hr)
    | (refine wpList_alloc_arr rfl 118 rfl _ item_info ?_; have tk1 : True := trivial)
    | (have _t := tk1; refine wpList_store_row rfl 118 (.tmp 4) (.tmp 11) rfl _ _ rfl rfl 118 _ (heap_alloc_new _ _) hsz hsz3 (icells_all _ _ _) ?_; clear tk1 _t; rw [World.setRow_alloc_new]; obtain ⟨hr2, hg2, hb2⟩ := item_box HR.out HG.out; generalize w1.alloc (Obj.cells (icells x q c).toArray 118) = w2 at *; generalize w1.heap.size = gx at *; have c0 : w2.cell? ⟨gx, 0, none⟩ = some (.int .i64 0) := (by rw [HN.out]; exact (hb2.cell 0).trans (icells_0 _ _ _)); have c1 : w2.cell? ⟨gx, 1, none⟩ = some (.slice q m c) := (by rw [HM.out]; exact (hb2.cell 1).trans (icells_1 _ _ _)); have c3 : w2.cell? ⟨ga, 3, none⟩ = some (.int .i64 0) := hr2.blk.cell 3; have tk0 : True := trivial; have R2 := Lib.hid hr2; have G2 := Lib.hid hg2; have I2 := Lib.hid hb2; clear hr2 hg2 hb2)
    | (have _t := tk0; go_at_call 90; clear tk0 _t; refine (rfails_0 R2.out I2.out _).mono ?_; rintro e w3 ⟨rfl, hr3, hb3⟩; have d0 : w3.cell? ⟨gx, 0, none⟩ = some (.int .i64 0) := (by rw [HN.out]; exact (hb3.cell 0).trans (icells_0 _ _ _)); have d3 : w3.cell? ⟨ga, 3, none⟩ = some (.int .i64 2) := hr3.blk.cell 3; have R3 := Lib.hid hr3; clear hr3 hb3 c0 c1 c3; have tk9 : True := trivial)
    | (have _t := tk9; go_at_call 90; clear _t; refine (rfails_e R3.out (by decide) _).mono ?_; rintro e w4 ⟨rfl, rfl⟩))
  go_end0
  exact ⟨rfl, _, R3.out⟩
end
section
set_option linter.unusedSimpArgs false
set_option linter.unusedVariables false
open Go.RowKit Sha
open Fld (Itm)
attribute [local go_sem ↓] execOp_loadId execOp_buildId execOp_neqId
theorem RW.fin {w0 w : World} {ga k n : Nat} {L v va : Value} {out : List Int} {xs : List Value} {er : Int} (hk : Blk w ga [L, .int .i64 k, v, .int .i64 er] 131) (hown : Own8 w w0.heap.size 5 va n xs) (hn : n = out.length) (hx : xs = out.map v8) (hb : w0.heap.size ≤ ga) (hB : Below w0.heap.size w0 w) :
    RW w0 ga L k va out er (w.setCell ⟨ga, 2, none⟩ va) := by
  subst hn hx
  exact ⟨by have := hk.set 2 va; simpa using this, own8_set hown hk r_ne 2 va, hb, hB.setCell hb _⟩
set_option maxRecDepth 100000 in
set_option maxHeartbeats 4000000 in
theorem rfield_d (w0 : World) (ga : Nat) (L : Value) (v : Value) (out : List Int) (k : Nat) (x : Itm) (hx : x.ok) (w : World)
    (hnext : Calls Tryz.prog 122 #[.pointer (some ⟨ga, 0, none⟩)] w (NextDone w0 ga L v out x k 0))
    (hN : x.N = 0) (hB : x.B = []) (ho : out.length ≤ 999990000) :
    Calls Tryz.prog 88 #[.pointer (some ⟨ga, 0, none⟩), .int .u8 100] w (RFDone w0 ga L k 0 (out ++ x.D)) := by
  have HNX := Lib.hid hnext
  obtain ⟨m, hmm⟩ : ∃ m, m = x.B.length := ⟨_, rfl⟩
  have HM := Lib.hid hmm
  have hxn : (0 : Int) = x.N := hN.symm
  have HN := Lib.hid hxn
  have OKX := Lib.hid hx
  obtain ⟨mo, hmoo⟩ : ∃ m, m = out.length := ⟨_, rfl⟩
  rw [← hmoo] at ho
  have HO := Lib.hid hmoo
  have hm0 : m = 0 := by rw [hmm, hB]; rfl
  subst hm0
  have HD := Lib.hid hx.len
  clear hnext hmm hxn hx hN hB hmoo
  go_enter Tryz.func88, Tryz.ntmps88
  go_wp2_with (first
    | (go_at_call 122; refine HNX.out.mono ?_; clear HNX; rintro e w1 ⟨q, c, rfl, hg, hr⟩; have hsz : (Tryz.prog.info? 118).map (fun i => i.size) = some (icells x q c).toArray.size := (by rw [item_size, List.size_toArray, icells_length OKX.out]); have hsz3 : (icells ⟨0, [], Fld.zero32⟩ none 0).toArray.size = (icells x q c).toArray.size := (by rw [List.size_toArray, List.size_toArray, icells_length item0_ok', icells_length OKX.out]); have HG := Lib.hid hg; have HR := Lib.hid hr; clear hg hr)
    | (refine wpList_alloc_arr rfl 118 rfl _ item_info ?_; have tk1 : True := trivial)
    | (have _t := tk1; refine wpList_store_row rfl 118 (.tmp 4) (.tmp 11) rfl _ _ rfl rfl 118 _ (heap_alloc_new _ _) hsz hsz3 (icells_all _ _ _) ?_; clear tk1 _t; rw [World.setRow_alloc_new]; obtain ⟨hr2, hg2, hb2⟩ := item_box HR.out HG.out; generalize w1.alloc (Obj.cells (icells x q c).toArray 118) = w2 at *; generalize w1.heap.size = gx at *; have c0 : w2.cell? ⟨gx, 0, none⟩ = some (.int .i64 0) := (by rw [HN.out]; exact (hb2.cell 0).trans (icells_0 _ _ _)); have c1 : w2.cell? ⟨gx, 1, none⟩ = some (.slice q 0 c) := (by rw [HM.out]; exact (hb2.cell 1).trans (icells_1 _ _ _)); have c3 : w2.cell? ⟨ga, 3, none⟩ = some (.int .i64 0) := hr2.blk.cell 3; have R2 := Lib.hid hr2; have G2 := Lib.hid hg2; have I2 := Lib.hid hb2; clear hr2 hg2 hb2))
  have GNE := Lib.hid (R2.out.ne I2.out)
  go_loopw [5] (fun i wr => ∃ (j : Nat) (vj : Value), i = .int .i64 j ∧ j ≤ 32 ∧ Hid (RW w0 ga L k vj (out ++ x.D.take j) 0 wr) ∧ Hid (Blk wr gx (icells x q c) 118)) (fun i _ => 32 - (intOf i).toNat)
  case atStart => exact ⟨0, v, rfl, by omega, Lib.hid (by simpa using R2.out), I2⟩
  case round =>
    clear HG HR R2 G2 I2 c0 c1 c3
    obtain ⟨j, vj, rfl, hj, RJ, IJ⟩ := hrel
    by_cases hlt : j < 32
    · have hjd : j < x.D.length := by rw [HD.out]; exact hlt
      obtain ⟨d, hd⟩ : ∃ d, d = x.D[j] := ⟨_, rfl⟩
      have HTK := Lib.hid (show x.D.take (j + 1) = x.D.take j ++ [d] by rw [hd, List.take_succ_eq_append_getElem hjd])
      have c4 : wr.cell? ⟨gx, 2 + j, none⟩ = some (.int .u8 d) := (IJ.out.cell (2 + j)).trans (by rw [icells_2, List.getElem?_map, List.getElem?_eq_getElem hjd, hd]; rfl)
      have c2 : wr.cell? ⟨ga, 2, none⟩ = some vj := RJ.out.blk.cell 2
      have c2' : (wr.alloc (Obj.cells #[.int .u8 d] 5)).cell? ⟨ga, 2, none⟩ = some vj := (RJ.out.blk.old _).cell 2
      have HLJ := Lib.hid (show (out ++ x.D.take j).length = mo + j by rw [List.length_append, List.length_take, HD.out, ← HO.out]; omega)
      have hji : ((j : Int)) < 32 := by omega
      have hj0 : (0 : Int) ≤ (j : Int) := by omega
      clear hd hjd
      go_wp2_with fail
      go_region_law ((refine step_app8 (by rfl) (.tmp 64) (.tmp 69) 28 (by rfl) w0.heap.size 5 Tryz.underlying28 kbyte_info vj _ _ (by rfl) ((RJ.out.own.alloc _).drew) (some ⟨wr.heap.size, 0, none⟩) 1 1 [v8 d] (by rfl) ((at_one wr _ _).drew) rfl (fun h => by cases h) (by omega) (by intro u hu; rw [List.mem_singleton.1 hu]; exact ⟨_, rfl⟩) (by rw [HLJ.out]; omega) (by unfold maxLen; rw [HLJ.out]; omega) (by have := RJ.out.below.size; simp; omega) ?_; intro va w8 hown8 hg8 hb8 hs8; obtain ⟨g8, c8, rfl, _, _, _, _⟩ := own_form hown8.row (by omega); have RA := RJ.out.on (((Below.refl wr.heap.size wr).alloc (Nat.le_refl _) (Obj.cells #[.int .u8 d] 5)).drew); have IA := (IJ.out.old (Obj.cells #[.int .u8 d] 5)).drew; have R8 := Lib.hid (RA.app (news := [d]) rfl hown8 hg8 hb8); have I8 := Lib.hid (IA.grow hg8 (own_ne RA.own.row IA (Ne.symm ui_ne))); have hk8 := RA.blk.grow hg8 (own_ne RA.own.row RA.blk r_ne); have s1 : w8.cell? ⟨ga, 2, none⟩ = some vj := hk8.cell 2; have s2 : w8.frozen? ⟨ga, 2, none⟩ = false := hk8.free 2; clear hown8 hg8 hb8 hk8 RA IA; generalize (out ++ x.D.take j).length + 1 = nl at *))
      all_goals
        go_wp2_with fail
        go_roundw
        case rel => exact ⟨j + 1, _, by go_num, by omega, Lib.hid (by have := R8.out; rw [HTK.out, ← List.append_assoc]; exact this), Lib.hid (I8.out.setOther _ _ GNE.out)⟩
        case measure => simp [intOf]; omega
    · obtain rfl : j = 32 := by omega
      go_wp2_with fail
      go_end0
      exact ⟨rfl, _, by have := RJ.out; rwa [List.take_of_length_le (by rw [HD.out]; exact Nat.le_refl _)] at this⟩
set_option maxRecDepth 100000 in
set_option maxHeartbeats 4000000 in
theorem rfield_b (w0 : World) (ga : Nat) (L : Value) (v : Value) (out : List Int) (k : Nat) (x : Itm) (hx : x.ok) (w : World)
    (hnext : Calls Tryz.prog 122 #[.pointer (some ⟨ga, 0, none⟩)] w (NextDone w0 ga L v out x k 0))
    (hN : x.N = 0) (hD : x.D = Fld.zero32) (hl : x.B.length ≤ 4000) (ho : out.length ≤ 999990000) :
    Calls Tryz.prog 88 #[.pointer (some ⟨ga, 0, none⟩), .int .u8 98] w (RFDone w0 ga L k 0 (out ++ Fld.num x.B.length ++ x.B)) := by
  have HNX := Lib.hid hnext
  obtain ⟨m, hmm⟩ : ∃ m, m = x.B.length := ⟨_, rfl⟩
  have HM := Lib.hid hmm
  have hxn : (0 : Int) = x.N := hN.symm
  have HN := Lib.hid hxn
  have OKX := Lib.hid hx
  obtain ⟨mo, hmoo⟩ : ∃ m, m = out.length := ⟨_, rfl⟩
  rw [← hmoo] at ho
  have HO := Lib.hid hmoo
  have hdd : decide (x.D = Fld.zero32) = true := by rw [hD]; exact decide_eq_true rfl
  rw [← hmm] at hl ⊢
  have hlen := Fld.num_len m (by rw [show (128 : Nat) ^ 9 = 9223372036854775808 by decide]; omega)
  obtain ⟨ml, hml⟩ : ∃ m', m' = (Fld.num m).length := ⟨_, rfl⟩
  have hpos : 0 < ml := by rw [hml]; exact Fld.num_pos m
  rw [← hml] at hlen
  have HL := Lib.hid hml
  have HO2 := Lib.hid (show (out ++ Fld.num m).length = mo + ml by rw [List.length_append, ← HL.out, ← HO.out])
  clear hnext hmm hxn hx hN hD hmoo hml
  go_enter Tryz.func88, Tryz.ntmps88
  go_wp2_with (first
    | (go_at_call 122; refine HNX.out.mono ?_; clear HNX; rintro e w1 ⟨q, c, rfl, hg, hr⟩; have hsz : (Tryz.prog.info? 118).map (fun i => i.size) = some (icells x q c).toArray.size := (by rw [item_size, List.size_toArray, icells_length OKX.out]); have hsz3 : (icells ⟨0, [], Fld.zero32⟩ none 0).toArray.size = (icells x q c).toArray.size := (by rw [List.size_toArray, List.size_toArray, icells_length item0_ok', icells_length OKX.out]); have HG := Lib.hid hg; have HR := Lib.hid hr; clear hg hr)
    | (refine wpList_alloc_arr rfl 118 rfl _ item_info ?_; have tk1 : True := trivial)
    | (have _t := tk1; refine wpList_store_row rfl 118 (.tmp 4) (.tmp 11) rfl _ _ rfl rfl 118 _ (heap_alloc_new _ _) hsz hsz3 (icells_all _ _ _) ?_; clear tk1 _t; rw [World.setRow_alloc_new]; obtain ⟨hr2, hg2, hb2⟩ := item_box HR.out HG.out; generalize w1.alloc (Obj.cells (icells x q c).toArray 118) = w2 at *; generalize w1.heap.size = gx at *; have c0 : w2.cell? ⟨gx, 0, none⟩ = some (.int .i64 0) := (by rw [HN.out]; exact (hb2.cell 0).trans (icells_0 _ _ _)); have c1 : w2.cell? ⟨gx, 1, none⟩ = some (.slice q m c) := (by rw [HM.out]; exact (hb2.cell 1).trans (icells_1 _ _ _)); have c2 : w2.cell? ⟨ga, 2, none⟩ = some v := hr2.blk.cell 2; have hgne : gx ≠ ga := hr2.ne hb2; have c3 : w2.cell? ⟨ga, 3, none⟩ = some (.int .i64 0) := hr2.blk.cell 3; have ld := load_id OKX.out hb2.range; have bd := run_mkOp (P := Tryz.prog) w2 (parts := #[]) id_zero; have nq := (fun oa ob => run_neqId oa ob x.D Fld.zero32 OKX.out.len Fld.zero32_length w2); rw [hdd] at nq; have R2 := Lib.hid hr2; have G2 := Lib.hid hg2; have I2 := Lib.hid hb2; clear hr2 hg2 hb2))
  clear ld bd nq HG HR c0
  go_region_law (first
    | (refine step_app8 (by rfl) (.tmp 77) (.tmp 81) 28 (by rfl) w0.heap.size 5 Tryz.underlying28 kbyte_info v _ _ (by rfl) R6.out.own q6 ml c6 ((Fld.num m).map v8) (by rfl) A6.out (by rw [List.length_map]; exact HL.out.symm) N6.out hle6 (ints_map _) (by rw [← HO.out]; omega) (by unfold maxLen; rw [← HO.out]; omega) R6.out.below.size ?_; intro va w8 hown8 hg8 hb8 hs8; obtain ⟨g8, c8, rfl, _, _, _, _⟩ := own_form hown8.row (by omega); have K8 := Lib.hid (R6.out.blk.grow hg8 (own_ne R6.out.own.row R6.out.blk r_ne)); have B8 := Lib.hid (R6.out.below.trans hb8); have I8 := Lib.hid (I6.out.grow hg8 (own_ne R6.out.own.row I6.out (Ne.symm ui_ne))); have f1 : w8.cell? ⟨gx, 1, none⟩ = some (.slice q m c) := (by rw [HM.out]; exact (I8.out.cell 1).trans (icells_1 _ _ _)); have H8 := Lib.hid hown8; have hnl : out.length + ml ≤ 999990009 := (by rw [← HO.out]; omega); clear hown8 hg8 hb8; generalize hnn : out.length + ml = nl at *; have NL := Lib.hid hnn; clear hnn; have tk8 : True := trivial)
    | (have _t := tk8; refine step_app8 (by rfl) (.tmp 82) (.tmp 84) 28 (by rfl) w0.heap.size 5 Tryz.underlying28 kbyte_info (.slice (some ⟨g8, 0, none⟩) nl c8) nl _ (by rfl) H8.out q m c (x.B.map v8) (by rfl) (G2.out.at_.below B8.out) (by rw [List.length_map]; exact HM.out.symm) G2.out.nil (by rw [HM.out]; exact G2.out.le) (ints_map _) (by omega) (by unfold maxLen; omega) B8.out.size ?_; clear tk8 _t; intro va w9 hown9 hg9 hb9 hs9; obtain ⟨g9, c9, rfl, _, _, _, _⟩ := own_form hown9.row (by have := NL.out; omega); have hk9 := K8.out.grow hg9 (own_ne H8.out.row K8.out r_ne); have s1 : w9.cell? ⟨ga, 2, none⟩ = some v := hk9.cell 2; have s2 : w9.frozen? ⟨ga, 2, none⟩ = false := hk9.free 2; have R9 := Lib.hid (RW.fin (out := out ++ Fld.num m ++ x.B) hk9 hown9 (by rw [List.length_append, HO2.out, ← NL.out, HO.out, HM.out]) (by simp) R2.out.base (B8.out.trans hb9)); clear hown9 hg9 hb9 hk9; generalize nl + m = nk at *)
    | (go_simp; go_at_call 123; refine (rnumber_any m w2.drew (by omega)).mono ?_; rintro e w6 ⟨v6, rfl, ho6, hb6⟩; rw [← HL.out] at ho6; obtain ⟨q6, c6, rfl, hl6, hA6, hle6, hmx6, hnil6⟩ := own_row ho6; have R6 := Lib.hid ((R2.out.on ((Below.refl w2.heap.size w2).drew)).on hb6); have I6 := Lib.hid (I2.out.drew.below hb6 I2.out.lt); have e1 : w6.cell? ⟨gx, 1, none⟩ = some (.slice q m c) := (by rw [HM.out]; exact (I6.out.cell 1).trans (icells_1 _ _ _)); have e2 : w6.cell? ⟨ga, 2, none⟩ = some v := R6.out.blk.cell 2; have A6 := Lib.hid hA6; have N6 := Lib.hid hnil6; clear ho6 hb6 hl6 hA6 hmx6 hnil6))
  all_goals
    go_wp2_with fail
    go_end0
    exact ⟨rfl, _, R9.out⟩
end
end Go.Proofs.YtbogjfmefkhglaaGreat
