/-
  The contract of through: the state behind all blocks.
  The contracts of tell and ending.
-/
import Derived.Test.YtokpabkcaofahaaGreatPb10
import Derived.Test.YtokpabkcaofahaaGreatPb1
import Derived.Test.YtokpabkcaofahaaGreatPb5
namespace Go.Proofs.YtokpabkcaofahaaGreat
section
set_option linter.unusedSimpArgs false
set_option linter.unusedVariables false
open Go.RowKit Sha
theorem kList_length : kList.length = 64 := by unfold kList; rfl
theorem slice1 : (Tryz.prog.info? 5).map (fun i => i.size) = some 1 := by kernel_rfl
set_option maxRecDepth 100000 in
set_option maxHeartbeats 2000000 in
theorem through_any (s : List W) (zs : List Int) (p : Option Addr) (cap : Nat) (w : World) (hs : s.length = 8) (hz : ∀ n ∈ zs, 0 ≤ n ∧ n ≤ 255) (hA : At w p (zs.map v8)) (hc : zs.length ≤ cap) (hm : cap ≤ 9223372036854775807) :
    Calls Tryz.prog 109 #[.agg (s.map v32).toArray, .slice p zs.length cap] w
      fun e w' => e = .returned (.agg ((thru s kList zs (zs.length / 64)).map v32).toArray) ∧ Below w.heap.size w w' := by
  have Hs := Lib.hid hs
  clear hs
  obtain ⟨len, hlen⟩ : ∃ n, n = zs.length := ⟨_, rfl⟩
  rw [← hlen] at hc ⊢
  have Hlen := Lib.hid hlen
  clear hlen
  obtain ⟨n, hn⟩ : ∃ n, n = len / 64 := ⟨_, rfl⟩
  have hn1 : n * 64 ≤ len := by omega
  have hn2 : ((len : Int) / 64) = (n : Int) := by omega
  rw [← hn]
  clear hn
  go_enter Tryz.func109, Tryz.ntmps109
  have lk : (kList.map v32).toArray.size = 64 := by kernel_rfl
  have hszk : (Tryz.prog.info? 189).map (fun i => i.size) = some (kList.map v32).toArray.size := by rw [size59, lk]
  have LK := Lib.hid lk
  clear lk
  go_wp2_with (first
    | (refine wpList_box_arr rfl 153 _ rfl _ rfl ?_)
    | (refine wpList_alloc_arr rfl 153 rfl _ info44 ?_)
    | (refine wpList_alloc_arr rfl 189 rfl _ (info59 []) ?_)
    | (refine wpList_store_row rfl 189 _ _ rfl _ _ rfl rfl _ _ (Blk.new _ _ _) hszk (by rw [LK.out]; simp [fill_length]) (one32 _) ?_)
    | (go_at_call 141; refine (constants_any _).mono ?_; rintro e w1 ⟨rfl, hb1⟩))
  clear hn2
  obtain ⟨g5, hg5⟩ : ∃ g, g = w1.heap.size := ⟨_, rfl⟩
  have b1 : Below w.heap.size w w1 := (((Below.refl _ _).alloc (by simp) _).alloc (by simp) _).trans (hb1.mono (by simp; omega))
  have k0 : Blk w1 w.heap.size (s.map v32) 153 := by
    have := ((Blk.new w (s.map v32).toArray 153).old (Obj.cells (zeros8.map v32).toArray 153)).below hb1 (by simp; omega)
    simpa using this
  have k1 : Blk w1 (w.heap.size + 1) (zeros8.map v32) 153 := by
    have := (Blk.new (w.alloc (Obj.cells (s.map v32).toArray 153)) (zeros8.map v32).toArray 153).below hb1 (by simp)
    simpa using this
  have z1 : w.heap.size + 1 + 1 ≤ w1.heap.size := by have := hb1.size; simpa using this
  have W0 : Below w.heap.size w ((w1.alloc (Obj.cells (List.map v32 (fill [] 0)).toArray 189)).setRow w1.heap.size (List.map v32 kList).toArray) :=
    Below.setRow (b1.alloc (by omega) _) (by omega) _
  have W1 : Blk ((w1.alloc (Obj.cells (List.map v32 (fill [] 0)).toArray 189)).setRow w1.heap.size (List.map v32 kList).toArray) w.heap.size (s.map v32) 153 := (k0.old _).rowOther _ (by omega)
  have W2 : Blk ((w1.alloc (Obj.cells (List.map v32 (fill [] 0)).toArray 189)).setRow w1.heap.size (List.map v32 kList).toArray) (w.heap.size + 1) (zeros8.map v32) 153 := (k1.old _).rowOther _ (by omega)
  have W3 : Blk ((w1.alloc (Obj.cells (List.map v32 (fill [] 0)).toArray 189)).setRow w1.heap.size (List.map v32 kList).toArray) g5 (kList.map v32) 189 := by rw [hg5]; exact (Blk.new _ _ _).row _
  rw [← hg5] at W0 W1 W2 W3 z1
  rw [← hg5]
  generalize ((w1.alloc (Obj.cells (List.map v32 (fill [] 0)).toArray 189)).setRow g5 (List.map v32 kList).toArray) = w2 at *
  clear hb1 b1 k0 k1 hg5
  go_loopw [11] (fun i wr => ∃ k : Nat, k ≤ n ∧ i = .int .i64 k ∧ Below w.heap.size w wr ∧ Blk wr w.heap.size ((thru s kList zs k).map v32) 153 ∧ Blk wr (w.heap.size + 1) (zeros8.map v32) 153 ∧ Blk wr g5 (kList.map v32) 189) (fun i _ => n - (intOf i).toNat)
  case atStart => exact ⟨0, by omega, rfl, W0, by rw [thru_zero]; exact W1, W2, W3⟩
  case round =>
    clear W0 W1 W2 W3
    obtain ⟨k, hk, rfl, hb, h0, h1, h5⟩ := hrel
    have H0 := Lib.hid h0
    have H1 := Lib.hid h1
    have H5 := Lib.hid h5
    have HA := Lib.hid hA
    have HB := Lib.hid hb
    clear h0 h1 h5 hA hb
    by_cases hlt : k < n
    · have hpl : (Sha.part zs k).length = 64 := part_length zs k (by rw [← Hlen.out]; omega)
      have hpz : ∀ m ∈ Sha.part zs k, 0 ≤ m ∧ m ≤ 255 := part_mem zs k _ hz
      have hsz62 : (Tryz.prog.info? 193).map (fun i => i.size) = some ((Sha.part zs k).map v8).length := by rw [size62]; simp [hpl]
      have hsz44 : (Tryz.prog.info? 153).map (fun i => i.size) = some ((thru s kList zs k).map v32).length := by rw [size44]; simp [thru_length, Hs.out]
      have hszb : (Tryz.prog.info? 153).map (fun i => i.size) = some ((behindOf (thru s kList zs k) kList (Sha.part zs k)).map v32).toArray.size := by rw [size44]; simp [behindOf_length, thru_length, Hs.out]
      have hszk2 : (Tryz.prog.info? 189).map (fun i => i.size) = some (kList.map v32).length := hszk
      have HP := Lib.hid hpl
      have HZ := Lib.hid hz
      have HPZ := Lib.hid hpz
      have HCUT : Hid (∀ w, (Instr.sliceAt 26 (.slice p len cap) (some (.int .i64 ((k : Int) * 64))) (some (.int .i64 (((k : Int) + 1) * 64))) none).run Tryz.prog w = .ok (cutV p (k * 64) ((k + 1) * 64) cap) w) := fun w => by
        have := run_cut_lh (P := Tryz.prog) 26 5 p len cap Tryz.underlying26 slice1 .i64 .i64 ((k : Int) * 64) (((k : Int) + 1) * 64) (by omega) (by omega) (by omega) w
        rwa [show ((k : Int) * 64).toNat = k * 64 by omega, show (((k : Int) + 1) * 64).toNat = (k + 1) * 64 by omega] at this
      clear hpl hz hpz
      go_wp2_with fail
      refine region_tail 11 (by kernel_rfl) (by kernel_rfl) ?_
      simp only [List.take_succ_cons, List.take_zero, List.drop_succ_cons, List.drop_zero]
      (go_big_quiet_want; refine quiet_load_mid 153 _ rfl _ _ rfl _ _ (fun w' hw' => by rw [hw']; exact H0.out.drew.range) Tryz.underlying153 rfl hsz44 ?_; simp only [Act.put, List.setIfInBounds_toArray, List.set_cons_zero, List.set_cons_succ, List.getElem_toArray, List.getElem_cons_succ, List.getElem_cons_zero]; go_big_quiet_on)
      (go_big_quiet_want; refine quiet_load_mid 189 _ rfl _ _ rfl _ _ (fun w' hw' => by rw [hw']; exact H5.out.drew.range) Tryz.underlying189 rfl hszk2 ?_; simp only [Act.put, List.setIfInBounds_toArray, List.set_cons_zero, List.set_cons_succ, List.getElem_toArray, List.getElem_cons_succ, List.getElem_cons_zero]; go_big_quiet_on)
      iterate 6 (go_big_quiet_step (fail))
      go_big_quiet_want
      refine quiet_cut 26 _ _ _ rfl p (k * 64) ((k + 1) * 64) cap HCUT.out wr ((zs.map v8)) (HA.out.below HB.out) (by simp only [List.length_map]; rw [← Hlen.out]; exact hc) (fun p' hA' => ?_)
      simp only [Act.put, List.setIfInBounds_toArray, List.set_cons_zero, List.set_cons_succ, List.getElem_toArray, List.getElem_cons_succ, List.getElem_cons_zero]
      rw [part_map] at hA'
      obtain ⟨bb, off, rfl, hcc⟩ := hA'.addr (by simp [HP.out])
      go_big_quiet_on
      (go_big_quiet_want; refine quiet_array 193 _ rfl 5 64 _ _ _ Tryz.underlying193 (by omega) rfl ?_; simp only [Act.put, List.setIfInBounds_toArray, List.set_cons_zero, List.set_cons_succ, List.getElem_toArray, List.getElem_cons_succ, List.getElem_cons_zero]; go_big_quiet_on)
      (go_big_quiet_want; refine quiet_load_mid 193 _ rfl _ _ rfl _ _ (fun w' hw' => by rw [hw']; exact hA'.drew.range) Tryz.underlying193 rfl hsz62 ?_; simp only [Act.put, List.setIfInBounds_toArray, List.set_cons_zero, List.set_cons_succ, List.getElem_toArray, List.getElem_cons_succ, List.getElem_cons_zero]; go_big_quiet_on)
      refine wpQuiet_nil ?_
      obtain ⟨wd, hwd⟩ : ∃ wd, wd = wr.drew := ⟨_, rfl⟩
      rw [← hwd]
      have d0 : Hid (Blk wd w.heap.size ((thru s kList zs k).map v32) 153) := by rw [hwd]; exact H0.out.drew
      have d1 : Hid (Blk wd (w.heap.size + 1) (zeros8.map v32) 153) := by rw [hwd]; exact H1.out.drew
      have d5 : Hid (Blk wd g5 (kList.map v32) 189) := by rw [hwd]; exact H5.out.drew
      have db : Hid (Below w.heap.size w wd) := by rw [hwd]; exact HB.out.drew
      clear hwd hA' hcc
      go_wp2_with (first
        | (go_at_call 142; refine (behind_any _ _ _ _ (by rw [thru_length, Hs.out]) kList_length HP.out HPZ.out).mono ?_; rintro e w3 ⟨rfl, hb3⟩)
        | (refine wpList_store_row rfl 153 _ _ rfl _ _ rfl rfl _ _ (d0.out.below hb3 d0.out.lt) hszb (by simp [thru_length, behindOf_length]) (one32 _) ?_))
      go_roundw
      case rel =>
        have e1 := d0.out.below hb3 d0.out.lt
        have e2 := d1.out.below hb3 d1.out.lt
        have e5 := d5.out.below hb3 d5.out.lt
        refine ⟨k + 1, by omega, by go_num, Below.setRow (db.out.trans (hb3.mono db.out.size)) (by omega) _, ?_, e2.rowOther _ (by omega), e5.rowOther _ (by omega)⟩
        rw [thru_succ]
        exact e1.row _
      case measure => simp [intOf]; omega
    · obtain rfl : k = n := by omega
      have hsz2 : (Tryz.prog.info? 153).map (fun i => i.size) = some ((thru s kList zs k).map v32).toArray.size := by rw [size44]; simp [thru_length, Hs.out]
      go_wp2_with (first
        | (refine wpList_load_row rfl 153 _ rfl _ rfl _ _ _ _ H0.out (Tryz.underlying153) rfl hsz2 ?_)
        | (refine wpList_store_row rfl 153 _ _ rfl _ _ rfl rfl _ _ H1.out hsz2 (by simp [zeros8_length, thru_length, Hs.out]) (one32 _) ?_))
      refine bodyPost_ret (v := .agg ((thru s kList zs k).map v32).toArray) ?_ rfl ⟨rfl, Below.setRow HB.out (by omega) _⟩
      exact results_cell_row rfl _ _ _ _ _ _ _ rfl (H1.out.row _) (Tryz.underlying153) rfl hsz2
end
section
set_option linter.unusedSimpArgs false
set_option linter.unusedVariables false
open Go.RowKit Sha
theorem info26 : (Tryz.prog.info? 25).map (fun i => i.zero) = some (some (.agg (zero32.map v8).toArray)) := by kernel_rfl
theorem size26 : (Tryz.prog.info? 25).map (fun i => i.size) = some 32 := by kernel_rfl
theorem one8 (l : List Int) : (l.map v8).toArray.all (·.oneCell') = true := by simp [Value.oneCell']
theorem zero32_length : zero32.length = 32 := by unfold zero32; rfl
set_option maxRecDepth 100000 in
set_option maxHeartbeats 2000000 in
theorem tell_any (s : List W) (w : World) (hs : s.length = 8) :
    Calls Tryz.prog 111 #[.agg (s.map v32).toArray] w fun e w' => e = .returned (.agg ((tellUpto s 32).map v8).toArray) ∧ Below w.heap.size w w' := by
  have Hs := Lib.hid hs
  clear hs
  go_enter Tryz.func111, Tryz.ntmps111
  go_wp2_with (first
    | (refine wpList_box_arr rfl 153 _ rfl _ rfl ?_)
    | (refine wpList_alloc_arr rfl 25 rfl _ info26 ?_))
  have f0 := ((Blk.new w (s.map v32).toArray 153).old (Obj.cells (zero32.map v8).toArray 25)).old (Obj.cells (zero32.map v8).toArray 25)
  have f1 := (Blk.new (w.alloc (Obj.cells (s.map v32).toArray 153)) (zero32.map v8).toArray 25).old (Obj.cells (zero32.map v8).toArray 25)
  have f2 := Blk.new ((w.alloc (Obj.cells (s.map v32).toArray 153)).alloc (Obj.cells (zero32.map v8).toArray 25)) (zero32.map v8).toArray 25
  have b3 := (((Below.refl w.heap.size w).alloc (by simp) (Obj.cells (s.map v32).toArray 153)).alloc (by simp) (Obj.cells (zero32.map v8).toArray 25)).alloc (by simp; omega) (Obj.cells (zero32.map v8).toArray 25)
  generalize (((w.alloc (Obj.cells (s.map v32).toArray 153)).alloc (Obj.cells (zero32.map v8).toArray 25)).alloc (Obj.cells (zero32.map v8).toArray 25)) = w3 at *
  simp only [World.size_alloc] at f0 f1 f2
  go_loopw [5] (fun i wr => ∃ k : Nat, k ≤ 32 ∧ i = .int .i64 k ∧ Below w.heap.size w wr ∧ Blk wr w.heap.size (s.map v32) 153 ∧ Blk wr (w.heap.size + 1) (zero32.map v8) 25 ∧ Blk wr (w.heap.size + 1 + 1) ((tellUpto s k).map v8) 25) (fun i _ => 32 - (intOf i).toNat)
  case atStart => exact ⟨0, by omega, rfl, b3, f0, f1, by rw [tellUpto_zero]; exact f2⟩
  case round =>
    clear b3 f0 f1 f2
    obtain ⟨k, hk, rfl, hb, h0, h1, h2⟩ := hrel
    have H0 := Lib.hid h0
    have H1 := Lib.hid h1
    have H2 := Lib.hid h2
    clear h0 h1 h2
    by_cases hlt : k < 32
    · obtain ⟨x, hx⟩ : ∃ x, x = s.getD (k / 4) 0 := ⟨_, rfl⟩
      have c0 : wr.cell? ⟨w.heap.size, k / 4, none⟩ = some (v32 x) := by
        rw [H0.out.cell, List.getElem?_map, List.getElem?_eq_getElem (by rw [Hs.out]; omega), hx]; simp [Hs.out, show k / 4 < 8 by omega]
      have c2 : wr.cell? ⟨w.heap.size + 1 + 1, k, none⟩ = some (v8 ((tellUpto s k).getD k 0)) := by
        rw [H2.out.cell, List.getElem?_map, List.getElem?_eq_getElem (by rw [tellUpto_length]; omega)]; simp [tellUpto_length, hlt]
      have cf : wr.frozen? ⟨w.heap.size + 1 + 1, k, none⟩ = false := H2.out.free _
      have HX := Lib.hid hx
      clear hx
      have y0 : (0 : Int) ≤ 24 - 8 * ((k : Int) % 4) := by omega
      have y1 : 24 - 8 * ((k : Int) % 4) ≤ (32 : Int) := by omega
      have y2 : 8 * ((k : Int) % 4) ≤ (24 : Int) := by omega
      go_wp2_with fail
      go_roundw
      case rel =>
        refine ⟨k + 1, by omega, by go_num, hb.setCell (by simp; omega) _, H0.out.setOther _ _ (by simp; omega), H1.out.setOther _ _ (by simp), ?_⟩
        rw [tellUpto_succ s k (U x / 2 ^ (24 - 8 * (k % 4)) % 256) (by rw [HX.out]; rfl)]
        exact H2.out.set _ _
      case measure => simp [intOf]; omega
    · obtain rfl : k = 32 := by omega
      have hsz2 : (Tryz.prog.info? 25).map (fun i => i.size) = some ((tellUpto s 32).map v8).toArray.size := by rw [size26]; simp [tellUpto_length]
      go_wp2_with (first
        | (refine wpList_load_row rfl 25 _ rfl _ rfl _ _ _ _ H2.out (Tryz.underlying25) rfl hsz2 ?_)
        | (refine wpList_store_row rfl 25 _ _ rfl _ _ rfl rfl _ _ H1.out hsz2 (by simp [zero32_length, tellUpto_length]) (one8 _) ?_))
      refine bodyPost_ret (v := .agg ((tellUpto s 32).map v8).toArray) ?_ rfl ⟨rfl, Below.setRow hb (by omega) _⟩
      exact results_cell_row rfl _ _ _ _ _ _ _ rfl (H1.out.row _) (Tryz.underlying25) rfl hsz2
theorem byte_info : (Tryz.prog.info? 5).map (fun i => (i.zero, i.size, i.bytes)) = some (some (.int .u8 0), 1, 1) := by kernel_rfl
theorem one8l (l : List Int) : ∀ u ∈ l.map v8, u.oneCell' = true := by simp [Value.oneCell']
set_option maxRecDepth 100000 in
set_option maxHeartbeats 2000000 in
theorem ending_any (zs : List Int) (N : Int) (p : Option Addr) (cap : Nat) (w : World) (hl : zs.length < 64) (hA : At w p (zs.map v8)) (hc : zs.length ≤ cap) (hp : p = none → cap = 0) (hN : 0 ≤ N ∧ N ≤ 18446744073709551615) :
    Calls Tryz.prog 112 #[.slice p zs.length cap, .int .u64 N] w
      fun e w' => ∃ v, e = .returned v ∧ w'.ownsRow w.heap.size 5 1 v (ending zs N).length ((ending zs N).map v8) ∧ Below w.heap.size w w' := by
  obtain ⟨i0, hi, hz0, hz1, hz2⟩ := info_parts byte_info
  obtain ⟨len, hlen⟩ : ∃ n, n = zs.length := ⟨_, rfl⟩
  rw [← hlen] at hc hl ⊢
  have Hlen := Lib.hid hlen
  have HA := Lib.hid hA
  clear hlen hA
  go_enter Tryz.func112, Tryz.ntmps112
  go_wp2_with (first
    | (at_make; refine wpList_make_own _ rfl _ _ 26 rfl w.heap.size 5 i0 (.int .u8 0) 1 Tryz.underlying26 hi hz0 hz1 .i64 .i64 128 128 rfl rfl (by omega) (by rw [hz2]; decide) (by decide) (Nat.le_refl _) ?_; intro w1 hown1 hgrow1; have hb1 : Below w.heap.size w w1 := (Below.refl _ _).grown hgrow1 (Nat.le_refl _) (by simp))
    | (at_builtin; refine wpList_app rfl (.tmp 7) (.tmp 8) 26 rfl w.heap.size 5 Tryz.underlying26 byte_info rfl _ _ _ rfl hown1 p len cap (zs.map v8) rfl (HA.out.below hb1) (by simp [Hlen.out]) hp hc (one8l _) (by omega) (by unfold maxLen; omega) hb1.size ?_; intro v2 w2 hown2 _ hb2 hs2 _; simp only [Nat.zero_add, List.nil_append] at hown2)
    | (at_builtin; refine wpList_app rfl (.tmp 10) (.tmp 11) 26 rfl w.heap.size 5 Tryz.underlying26 byte_info rfl _ _ _ rfl (hown2.alloc _) _ 1 1 [v8 128] rfl (at_one _ _ _) rfl (by simp) (Nat.le_refl _) (one8l [128]) (by omega) (by unfold maxLen; omega) (by simp; omega) ?_; intro v3 w3 hown3 _ hb3 hs3 _))
  have hb4 : Below w.heap.size w w3 := (hb1.trans (hb2.alloc hs2 _)).trans hb3
  have hown4 : w3.ownsRow w.heap.size 5 1 v3 (len + 1) ((zs ++ [128]).map v8) := by simpa using hown3
  clear hown1 hgrow1 hb1 hb2 hs2 hown2 hown3 hb3
  go_loopw [5] (fun v wr => ∃ k : Nat, k ≤ noughts len ∧ wr.ownsRow w.heap.size 5 1 v (len + 1 + k) ((zs ++ [128] ++ List.replicate k 0).map v8) ∧ Below w.heap.size w wr ∧ w.heap.size ≤ wr.heap.size) (fun v _ => 128 - lenOf v)
  case atStart => exact ⟨0, by omega, by simpa using hown4, hb4, hs3⟩
  case round =>
    clear hown4 hb4 hs3
    obtain ⟨k, hk, hown, hb, hs⟩ := hrel
    obtain ⟨g, c, rfl, hg, hmc, hcm, hgs⟩ := own_form hown (by omega)
    have HK := Lib.hid hk
    have hle := noughts_le len hl
    have n1 := noughts_lt len k hl
    have n2 := noughts_eq len hl
    obtain ⟨m, hm⟩ : ∃ m, m = len + 1 + k := ⟨_, rfl⟩
    rw [← hm] at hown hmc n1 ⊢
    have hmle : m ≤ 120 := by omega
    have hm1 : 1 ≤ m := by omega
    have HM := Lib.hid hm
    by_cases hlt : k < noughts len
    · have t1 : (((m : Int) % 64) != 56) = true := by rw [bne_iff_ne]; have := n1 hlt; omega
      have t2 : (((m : Int) % 64) == 56) = false := by rw [beq_eq_false_iff_ne]; have := n1 hlt; omega
      have HO := Lib.hid hown
      clear hown hm n1 n2 hk hle
      go_wp2_with (at_builtin; refine wpList_app rfl (.tmp 17) (.tmp 18) 26 rfl w.heap.size 5 Tryz.underlying26 byte_info rfl _ _ _ rfl (HO.out.alloc _) _ 1 1 [v8 0] rfl (at_one _ _ _) rfl (by simp) (Nat.le_refl _) (one8l [0]) (by omega) (by unfold maxLen; omega) (by simp; omega) ?_; intro v3 w3 hown3 _ hb3 hs3 _)
      have hown5 : w3.ownsRow w.heap.size 5 1 v3 (len + 1 + (k + 1)) ((zs ++ [128] ++ List.replicate (k + 1) 0).map v8) := by
        rw [HM.out] at hown3
        rw [List.replicate_succ', show len + 1 + (k + 1) = len + 1 + k + 1 by omega]; simpa using hown3
      go_roundw
      case rel => exact ⟨k + 1, by omega, hown5, (hb.alloc hs _).trans hb3, hs3⟩
      case measure =>
        obtain ⟨g', c', rfl, _⟩ := own_form hown5 (by omega)
        have := HM.out
        simp [lenOf]; omega
    · have hkn : k = noughts len := by omega
      have t1 : (((m : Int) % 64) != 56) = false := by rw [bne_eq_false_iff_eq]; rw [hkn] at hm; omega
      have t2 : (((m : Int) % 64) == 56) = true := by rw [beq_iff_eq]; rw [hkn] at hm; omega
      have HO : Hid (wr.ownsRow w.heap.size 5 1 (.slice (some ⟨g, 0, none⟩) m c) m ((zs ++ [128] ++ List.replicate (noughts len) 0).map v8)) := by rw [← hkn]; exact hown
      clear hown hm n1 n2 hk hle hkn HK HM
      go_wp2_with fail
      obtain ⟨base, hbase⟩ : ∃ l, l = zs ++ [128] ++ List.replicate (noughts len) 0 := ⟨_, rfl⟩
      rw [← hbase] at HO
      have HB := Lib.hid hbase
      clear hbase
      go_loopw [5, 20] (fun v i wr => ∃ k : Nat, k ≤ 8 ∧ i = .int .i64 k ∧ wr.ownsRow w.heap.size 5 1 v (m + k) ((base ++ lenUpto N k).map v8) ∧ Below w.heap.size w wr ∧ w.heap.size ≤ wr.heap.size) (fun _ i _ => 8 - (intOf i).toNat)
      case atStart => exact ⟨0, by omega, rfl, by rw [lenUpto_zero, List.append_nil]; exact HO.out, hb, hs⟩
      case round =>
        clear HO hb hs hg hgs hmc
        obtain ⟨k, hk, rfl, hown, hb, hs⟩ := hrel
        obtain ⟨g, c, rfl, hg, hmc, hcm, hgs⟩ := own_form hown (by omega)
        have HO := Lib.hid hown
        clear hown
        by_cases hlt : k < 8
        · have y0 : (0 : Int) ≤ 56 - 8 * (k : Int) := by omega
          have y1 : 56 - 8 * (k : Int) ≤ (64 : Int) := by omega
          have y2 : 8 * (k : Int) ≤ (56 : Int) := by omega
          go_wp2_with (at_builtin; refine wpList_app rfl (.tmp 23) (.tmp 31) 26 rfl w.heap.size 5 Tryz.underlying26 byte_info rfl _ _ _ rfl (HO.out.alloc _) _ 1 1 [_] rfl (at_one _ _ _) rfl (by simp) (Nat.le_refl _) (by simp [Value.oneCell']) (by omega) (by unfold maxLen; omega) (by simp; omega) ?_; intro v3 w3 hown3 _ hb3 hs3 _)
          have hown5 : w3.ownsRow w.heap.size 5 1 v3 (m + (k + 1)) ((base ++ lenUpto N (k + 1)).map v8) := by
            rw [lenUpto_succ]; simpa [lenByte, Nat.add_assoc] using hown3
          go_roundw
          case rel => exact ⟨k + 1, by omega, by go_num, hown5, (hb.alloc hs _).trans hb3, hs3⟩
          case measure => simp [intOf]; omega
        · obtain rfl : k = 8 := by omega
          have HL : Hid (m + 8 = (ending zs N).length ∧ base ++ lenUpto N 8 = ending zs N) := by
            have e : base ++ lenUpto N 8 = ending zs N := by rw [HB.out, ending_eq, Hlen.out]
            refine ⟨?_, e⟩
            have := HO.out.1
            rw [e] at this; simpa using this.symm
          go_wp2_with fail
          go_ret
          refine ⟨_, rfl, ?_, hb⟩
          rw [← HL.out.1, ← HL.out.2]
          exact HO.out
end
end Go.Proofs.YtokpabkcaofahaaGreat
