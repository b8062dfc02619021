/-
  The contract of through: the state behind all blocks.
-/
import Derived.Test.YtpbdajgbahnbjaaShaC
import Derived.Test.YtpbdajgbahnbjaaSl
namespace Go.Proofs.Ytpbdajgbahnbjaa
set_option linter.unusedSimpArgs false
set_option linter.unusedVariables false
open Go.RowKit Sha
theorem kList_length : kList.length = 64 := by unfold kList; rfl
theorem slice1 : (Try.prog.info? 5).map (fun i => i.size) = some 1 := by kernel_rfl
set_option maxRecDepth 100000 in
set_option maxHeartbeats 2000000 in
theorem through_any (s : List W) (zs : List Int) (p : Option Addr) (cap : Nat) (w : World) (hs : s.length = 8) (hz : ∀ n ∈ zs, 0 ≤ n ∧ n ≤ 255) (hA : At w p (zs.map v8)) (hc : zs.length ≤ cap) (hm : cap ≤ 9223372036854775807) :
    Calls Try.prog 24 #[.agg (s.map v32).toArray, .slice p zs.length cap] w
      fun e w' => e = .returned (.agg ((thru s kList zs (zs.length / 64)).map v32).toArray) ∧ Below w.heap.size w w' := by
  have Hs := Lib.hid hs
  clear hs
  obtain ⟨len, hlen⟩ : ∃ n, n = zs.length := ⟨_, rfl⟩
  rw [← hlen] at hc ⊢
  have Hlen := Lib.hid hlen
  clear hlen
  obtain ⟨n, hn⟩ : ∃ n, n = len / 64 := ⟨_, rfl⟩
  have hn1 : n * 64 ≤ len := by omega
  have hn2 : ((len : Int) / 64) = (n : Int) := by omega
  rw [← hn]
  clear hn
  go_enter Try.func24, Try.ntmps24
  have lk : (kList.map v32).toArray.size = 64 := by kernel_rfl
  have hszk : (Try.prog.info? 59).map (fun i => i.size) = some (kList.map v32).toArray.size := by rw [size59, lk]
  have LK := Lib.hid lk
  clear lk
  go_wp2_with (first
    | (refine wpList_box_arr rfl 44 _ rfl _ rfl ?_)
    | (refine wpList_alloc_arr rfl 44 rfl _ info44 ?_)
    | (refine wpList_alloc_arr rfl 59 rfl _ (info59 []) ?_)
    | (refine wpList_store_row rfl 59 _ _ rfl _ _ rfl rfl _ _ (Blk.new _ _ _) hszk (by rw [LK.out]; simp [fill_length]) (one32 _) ?_)
    | (go_at_call 35; refine (constants_any _).mono ?_; rintro e w1 ⟨rfl, hb1⟩))
  clear hn2
  obtain ⟨g5, hg5⟩ : ∃ g, g = w1.heap.size := ⟨_, rfl⟩
  have b1 : Below w.heap.size w w1 := (((Below.refl _ _).alloc (by simp) _).alloc (by simp) _).trans (hb1.mono (by simp; omega))
  have k0 : Blk w1 w.heap.size (s.map v32) 44 := by
    have := ((Blk.new w (s.map v32).toArray 44).old (Obj.cells (zeros8.map v32).toArray 44)).below hb1 (by simp; omega)
    simpa using this
  have k1 : Blk w1 (w.heap.size + 1) (zeros8.map v32) 44 := by
    have := (Blk.new (w.alloc (Obj.cells (s.map v32).toArray 44)) (zeros8.map v32).toArray 44).below hb1 (by simp)
    simpa using this
  have z1 : w.heap.size + 1 + 1 ≤ w1.heap.size := by have := hb1.size; simpa using this
  have W0 : Below w.heap.size w ((w1.alloc (Obj.cells (List.map v32 (fill [] 0)).toArray 59)).setRow w1.heap.size (List.map v32 kList).toArray) :=
    Below.setRow (b1.alloc (by omega) _) (by omega) _
  have W1 : Blk ((w1.alloc (Obj.cells (List.map v32 (fill [] 0)).toArray 59)).setRow w1.heap.size (List.map v32 kList).toArray) w.heap.size (s.map v32) 44 := (k0.old _).rowOther _ (by omega)
  have W2 : Blk ((w1.alloc (Obj.cells (List.map v32 (fill [] 0)).toArray 59)).setRow w1.heap.size (List.map v32 kList).toArray) (w.heap.size + 1) (zeros8.map v32) 44 := (k1.old _).rowOther _ (by omega)
  have W3 : Blk ((w1.alloc (Obj.cells (List.map v32 (fill [] 0)).toArray 59)).setRow w1.heap.size (List.map v32 kList).toArray) g5 (kList.map v32) 59 := by rw [hg5]; exact (Blk.new _ _ _).row _
  rw [← hg5] at W0 W1 W2 W3 z1
  rw [← hg5]
  generalize ((w1.alloc (Obj.cells (List.map v32 (fill [] 0)).toArray 59)).setRow g5 (List.map v32 kList).toArray) = w2 at *
  clear hb1 b1 k0 k1 hg5
  go_loopw [11] (fun i wr => ∃ k : Nat, k ≤ n ∧ i = .int .i64 k ∧ Below w.heap.size w wr ∧ Blk wr w.heap.size ((thru s kList zs k).map v32) 44 ∧ Blk wr (w.heap.size + 1) (zeros8.map v32) 44 ∧ Blk wr g5 (kList.map v32) 59) (fun i _ => n - (intOf i).toNat)
  case atStart => exact ⟨0, by omega, rfl, W0, by rw [thru_zero]; exact W1, W2, W3⟩
  case round =>
    clear W0 W1 W2 W3
    obtain ⟨k, hk, rfl, hb, h0, h1, h5⟩ := hrel
    have H0 := Lib.hid h0
    have H1 := Lib.hid h1
    have H5 := Lib.hid h5
    have HA := Lib.hid hA
    have HB := Lib.hid hb
    clear h0 h1 h5 hA hb
    by_cases hlt : k < n
    · have hpl : (Sha.part zs k).length = 64 := part_length zs k (by rw [← Hlen.out]; omega)
      have hpz : ∀ m ∈ Sha.part zs k, 0 ≤ m ∧ m ≤ 255 := part_mem zs k _ hz
      have hsz62 : (Try.prog.info? 62).map (fun i => i.size) = some ((Sha.part zs k).map v8).length := by rw [size62]; simp [hpl]
      have hsz44 : (Try.prog.info? 44).map (fun i => i.size) = some ((thru s kList zs k).map v32).length := by rw [size44]; simp [thru_length, Hs.out]
      have hszb : (Try.prog.info? 44).map (fun i => i.size) = some ((behindOf (thru s kList zs k) kList (Sha.part zs k)).map v32).toArray.size := by rw [size44]; simp [behindOf_length, thru_length, Hs.out]
      have hszk2 : (Try.prog.info? 59).map (fun i => i.size) = some (kList.map v32).length := hszk
      have HP := Lib.hid hpl
      have HZ := Lib.hid hz
      have HPZ := Lib.hid hpz
      have HCUT : Hid (∀ w, (Instr.sliceAt 22 (.slice p len cap) (some (.int .i64 ((k : Int) * 64))) (some (.int .i64 (((k : Int) + 1) * 64))) none).run Try.prog w = .ok (cutV p (k * 64) ((k + 1) * 64) cap) w) := fun w => by
        have := run_cut_lh (P := Try.prog) 22 5 p len cap Try.underlying22 slice1 .i64 .i64 ((k : Int) * 64) (((k : Int) + 1) * 64) (by omega) (by omega) (by omega) w
        rwa [show ((k : Int) * 64).toNat = k * 64 by omega, show (((k : Int) + 1) * 64).toNat = (k + 1) * 64 by omega] at this
      clear hpl hz hpz
      go_wp2_with fail
      refine region_tail 11 (by kernel_rfl) (by kernel_rfl) ?_
      simp only [List.take_succ_cons, List.take_zero, List.drop_succ_cons, List.drop_zero]
      (go_big_quiet_want; refine quiet_load_mid 44 _ rfl _ _ rfl _ _ (fun w' hw' => by rw [hw']; exact H0.out.drew.range) Try.underlying44 rfl hsz44 ?_; simp only [Act.put, List.setIfInBounds_toArray, List.set_cons_zero, List.set_cons_succ, List.getElem_toArray, List.getElem_cons_succ, List.getElem_cons_zero]; go_big_quiet_on)
      (go_big_quiet_want; refine quiet_load_mid 59 _ rfl _ _ rfl _ _ (fun w' hw' => by rw [hw']; exact H5.out.drew.range) Try.underlying59 rfl hszk2 ?_; simp only [Act.put, List.setIfInBounds_toArray, List.set_cons_zero, List.set_cons_succ, List.getElem_toArray, List.getElem_cons_succ, List.getElem_cons_zero]; go_big_quiet_on)
      iterate 6 (go_big_quiet_step (fail))
      go_big_quiet_want
      refine quiet_cut 22 _ _ _ rfl p (k * 64) ((k + 1) * 64) cap HCUT.out wr ((zs.map v8)) (HA.out.below HB.out) (by simp only [List.length_map]; rw [← Hlen.out]; exact hc) (fun p' hA' => ?_)
      simp only [Act.put, List.setIfInBounds_toArray, List.set_cons_zero, List.set_cons_succ, List.getElem_toArray, List.getElem_cons_succ, List.getElem_cons_zero]
      rw [part_map] at hA'
      obtain ⟨bb, off, rfl, hcc⟩ := hA'.addr (by simp [HP.out])
      go_big_quiet_on
      (go_big_quiet_want; refine quiet_array 62 _ rfl 5 64 _ _ _ Try.underlying62 (by omega) rfl ?_; simp only [Act.put, List.setIfInBounds_toArray, List.set_cons_zero, List.set_cons_succ, List.getElem_toArray, List.getElem_cons_succ, List.getElem_cons_zero]; go_big_quiet_on)
      (go_big_quiet_want; refine quiet_load_mid 62 _ rfl _ _ rfl _ _ (fun w' hw' => by rw [hw']; exact hA'.drew.range) Try.underlying62 rfl hsz62 ?_; simp only [Act.put, List.setIfInBounds_toArray, List.set_cons_zero, List.set_cons_succ, List.getElem_toArray, List.getElem_cons_succ, List.getElem_cons_zero]; go_big_quiet_on)
      refine wpQuiet_nil ?_
      obtain ⟨wd, hwd⟩ : ∃ wd, wd = wr.drew := ⟨_, rfl⟩
      rw [← hwd]
      have d0 : Hid (Blk wd w.heap.size ((thru s kList zs k).map v32) 44) := by rw [hwd]; exact H0.out.drew
      have d1 : Hid (Blk wd (w.heap.size + 1) (zeros8.map v32) 44) := by rw [hwd]; exact H1.out.drew
      have d5 : Hid (Blk wd g5 (kList.map v32) 59) := by rw [hwd]; exact H5.out.drew
      have db : Hid (Below w.heap.size w wd) := by rw [hwd]; exact HB.out.drew
      clear hwd hA' hcc
      go_wp2_with (first
        | (go_at_call 36; refine (behind_any _ _ _ _ (by rw [thru_length, Hs.out]) kList_length HP.out HPZ.out).mono ?_; rintro e w3 ⟨rfl, hb3⟩)
        | (refine wpList_store_row rfl 44 _ _ rfl _ _ rfl rfl _ _ (d0.out.below hb3 d0.out.lt) hszb (by simp [thru_length, behindOf_length]) (one32 _) ?_))
      go_roundw
      case rel =>
        have e1 := d0.out.below hb3 d0.out.lt
        have e2 := d1.out.below hb3 d1.out.lt
        have e5 := d5.out.below hb3 d5.out.lt
        refine ⟨k + 1, by omega, by go_num, Below.setRow (db.out.trans (hb3.mono db.out.size)) (by omega) _, ?_, e2.rowOther _ (by omega), e5.rowOther _ (by omega)⟩
        rw [thru_succ]
        exact e1.row _
      case measure => simp [intOf]; omega
    · obtain rfl : k = n := by omega
      have hsz2 : (Try.prog.info? 44).map (fun i => i.size) = some ((thru s kList zs k).map v32).toArray.size := by rw [size44]; simp [thru_length, Hs.out]
      go_wp2_with (first
        | (refine wpList_load_row rfl 44 _ rfl _ rfl _ _ _ _ H0.out (Try.underlying44) rfl hsz2 ?_)
        | (refine wpList_store_row rfl 44 _ _ rfl _ _ rfl rfl _ _ H1.out hsz2 (by simp [zeros8_length, thru_length, Hs.out]) (one32 _) ?_))
      refine bodyPost_ret (v := .agg ((thru s kList zs k).map v32).toArray) ?_ rfl ⟨rfl, Below.setRow HB.out (by omega) _⟩
      exact results_cell_row rfl _ _ _ _ _ _ _ rfl (H1.out.row _) (Try.underlying44) rfl hsz2
end Go.Proofs.Ytpbdajgbahnbjaa
