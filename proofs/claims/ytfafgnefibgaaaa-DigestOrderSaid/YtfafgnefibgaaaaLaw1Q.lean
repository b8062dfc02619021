/-
  The law of the order where the first digest is less than the second, that one than the third.
-/
import Derived.Test.YtfafgnefibgaaaaLaw1
namespace Go.Proofs.Ytfafgnefibgaaaa
set_option linter.unusedSimpArgs false
set_option linter.unusedVariables false
open Go.RowKit Sha
set_option maxRecDepth 100000 in
set_option maxHeartbeats 2000000 in
theorem order_p1 (xs ys zs : List Int) (w : World) (hx : xs.length = 32) (hy : ys.length = 32) (hz : zs.length = 32) (bx : Bytes xs) (by_ : Bytes ys) (bz : Bytes zs)
    (hp : less xs ys = true) (hq : less ys xs = false) (hd : decide (xs = ys) = false) (hw : weigh xs ≤ weigh ys) (hr : less ys zs = true) (hs : less xs zs = true) :
    Calls Try.prog 7 #[.agg (xs.map v8).toArray, .agg (ys.map v8).toArray, .agg (zs.map v8).toArray] w fun e w' => e = .returned (.bool true) ∧ Below w.heap.size w w' := by
  have hszx : (Try.prog.info? 26).map (fun i => i.size) = some (xs.map v8).toArray.size := by rw [size26]; simp [hx]
  have hszy : (Try.prog.info? 26).map (fun i => i.size) = some (ys.map v8).toArray.size := by rw [size26]; simp [hy]
  have hszz : (Try.prog.info? 26).map (fun i => i.size) = some (zs.map v8).toArray.size := by rw [size26]; simp [hz]
  have Hx := Lib.hid hx
  have Hy := Lib.hid hy
  have Hz := Lib.hid hz
  have Hp := Lib.hid hp
  have Hq := Lib.hid hq
  have Hd := Lib.hid hd
  have Bx := Lib.hid bx
  have By := Lib.hid by_
  have Bz := Lib.hid bz
  have HT := Lib.hid (text_less xs ys hx hy bx by_)
  clear hx hy hz hp hq hd bx by_ bz
  have Hw := Lib.hid hw
  clear hw
  have Hr := Lib.hid hr
  clear hr
  have Hs := Lib.hid hs
  clear hs
  go_enter Try.func7, Try.ntmps7
  go_wp2_with (first
    | (refine wpList_box_arr rfl 26 _ rfl _ rfl ?_)
    | (go_at_call 8; refine (awake_any _).mono ?_; rintro e w1 ⟨rfl, hb1⟩))
  obtain ⟨w0, hw0⟩ : ∃ w0, w0 = ((w.alloc (Obj.cells (List.map v8 xs).toArray 26)).alloc (Obj.cells (List.map v8 ys).toArray 26)).alloc (Obj.cells (List.map v8 zs).toArray 26) := ⟨_, rfl⟩
  have K0 : Blk w0 w.heap.size (xs.map v8) 26 := by rw [hw0]; simpa using ((Blk.new w (xs.map v8).toArray 26).old (Obj.cells (ys.map v8).toArray 26)).old (Obj.cells (zs.map v8).toArray 26)
  have K1 : Blk w0 (w.heap.size + 1) (ys.map v8) 26 := by rw [hw0]; simpa using (Blk.new (w.alloc (Obj.cells (xs.map v8).toArray 26)) (ys.map v8).toArray 26).old (Obj.cells (zs.map v8).toArray 26)
  have K2 : Blk w0 (w.heap.size + 1 + 1) (zs.map v8) 26 := by rw [hw0]; simpa using Blk.new ((w.alloc (Obj.cells (xs.map v8).toArray 26)).alloc (Obj.cells (ys.map v8).toArray 26)) (zs.map v8).toArray 26
  have KB : Below w.heap.size w w0 := by rw [hw0]; exact (((Below.refl _ _).alloc (by simp) _).alloc (by simp) _).alloc (by simp; omega) _
  rw [← hw0] at hb1
  have M0 := Lib.hid (K0.below hb1 K0.lt)
  have M1 := Lib.hid (K1.below hb1 K1.lt)
  have M2 := Lib.hid (K2.below hb1 K2.lt)
  have MB := Lib.hid (KB.trans (hb1.mono KB.size))
  clear hw0 K0 K1 K2 KB hb1
  refine region_grown (by kernel_rfl) (by kernel_rfl) ?_
  (go_big_quiet_want; refine quiet_load_mid 26 _ rfl _ _ rfl _ _ (fun w' hw' => (M0.out.below hw' M0.out.lt).range) Try.underlying26 rfl (by simpa using hszx) ?_; simp only [Act.put, List.setIfInBounds_toArray, List.set_cons_zero, List.set_cons_succ, List.getElem_toArray, List.getElem_cons_succ, List.getElem_cons_zero]; go_big_quiet_on)
  (go_big_quiet_want; refine quiet_load_mid 26 _ rfl _ _ rfl _ _ (fun w' hw' => (M1.out.below hw' M1.out.lt).range) Try.underlying26 rfl (by simpa using hszy) ?_; simp only [Act.put, List.setIfInBounds_toArray, List.set_cons_zero, List.set_cons_succ, List.getElem_toArray, List.getElem_cons_succ, List.getElem_cons_zero]; go_big_quiet_on)
  (go_big_quiet_want; go_big_quiet_op; refine ⟨_, fun w' hw' => (less_b xs ys true w' Hp.out Hx.out Hy.out Bx.out By.out).mono (fun e w'' ⟨he, hb⟩ => ⟨he, hw'.trans (hb.mono hw'.size)⟩), ?_⟩; go_big_quiet_on)
  (go_big_quiet_want; refine quiet_load_mid 26 _ rfl _ _ rfl _ _ (fun w' hw' => (M1.out.below hw' M1.out.lt).range) Try.underlying26 rfl (by simpa using hszy) ?_; simp only [Act.put, List.setIfInBounds_toArray, List.set_cons_zero, List.set_cons_succ, List.getElem_toArray, List.getElem_cons_succ, List.getElem_cons_zero]; go_big_quiet_on)
  (go_big_quiet_want; refine quiet_load_mid 26 _ rfl _ _ rfl _ _ (fun w' hw' => (M0.out.below hw' M0.out.lt).range) Try.underlying26 rfl (by simpa using hszx) ?_; simp only [Act.put, List.setIfInBounds_toArray, List.set_cons_zero, List.set_cons_succ, List.getElem_toArray, List.getElem_cons_succ, List.getElem_cons_zero]; go_big_quiet_on)
  (go_big_quiet_want; go_big_quiet_op; refine ⟨_, fun w' hw' => (less_b ys xs false w' Hq.out Hy.out Hx.out By.out Bx.out).mono (fun e w'' ⟨he, hb⟩ => ⟨he, hw'.trans (hb.mono hw'.size)⟩), ?_⟩; go_big_quiet_on)
  iterate 2 (go_big_quiet_step (fail))
  refine wpQuiet_nil ?_
  intro w2 hw2
  have N0 := Lib.hid (M0.out.below hw2 M0.out.lt)
  have N1 := Lib.hid (M1.out.below hw2 M1.out.lt)
  have N2 := Lib.hid (M2.out.below hw2 M2.out.lt)
  have NB := Lib.hid (MB.out.trans (hw2.mono MB.out.size))
  clear hw2 M0 M1 M2 MB
  go_wp2_with (first
    | (refine BigFrame.wpList_want rfl (fun K hK => wp_load_row 26 (.tmp 3) rfl _ rfl _ _ _ _ N0.out (Try.underlying26) rfl hszx (hK _ _ ?_)))
    | (refine BigFrame.wpList_want rfl (fun K hK => wp_load_row 26 (.tmp 4) rfl _ rfl _ _ _ _ N1.out (Try.underlying26) rfl hszy (hK _ _ ?_)))
    | (refine BigFrame.wpList_want rfl (fun K hK => wp_load_row 26 (.tmp 5) rfl _ rfl _ _ _ _ N2.out (Try.underlying26) rfl hszz (hK _ _ ?_)))
    | (refine BigFrame.wpList_want rfl (fun K hK => wp_eql_arr 26 (.tmp 22) (.tmp 23) _ rfl 5 32 .u8 Try.underlying26 Try.underlying5 byte1 xs ys rfl rfl Hx.out Hy.out (hK _ _ ?_)); rw [Hd.out]))
  refine (less_b ys zs true _ Hr.out Hy.out Hz.out By.out Bz.out).mono ?_
  rintro e w3 ⟨rfl, hw3⟩
  have O0 := Lib.hid (N0.out.below hw3 N0.out.lt)
  have O1 := Lib.hid (N1.out.below hw3 N1.out.lt)
  have O2 := Lib.hid (N2.out.below hw3 N2.out.lt)
  have OB := Lib.hid (NB.out.trans (hw3.mono NB.out.size))
  clear hw3 N0 N1 N2 NB
  go_wp2_with (first
    | (refine BigFrame.wpList_want rfl (fun K hK => wp_load_row 26 (.tmp 3) rfl _ rfl _ _ _ _ O0.out (Try.underlying26) rfl hszx (hK _ _ ?_)))
    | (refine BigFrame.wpList_want rfl (fun K hK => wp_load_row 26 (.tmp 4) rfl _ rfl _ _ _ _ O1.out (Try.underlying26) rfl hszy (hK _ _ ?_)))
    | (refine BigFrame.wpList_want rfl (fun K hK => wp_load_row 26 (.tmp 5) rfl _ rfl _ _ _ _ O2.out (Try.underlying26) rfl hszz (hK _ _ ?_))))
  refine (less_b xs zs true _ Hs.out Hx.out Hz.out Bx.out Bz.out).mono ?_
  rintro e w4 ⟨rfl, hw4⟩
  have N0 := Lib.hid (O0.out.below hw4 O0.out.lt)
  have N1 := Lib.hid (O1.out.below hw4 O1.out.lt)
  have N2 := Lib.hid (O2.out.below hw4 O2.out.lt)
  have NB := Lib.hid (OB.out.trans (hw4.mono OB.out.size))
  clear hw4 O0 O1 O2 OB
  go_wp2_with fail
  obtain ⟨wz, hwz⟩ : ∃ wz, wz = w4 := ⟨_, rfl⟩
  have hz2 : Below w4.heap.size w4 wz := by rw [hwz]; exact Below.refl _ _
  rw [← hwz]
  clear hwz
  have P0 := Lib.hid (N0.out.below hz2 N0.out.lt)
  have P1 := Lib.hid (N1.out.below hz2 N1.out.lt)
  have PB := Lib.hid (NB.out.trans (hz2.mono NB.out.size))
  have ht : Op.bytesLess (strOfNums (text xs)).toList (strOfNums (text ys)).toList = true := by rw [HT.out, Hp.out]
  clear hz2 N0 N1 N2 NB
  refine region_grown (by kernel_rfl) (by kernel_rfl) ?_
  iterate 5 ((first | go_big_quiet_skip | (go_big_quiet_want; go_big_quiet_op; first | go_big_quiet_on | (refine ⟨_, fun _ _ => rfl, ?_⟩; try go_simp; go_big_quiet_on))))
  (go_big_quiet_want; refine quiet_load_mid 26 _ rfl _ _ rfl _ _ (fun w' hw' => (P0.out.below hw' P0.out.lt).range) Try.underlying26 rfl (by simpa using hszx) ?_; simp only [Act.put, List.setIfInBounds_toArray, List.set_cons_zero, List.set_cons_succ, List.getElem_toArray, List.getElem_cons_succ, List.getElem_cons_zero]; go_big_quiet_on)
  (go_big_quiet_want; go_big_quiet_op; refine ⟨_, fun w' hw' => (weigh_any xs w' Hx.out Bx.out).mono (fun e w'' ⟨he, hb⟩ => ⟨he, hw'.trans (hb.mono hw'.size)⟩), ?_⟩; go_big_quiet_on)
  (go_big_quiet_want; refine quiet_load_mid 26 _ rfl _ _ rfl _ _ (fun w' hw' => (P1.out.below hw' P1.out.lt).range) Try.underlying26 rfl (by simpa using hszy) ?_; simp only [Act.put, List.setIfInBounds_toArray, List.set_cons_zero, List.set_cons_succ, List.getElem_toArray, List.getElem_cons_succ, List.getElem_cons_zero]; go_big_quiet_on)
  (go_big_quiet_want; go_big_quiet_op; refine ⟨_, fun w' hw' => (weigh_any ys w' Hy.out By.out).mono (fun e w'' ⟨he, hb⟩ => ⟨he, hw'.trans (hb.mono hw'.size)⟩), ?_⟩; go_big_quiet_on)
  have hle := Hw.out
  (first | go_big_quiet_skip | (go_big_quiet_want; go_big_quiet_op; first | go_big_quiet_on | (refine ⟨_, fun _ _ => rfl, ?_⟩; try go_simp; go_big_quiet_on)))
  clear hle
  iterate 4 ((first | go_big_quiet_skip | (go_big_quiet_want; go_big_quiet_op; first | go_big_quiet_on | (refine ⟨_, fun _ _ => rfl, ?_⟩; try go_simp; go_big_quiet_on))))
  (go_big_quiet_want; refine quiet_load_mid 26 _ rfl _ _ rfl _ _ (fun w' hw' => (P0.out.below hw' P0.out.lt).range) Try.underlying26 rfl (by simpa using hszx) ?_; simp only [Act.put, List.setIfInBounds_toArray, List.set_cons_zero, List.set_cons_succ, List.getElem_toArray, List.getElem_cons_succ, List.getElem_cons_zero]; go_big_quiet_on)
  (go_big_quiet_want; go_big_quiet_op; refine ⟨_, fun w' hw' => (text_any xs w' Hx.out Bx.out).mono (fun e w'' ⟨he, hb⟩ => ⟨he, hw'.trans (hb.mono hw'.size)⟩), ?_⟩; go_big_quiet_on)
  (go_big_quiet_want; refine quiet_load_mid 26 _ rfl _ _ rfl _ _ (fun w' hw' => (P1.out.below hw' P1.out.lt).range) Try.underlying26 rfl (by simpa using hszy) ?_; simp only [Act.put, List.setIfInBounds_toArray, List.set_cons_zero, List.set_cons_succ, List.getElem_toArray, List.getElem_cons_succ, List.getElem_cons_zero]; go_big_quiet_on)
  (go_big_quiet_want; go_big_quiet_op; refine ⟨_, fun w' hw' => (text_any ys w' Hy.out By.out).mono (fun e w'' ⟨he, hb⟩ => ⟨he, hw'.trans (hb.mono hw'.size)⟩), ?_⟩; go_big_quiet_on)
  iterate 4 ((first | go_big_quiet_skip | (go_big_quiet_want; go_big_quiet_op; first | go_big_quiet_on | (refine ⟨_, fun _ _ => rfl, ?_⟩; try go_simp; go_big_quiet_on))))
  refine wpQuiet_nil ?_
  intro w9 hw9
  go_wp2_with fail
  go_ret
  exact ⟨rfl, PB.out.trans (hw9.mono PB.out.size)⟩
end Go.Proofs.Ytfafgnefibgaaaa
