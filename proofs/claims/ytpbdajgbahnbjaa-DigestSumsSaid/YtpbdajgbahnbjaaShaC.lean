/-
  The contract of behind: the state behind one block.
-/
import Derived.Test.YtpbdajgbahnbjaaShaB
import Derived.Deep.DeepCutAuto
namespace Go.Proofs.Ytpbdajgbahnbjaa
set_option linter.unusedSimpArgs false
set_option linter.unusedVariables false
open Go.RowKit Sha
attribute [local go_sem] U_and U_or U_xor U_add U_shl8 U_shr3 U_shr10 U_not U_notmax U_or_int
/-- What holds at the head of each of the 64 rounds. -/
def AtRound (ks ws : List W) (r0 : R8) (wc : World) (v9 v10 v11 v12 v13 v14 v15 v16 i : Value) (wr : World) : Prop :=
  ∃ (k : Nat) (a b c d e f g h : W), k ≤ 64 ∧ i = .int .i64 k ∧ v9 = v32 a ∧ v10 = v32 b ∧ v11 = v32 c ∧ v12 = v32 d ∧ v13 = v32 e ∧ v14 = v32 f ∧ v15 = v32 g ∧ v16 = v32 h ∧ Hid (rounds ks ws r0 k = ⟨a, b, c, d, e, f, g, h⟩) ∧ Hid (∃ n, wr = wc.drewN n)
theorem words_blk (zs : List Int) (w : World) (hl : zs.length = 64) (hz : ∀ n ∈ zs, 0 ≤ n ∧ n ≤ 255) :
    Calls Try.prog 39 #[.agg (zs.map v8).toArray] w fun e w' => e = .returned (.agg ((wordsOf zs).map v32).toArray) ∧ Below w.heap.size w w' := words_any zs w hl hz
set_option maxRecDepth 100000 in
set_option maxHeartbeats 2000000 in
theorem behind_any (s ks : List W) (zs : List Int) (w : World) (hs : s.length = 8) (hk : ks.length = 64) (hl : zs.length = 64) (hz : ∀ n ∈ zs, 0 ≤ n ∧ n ≤ 255) :
    Calls Try.prog 36 #[.agg (s.map v32).toArray, .agg (ks.map v32).toArray, .agg (zs.map v8).toArray] w
      fun e w' => e = .returned (.agg ((behindOf s ks zs).map v32).toArray) ∧ Below w.heap.size w w' := by
  have Hs := Lib.hid hs
  have Hk := Lib.hid hk
  have Hl := Lib.hid hl
  clear hs hk hl
  go_enter Try.func36, Try.ntmps36
  go_upto_region 1 with (first | (refine wpList_box_arr rfl 44 _ rfl _ rfl ?_) | (refine wpList_box_arr rfl 59 _ rfl _ rfl ?_) | (refine wpList_box_arr rfl 62 _ rfl _ rfl ?_) | (refine wpList_alloc_arr rfl 44 rfl _ info44 ?_))
  simp only [Act.put, List.setIfInBounds_toArray, List.set_cons_zero, List.set_cons_succ, World.size_alloc]
  have f0 := ((Blk.new w (s.map v32).toArray 44).old (Obj.cells (ks.map v32).toArray 59)).old (Obj.cells (zs.map v8).toArray 62) |>.old (Obj.cells (zeros8.map v32).toArray 44)
  have f1 := ((Blk.new (w.alloc (Obj.cells (s.map v32).toArray 44)) (ks.map v32).toArray 59).old (Obj.cells (zs.map v8).toArray 62)).old (Obj.cells (zeros8.map v32).toArray 44)
  have f2 := ((Blk.new ((w.alloc (Obj.cells (s.map v32).toArray 44)).alloc (Obj.cells (ks.map v32).toArray 59)) (zs.map v8).toArray 62).old (Obj.cells (zeros8.map v32).toArray 44))
  have f3 := Blk.new (((w.alloc (Obj.cells (s.map v32).toArray 44)).alloc (Obj.cells (ks.map v32).toArray 59)).alloc (Obj.cells (zs.map v8).toArray 62)) (zeros8.map v32).toArray 44
  have b4 := ((((Below.refl w.heap.size w).alloc (by simp) (Obj.cells (s.map v32).toArray 44)).alloc (by simp) (Obj.cells (ks.map v32).toArray 59)).alloc (by simp; omega) (Obj.cells (zs.map v8).toArray 62)).alloc (by simp; omega) (Obj.cells (zeros8.map v32).toArray 44)
  have z4 : ((((w.alloc (Obj.cells (s.map v32).toArray 44)).alloc (Obj.cells (ks.map v32).toArray 59)).alloc (Obj.cells (zs.map v8).toArray 62)).alloc (Obj.cells (zeros8.map v32).toArray 44)).heap.size = w.heap.size + 1 + 1 + 1 + 1 := by simp
  generalize ((((w.alloc (Obj.cells (s.map v32).toArray 44)).alloc (Obj.cells (ks.map v32).toArray 59)).alloc (Obj.cells (zs.map v8).toArray 62)).alloc (Obj.cells (zeros8.map v32).toArray 44)) = w4 at *
  simp only [World.size_alloc] at f0 f1 f2 f3
  go_outline
  go_cut [7, 8] (fun s7 s8 wx => ∃ g7 g8 : Nat, s7 = .pointer (some ⟨g7, 0, none⟩) ∧ s8 = .pointer (some ⟨g8, 0, none⟩) ∧ w.heap.size + 1 + 1 + 1 + 1 ≤ g7 ∧ w.heap.size + 1 + 1 + 1 + 1 ≤ g8 ∧ g7 ≠ g8 ∧ Below (w.heap.size + 1 + 1 + 1 + 1) w4 wx ∧ Blk wx g7 ((wordsOf zs).map v32) 59 ∧ Blk wx g8 (s.map v32) 44)
  case first =>
    have hbf : ∀ g cs t, Blk w4 g cs t → ∀ wv, Below (w.heap.size + 1 + 1 + 1 + 1) w4 wv → Blk wv g cs t := fun g cs t h wv hb => h.below hb (by have := h.lt; omega)
    have hsz44 : (Try.prog.info? 44).map (fun i => i.size) = some (s.map v32).toArray.size := by rw [size44]; simp [Hs.out]
    have hsz62 : (Try.prog.info? 62).map (fun i => i.size) = some (zs.map v8).toArray.size := by rw [size62]; simp [Hl.out]
    have hsz59 : (Try.prog.info? 59).map (fun i => i.size) = some ((wordsOf zs).map v32).toArray.size := by rw [size59]; simp [wordsOf_length]
    refine wp_region_held (S := fun wv => Blk wv w.heap.size (s.map v32) 44 ∧ Blk wv (w.heap.size + 1 + 1) (zs.map v8) 62) (by kernel_rfl) ?_
    change wpAnyH _ _ _ _ _ _ _ _ (World.drew _)
    have hI : Two w4 (w.heap.size + 1 + 1 + 1 + 1) false false 59 44 [] [] 0 0 w4.drew := ⟨(Below.refl _ _).drew, by rw [← z4]; exact Nat.le_refl _, by simp, by simp, by simp⟩
    generalize w4.drew = wv at hI ⊢
    refine wpAnyH_take (i := 0) rfl (by kernel_rfl) (by kernel_rfl) (by kernel_rfl) (fun _ _ _ h => h) (yieldsIf_load_row rfl 62 _ rfl _ rfl _ _ _ (fun _ h => h.2) (Try.underlying62) rfl hsz62) ⟨hbf _ _ _ f0 _ hI.below, hbf _ _ _ f2 _ hI.below⟩ ?_
    refine wpAnyH_take (i := 2) rfl (by kernel_rfl) (by kernel_rfl) (by kernel_rfl) (fun _ _ _ h => h) (yieldsIf_load_row rfl 44 _ rfl _ rfl _ _ _ (fun _ h => h.1) (Try.underlying44) rfl hsz44) ⟨hbf _ _ _ f0 _ hI.below, hbf _ _ _ f2 _ hI.below⟩ ?_
    simp only [Act.put, List.setIfInBounds_toArray, List.set_cons_zero, List.set_cons_succ, List.getElem_toArray, List.getElem_cons_succ, List.getElem_cons_zero]
    iterate 5
      (all_goals first
          | (refine wpAnyH_ready (rs := [1, 3, 4]) ?_ (List.cons_ne_nil _ _) ?_; decide +kernel; refine (ready_stepH rfl rfl (fun K hK => ?_) (ready_stepH rfl rfl (fun K hK => ?_) (ready_stepH rfl rfl (fun K hK => ?_) AllReadyH.nil))))
          | (refine wpAnyH_ready (rs := [3, 4]) ?_ (List.cons_ne_nil _ _) ?_; decide +kernel; refine (ready_stepH rfl rfl (fun K hK => ?_) (ready_stepH rfl rfl (fun K hK => ?_) AllReadyH.nil)))
          | (refine wpAnyH_ready (rs := [1, 4]) ?_ (List.cons_ne_nil _ _) ?_; decide +kernel; refine (ready_stepH rfl rfl (fun K hK => ?_) (ready_stepH rfl rfl (fun K hK => ?_) AllReadyH.nil)))
          | (refine wpAnyH_ready (rs := [1, 3]) ?_ (List.cons_ne_nil _ _) ?_; decide +kernel; refine (ready_stepH rfl rfl (fun K hK => ?_) (ready_stepH rfl rfl (fun K hK => ?_) AllReadyH.nil)))
          | (refine wpAnyH_ready (rs := [4, 5]) ?_ (List.cons_ne_nil _ _) ?_; decide +kernel; refine (ready_stepH rfl rfl (fun K hK => ?_) (ready_stepH rfl rfl (fun K hK => ?_) AllReadyH.nil)))
          | (refine wpAnyH_ready (rs := [1]) ?_ (List.cons_ne_nil _ _) ?_; decide +kernel; refine (ready_stepH rfl rfl (fun K hK => ?_) AllReadyH.nil))
          | (refine wpAnyH_ready (rs := [3]) ?_ (List.cons_ne_nil _ _) ?_; decide +kernel; refine (ready_stepH rfl rfl (fun K hK => ?_) AllReadyH.nil))
          | (refine wpAnyH_ready (rs := [4]) ?_ (List.cons_ne_nil _ _) ?_; decide +kernel; refine (ready_stepH rfl rfl (fun K hK => ?_) AllReadyH.nil))
          | (refine wpAnyH_ready (rs := [5]) ?_ (List.cons_ne_nil _ _) ?_; decide +kernel; refine (ready_stepH rfl rfl (fun K hK => ?_) AllReadyH.nil))
          | (refine wpAnyH_ready (rs := [6]) ?_ (List.cons_ne_nil _ _) ?_; decide +kernel; refine (ready_stepH rfl rfl (fun K hK => ?_) AllReadyH.nil))
       all_goals first
          | (refine wp_alloc_arr 59 rfl _ (info59 zs) ?_; have hI := hI.alloc1 ((fill zs 0).map v32); refine hK _ _ ⟨hbf _ _ _ f0 _ hI.below, hbf _ _ _ f2 _ hI.below⟩ ?_; try simp only [Act.put, List.setIfInBounds_toArray, List.set_cons_zero, List.set_cons_succ, List.getElem_toArray, List.getElem_cons_succ, List.getElem_cons_zero, World.size_alloc] at hI ⊢; clear hK K)
          | (refine wp_alloc_arr 44 rfl _ info44 ?_; have hI := hI.alloc2 (zeros8.map v32); refine hK _ _ ⟨hbf _ _ _ f0 _ hI.below, hbf _ _ _ f2 _ hI.below⟩ ?_; try simp only [Act.put, List.setIfInBounds_toArray, List.set_cons_zero, List.set_cons_succ, List.getElem_toArray, List.getElem_cons_succ, List.getElem_cons_zero, World.size_alloc] at hI ⊢; clear hK K)
          | (refine wp_store_row 59 _ _ rfl _ _ rfl rfl _ _ (hI.one rfl).2 hsz59 (by simp [fill_length, wordsOf_length]) (one32 _) ?_; have hI := hI.store1 ((wordsOf zs).map v32); refine hK _ _ ⟨hbf _ _ _ f0 _ hI.below, hbf _ _ _ f2 _ hI.below⟩ ?_; try simp only [Act.put, List.setIfInBounds_toArray, List.set_cons_zero, List.set_cons_succ, List.getElem_toArray, List.getElem_cons_succ, List.getElem_cons_zero, World.size_alloc] at hI ⊢; clear hK K)
          | (refine wp_store_row 44 _ _ rfl _ _ rfl rfl _ _ (hI.two rfl).2 hsz44 (by simp [zeros8_length, Hs.out]) (one32 _) ?_; have hI := hI.store2 (s.map v32); refine hK _ _ ⟨hbf _ _ _ f0 _ hI.below, hbf _ _ _ f2 _ hI.below⟩ ?_; try simp only [Act.put, List.setIfInBounds_toArray, List.set_cons_zero, List.set_cons_succ, List.getElem_toArray, List.getElem_cons_succ, List.getElem_cons_zero, World.size_alloc] at hI ⊢; clear hK K)
          | (go_simp; go_at_call 39; refine (words_any zs _ Hl.out hz).mono ?_; rintro e w1 ⟨rfl, hb1⟩; have hI := hI.call hb1; refine hK _ _ ⟨hbf _ _ _ f0 _ hI.below, hbf _ _ _ f2 _ hI.below⟩ ?_; try simp only [Act.put, List.setIfInBounds_toArray, List.set_cons_zero, List.set_cons_succ, List.getElem_toArray, List.getElem_cons_succ, List.getElem_cons_zero, World.size_alloc] at hI ⊢; clear hK K))
    all_goals
      refine wpAnyH_done (by decide +kernel) ?_ _
      go_wp2_with fail
      go_meet
      exact ⟨_, _, rfl, rfl, (hI.one rfl).1, (hI.two rfl).1, hI.apart rfl rfl, hI.below, (hI.one rfl).2, (hI.two rfl).2⟩
  case rest =>
    obtain ⟨g7, g8, rfl, rfl, hg7, hg8, hne, hbw, hw7, hw8⟩ := hcut
    obtain ⟨a0, a1, a2, a3, a4, a5, a6, a7, hs8⟩ := eight s Hs.out
    have c0 : wc.cell? ⟨g8, 0, none⟩ = some (v32 a0) := by rw [hw8.cell, hs8]; rfl
    have c1 : wc.cell? ⟨g8, 1, none⟩ = some (v32 a1) := by rw [hw8.cell, hs8]; rfl
    have c2 : wc.cell? ⟨g8, 2, none⟩ = some (v32 a2) := by rw [hw8.cell, hs8]; rfl
    have c3 : wc.cell? ⟨g8, 3, none⟩ = some (v32 a3) := by rw [hw8.cell, hs8]; rfl
    have c4 : wc.cell? ⟨g8, 4, none⟩ = some (v32 a4) := by rw [hw8.cell, hs8]; rfl
    have c5 : wc.cell? ⟨g8, 5, none⟩ = some (v32 a5) := by rw [hw8.cell, hs8]; rfl
    have c6 : wc.cell? ⟨g8, 6, none⟩ = some (v32 a6) := by rw [hw8.cell, hs8]; rfl
    have c7 : wc.cell? ⟨g8, 7, none⟩ = some (v32 a7) := by rw [hw8.cell, hs8]; rfl
    have F1 := Lib.hid (f1.below hbw (by omega))
    have F3 := Lib.hid (f3.below hbw (by omega))
    have W7 := Lib.hid hw7
    have W8 := Lib.hid hw8
    have BW := Lib.hid (b4.trans (hbw.mono (by omega)))
    have Hs8 := Lib.hid hs8
    clear f0 f1 f2 f3 b4 z4 hbw hw7 hw8 hs8
    go_wp2_with fail
    go_quiet (fail)
    clear c0 c1 c2 c3 c4 c5 c6 c7
    go_wp2_with fail
    obtain ⟨r0, hr0⟩ : ∃ r : R8, r = ⟨a0, a1, a2, a3, a4, a5, a6, a7⟩ := ⟨_, rfl⟩
    have Hr0 := Lib.hid hr0
    clear hr0
    go_loopw [9, 10, 11, 12, 13, 14, 15, 16, 41] (fun v9 v10 v11 v12 v13 v14 v15 v16 i wr => AtRound ks (wordsOf zs) r0 wc v9 v10 v11 v12 v13 v14 v15 v16 i wr) (fun _ _ _ _ _ _ _ _ i _ => 64 - (intOf i).toNat)
    case atStart => exact ⟨0, _, _, _, _, _, _, _, _, by omega, rfl, rfl, rfl, rfl, rfl, rfl, rfl, rfl, rfl, by rw [Sha.rounds_zero]; exact Hr0.out, ⟨nq, rfl⟩⟩
    case round =>
      obtain ⟨k, a, b, c, d, e, f, g, h, hk, rfl, rfl, rfl, rfl, rfl, rfl, rfl, rfl, rfl, HR, HQ⟩ := hrel
      have W7 : Hid (Blk wr g7 ((wordsOf zs).map v32) 59) := by obtain ⟨n, e⟩ := HQ.out; rw [e]; exact W7.out.drewN n
      have F1 : Hid (Blk wr (w.heap.size + 1) (ks.map v32) 59) := by obtain ⟨n, e⟩ := HQ.out; rw [e]; exact F1.out.drewN n
      by_cases hlt : k < 64
      · obtain ⟨kx, hkx⟩ : ∃ x, x = ks.getD k 0 := ⟨_, rfl⟩
        obtain ⟨wx, hwx⟩ : ∃ x, x = (wordsOf zs).getD k 0 := ⟨_, rfl⟩
        have c4 : wr.cell? ⟨w.heap.size + 1, k, none⟩ = some (v32 kx) := by
          rw [F1.out.cell, List.getElem?_map, List.getElem?_eq_getElem (by rw [Hk.out]; omega), hkx]; simp [Hk.out, hlt]
        have c7 : wr.cell? ⟨g7, k, none⟩ = some (v32 wx) := by
          rw [W7.out.cell, List.getElem?_map, List.getElem?_eq_getElem (by rw [wordsOf_length]; omega), hwx]; simp [wordsOf_length, hlt]
        have HK := Lib.hid hkx
        have HW := Lib.hid hwx
        clear hkx hwx
        go_wp2_with fail
        go_quiet ((refine Calls.quiet_of_same (turned_still _ _ _ (by omega))))
        go_wp2_with (go_at_call 40; refine (turned_any _ _ _ (by omega)).mono ?_; rintro e w' ⟨rfl, rfl⟩)
        go_roundw
        case rel =>
          refine ⟨k + 1, h + (rotr e 6 ^^^ rotr e 11 ^^^ rotr e 25) + (e &&& f ^^^ ~~~e &&& g) + kx + wx + ((rotr a 2 ^^^ rotr a 13 ^^^ rotr a 22) + (a &&& b ^^^ a &&& c ^^^ b &&& c)), a, b, c, d + (h + (rotr e 6 ^^^ rotr e 11 ^^^ rotr e 25) + (e &&& f ^^^ ~~~e &&& g) + kx + wx), e, f, g, by omega, by go_num, ?_, rfl, rfl, rfl, ?_, rfl, rfl, rfl, Sha.rounds_succ ks (wordsOf zs) r0 k a b c d e f g h kx wx HR.out HK.out HW.out, ?_⟩
          · congr 1; simp only [U_not3, U_notmax, U_and, U_xor, U_mod, BitVec.ofInt_add, ofInt_U]
          · congr 1; simp only [U_not3, U_notmax, U_and, U_xor, U_mod, BitVec.ofInt_add, ofInt_U]
          obtain ⟨n, e⟩ := HQ.out
          exact ⟨n + nq, by rw [e, World.drewN_drewN]⟩
        case measure => simp [intOf]; omega
      · obtain rfl : k = 64 := by omega
        have W8 : Hid (Blk wr g8 (s.map v32) 44) := by obtain ⟨n, e⟩ := HQ.out; rw [e]; exact W8.out.drewN n
        have F3 : Hid (Blk wr (w.heap.size + 1 + 1 + 1) (zeros8.map v32) 44) := by obtain ⟨n, e⟩ := HQ.out; rw [e]; exact F3.out.drewN n
        have BW : Hid (Below w.heap.size w wr) := by obtain ⟨n, e⟩ := HQ.out; rw [e]; exact below_drewN BW.out n
        have Hfin : Hid (behindOf s ks zs = addUpto s [a, b, c, d, e, f, g, h] 8) := by
          show _ = _
          rw [behindOf_eq, show R8.get s = r0 from by rw [Hs8.out, get_eight, Hr0.out], HR.out]; rfl
        go_wp2_with fail
        go_loopw [113] (fun i wr2 => ∃ k : Nat, k ≤ 8 ∧ i = .int .i64 k ∧ Below w.heap.size w wr2 ∧ Blk wr2 g8 ((addUpto s [a, b, c, d, e, f, g, h] k).map v32) 44 ∧ Blk wr2 (w.heap.size + 1 + 1 + 1) (zeros8.map v32) 44) (fun i _ => 8 - (intOf i).toNat)
        case atStart => exact ⟨0, by omega, rfl, BW.out, by rw [addUpto_zero]; exact W8.out, F3.out⟩
        case round =>
          obtain ⟨k, hk, rfl, hb, hc, hr⟩ := hrel
          by_cases hlt2 : k < 8
          · obtain ⟨x, hx⟩ : ∃ x, x = (addUpto s [a, b, c, d, e, f, g, h] k).getD k 0 := ⟨_, rfl⟩
            obtain ⟨y, hy⟩ : ∃ y, y = ([a, b, c, d, e, f, g, h] : List W).getD k 0 := ⟨_, rfl⟩
            have lk : (addUpto s [a, b, c, d, e, f, g, h] k).length = 8 := by rw [addUpto_length, Hs.out]
            have cx : wr.cell? ⟨g8, k, none⟩ = some (v32 x) := by
              rw [hc.cell, List.getElem?_map, List.getElem?_eq_getElem (by omega), hx]; simp [lk, hlt2]
            have cf : wr.frozen? ⟨g8, k, none⟩ = false := hc.free _
            have CY : Hid ((([a, b, c, d, e, f, g, h] : List W).map v32).toArray[(k : Int).toNat]? = some (v32 y)) := by
              show _ = _
              rw [Int.toNat_natCast, List.getElem?_toArray, List.getElem?_map, List.getElem?_eq_getElem (by simpa using hlt2), hy, List.getD_eq_getElem?_getD, List.getElem?_eq_getElem (by simpa using hlt2)]; rfl
            have HX := Lib.hid hx
            have HY := Lib.hid hy
            have HC := Lib.hid hc
            have HR2 := Lib.hid hr
            clear hx hy hc hr lk
            go_wp2_with (first | (refine wpList_index_arr rfl 44 _ _ rfl _ rfl _ rfl 8 42 Try.underlying44 _ Try.underlying42 rfl word1 (by omega) _ CY.out ?_))
            go_roundw
            case rel =>
              have R2 : Blk (wr.setCell ⟨g8, k, none⟩ (.int .u32 (U (x + y)))) g8 ((addUpto s [a, b, c, d, e, f, g, h] (k + 1)).map v32) 44 := by
                rw [addUpto_succ s _ k x y HX.out HY.out]
                exact HC.out.set _ _
              exact ⟨_, _, _, _, _, _, _, _, _, _, _, _, _, ⟨k + 1, by omega, by go_num, hb.setCell (by simp; omega) _, R2, HR2.out.setOther _ _ (by simp; omega)⟩, rfl⟩
            case measure => simp [intOf]; omega
          · obtain rfl : k = 8 := by omega
            have HC := Lib.hid hc
            have HR2 := Lib.hid hr
            have hsz2 : (Try.prog.info? 44).map (fun i => i.size) = some ((addUpto s [a, b, c, d, e, f, g, h] 8).map v32).toArray.size := by rw [size44]; simp [addUpto_length, Hs.out]
            clear hc hr
            go_wp2_with (first
              | (refine wpList_load_row rfl 44 _ rfl _ rfl _ _ _ _ HC.out (Try.underlying44) rfl hsz2 ?_)
              | (refine wpList_store_row rfl 44 _ _ rfl _ _ rfl rfl _ _ HR2.out hsz2 (by simp [zeros8_length, addUpto_length, Hs.out]) (one32 _) ?_))
            refine bodyPost_ret (v := .agg ((addUpto s [a, b, c, d, e, f, g, h] 8).map v32).toArray) ?_ rfl ⟨by rw [Hfin.out], Below.setRow hb (by omega) _⟩
            exact results_cell_row rfl _ _ _ _ _ _ _ rfl (HR2.out.row _) (Try.underlying44) rfl hsz2
end Go.Proofs.Ytpbdajgbahnbjaa
