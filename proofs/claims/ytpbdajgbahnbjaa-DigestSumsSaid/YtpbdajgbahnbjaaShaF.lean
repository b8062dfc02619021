/-
  The contract of Sum: the digest of bytes.
-/
import Derived.Test.YtpbdajgbahnbjaaShaE
namespace Go.Proofs.Ytpbdajgbahnbjaa
set_option linter.unusedSimpArgs false
set_option linter.unusedVariables false
open Go.RowKit Sha
theorem through_len (s : List W) (zs : List Int) (p : Option Addr) (len cap : Nat) (w : World) (hl : len = zs.length) (hs : s.length = 8) (hz : ∀ n ∈ zs, 0 ≤ n ∧ n ≤ 255) (hA : At w p (zs.map v8)) (hc : len ≤ cap) (hm : cap ≤ 9223372036854775807) :
    Calls Try.prog 24 #[.agg (s.map v32).toArray, .slice p len cap] w
      fun e w' => e = .returned (.agg ((thru s kList zs (len / 64)).map v32).toArray) ∧ Below w.heap.size w w' := by
  subst hl; exact through_any s zs p cap w hs hz hA hc hm
theorem ending_len (zs : List Int) (N : Int) (p : Option Addr) (len cap : Nat) (w : World) (hl : len = zs.length) (h64 : len < 64) (hA : At w p (zs.map v8)) (hc : len ≤ cap) (hp : p = none → cap = 0) (hN : 0 ≤ N ∧ N ≤ 18446744073709551615) :
    Calls Try.prog 27 #[.slice p len cap, .int .u64 N] w
      fun e w' => ∃ v, e = .returned v ∧ w'.ownsRow w.heap.size 5 1 v (ending zs N).length ((ending zs N).map v8) ∧ Below w.heap.size w w' := by
  subst hl; exact ending_any zs N p cap w h64 hA hc hp hN
theorem first8_length : first8.length = 8 := by unfold first8; rfl
set_option maxRecDepth 100000 in
set_option maxHeartbeats 2000000 in
theorem sum_any (zs : List Int) (p : Option Addr) (cap : Nat) (w : World) (hz : ∀ n ∈ zs, 0 ≤ n ∧ n ≤ 255) (hA : At w p (zs.map v8)) (hc : zs.length ≤ cap) (hp : p = none → cap = 0) (hm : cap ≤ 9223372036854775807) :
    Calls Try.prog 10 #[.slice p zs.length cap] w fun e w' => e = .returned (.agg ((Sha.sum zs).map v8).toArray) ∧ Below w.heap.size w w' := by
  obtain ⟨len, hlen⟩ : ∃ n, n = zs.length := ⟨_, rfl⟩
  obtain ⟨wl, hwl⟩ : ∃ n, n = wholeOf zs := ⟨_, rfl⟩
  rw [← hlen] at hc ⊢
  have hw1 : ((len : Int) - (len : Int) % 64) = (wl : Int) := by rw [hwl, hlen]; unfold wholeOf; omega
  have hw2 : wl ≤ len := by omega
  have hw3 : len - wl < 64 := by omega
  have Hlen := Lib.hid hlen
  have Hwl := Lib.hid hwl
  have HA := Lib.hid hA
  clear hlen hwl hA
  go_enter Try.func10, Try.ntmps10
  go_upto_region 2 with (refine wpList_alloc_arr rfl 26 rfl _ info26 ?_)
  obtain ⟨w1, hw⟩ : ∃ w1, w1 = w.alloc (Obj.cells (zero32.map v8).toArray 26) := ⟨_, rfl⟩
  have f0 : Blk w1 w.heap.size (zero32.map v8) 26 := by rw [hw]; exact Blk.new _ _ _
  have b1 : Below w.heap.size w w1 := by rw [hw]; exact (Below.refl _ _).alloc (by simp) _
  have z1 : w1.heap.size = w.heap.size + 1 := by rw [hw]; simp
  rw [← hw]
  clear hw
  obtain ⟨p', hp'⟩ : ∃ p', p' = if cap = 0 then p else p.map (·.add 0) := ⟨_, rfl⟩
  have HCUT : Hid (∀ w, (Instr.sliceAt 22 (.slice p len cap) none (some (.int .i64 (wl : Int))) none).run Try.prog w = .ok (.slice p' wl cap) w) := fun w => by
    have := run_cut_h (P := Try.prog) 22 5 p len cap Try.underlying22 slice1 .i64 (wl : Int) (by omega) (by omega) w
    rw [this, Int.toNat_natCast]; unfold cutV; rw [hp']; simp
  have hP : At w p' ((zs.take wl).map v8) := by
    have := HA.out.sub 0 wl cap (by rw [List.length_map, ← Hlen.out]; exact hc)
    rw [hp']; simpa [List.map_take] using this
  have hLw : wl = (zs.take wl).length := by rw [List.length_take, ← Hlen.out]; omega
  have hZt : ∀ n ∈ zs.take wl, 0 ≤ n ∧ n ≤ 255 := fun n hn => hz n (List.mem_of_mem_take hn)
  have hszt : (Try.prog.info? 44).map (fun i => i.size) = some ((thru first8 kList (zs.take wl) (wl / 64)).map v32).toArray.size := by rw [size44]; simp [thru_length, first8_length]
  have HP : Hid (∀ wv, Below (w.heap.size + 1) w1 wv → At wv p' ((zs.take wl).map v8)) := fun wv hb => hP.below (b1.trans (hb.mono (by omega)))
  have HLw := Lib.hid hLw
  have HZt := Lib.hid hZt
  clear hp' hP hLw hZt
  go_cut [4] (fun s4 wx => ∃ g : Nat, s4 = .pointer (some ⟨g, 0, none⟩) ∧ w.heap.size + 1 ≤ g ∧ Below (w.heap.size + 1) w1 wx ∧ Blk wx g ((thru first8 kList (zs.take wl) (wl / 64)).map v32) 44)
  case first =>
    refine wp_region_any (by kernel_rfl) ?_
    change wpAny _ _ _ _ _ _ _ (World.drew _)
    have hI : Two w1 (w.heap.size + 1) false false 44 44 [] [] 0 0 w1.drew := ⟨(Below.refl _ _).drew, by rw [← z1]; exact Nat.le_refl _, by simp, by simp, by simp⟩
    generalize w1.drew = wv at hI ⊢
    refine wpAny_take (i := 1) rfl (by kernel_rfl) (by kernel_rfl) (by kernel_rfl) (fun _ _ _ h => h) (yields_move rfl _ rfl (.slice p len cap) rfl) ?_
    refine wpAny_take (i := 2) rfl (by kernel_rfl) (by kernel_rfl) (by kernel_rfl) (fun _ _ _ h => h) (yields_move rfl _ rfl (.int .i64 (wl : Int)) rfl) ?_
    simp only [Act.put, List.setIfInBounds_toArray, List.set_cons_zero, List.set_cons_succ, List.getElem_toArray, List.getElem_cons_succ, List.getElem_cons_zero]
    refine wpAny_take (i := 3) rfl (by kernel_rfl) (by kernel_rfl) (by kernel_rfl) (fun _ _ _ h => h) (yields_cut rfl 22 (.tmp 12) none (some (.tmp 13)) rfl _ HCUT.out) ?_
    simp only [Act.put, List.setIfInBounds_toArray, List.set_cons_zero, List.set_cons_succ, List.getElem_toArray, List.getElem_cons_succ, List.getElem_cons_zero]
    iterate 4
      (all_goals first
          | (refine wpAny_ready (rs := [0, 5]) ?_ (List.cons_ne_nil _ _) ?_; decide +kernel; refine (ready_step rfl rfl (fun K hK => ?_) (ready_step rfl rfl (fun K hK => ?_) AllReady.nil)))
          | (refine wpAny_ready (rs := [0]) ?_ (List.cons_ne_nil _ _) ?_; decide +kernel; refine (ready_step rfl rfl (fun K hK => ?_) AllReady.nil))
          | (refine wpAny_ready (rs := [4, 5]) ?_ (List.cons_ne_nil _ _) ?_; decide +kernel; refine (ready_step rfl rfl (fun K hK => ?_) (ready_step rfl rfl (fun K hK => ?_) AllReady.nil)))
          | (refine wpAny_ready (rs := [5]) ?_ (List.cons_ne_nil _ _) ?_; decide +kernel; refine (ready_step rfl rfl (fun K hK => ?_) AllReady.nil))
          | (refine wpAny_ready (rs := [4]) ?_ (List.cons_ne_nil _ _) ?_; decide +kernel; refine (ready_step rfl rfl (fun K hK => ?_) AllReady.nil))
          | (refine wpAny_ready (rs := [6]) ?_ (List.cons_ne_nil _ _) ?_; decide +kernel; refine (ready_step rfl rfl (fun K hK => ?_) AllReady.nil))
       all_goals first
          | (refine wp_alloc_arr 44 rfl _ info44 ?_; have hI := hI.alloc1 (zeros8.map v32); refine hK _ _ ?_; try simp only [Act.put, List.setIfInBounds_toArray, List.set_cons_zero, List.set_cons_succ, List.getElem_toArray, List.getElem_cons_succ, List.getElem_cons_zero, World.size_alloc] at hI ⊢; clear hK K)
          | (refine wp_store_row 44 _ _ rfl _ _ rfl rfl _ _ (hI.one rfl).2 hszt (by simp [zeros8_length, thru_length, first8_length]) (one32 _) ?_; have hI := hI.store1 ((thru first8 kList (zs.take wl) (wl / 64)).map v32); refine hK _ _ ?_; try simp only [Act.put, List.setIfInBounds_toArray, List.set_cons_zero, List.set_cons_succ, List.getElem_toArray, List.getElem_cons_succ, List.getElem_cons_zero, World.size_alloc] at hI ⊢; clear hK K)
          | (go_simp; go_at_call 25; refine (first_any _).mono ?_; rintro e w2 ⟨rfl, hb2⟩; have hI := hI.call hb2; refine hK _ _ ?_; try simp only [Act.put, List.setIfInBounds_toArray, List.set_cons_zero, List.set_cons_succ, List.getElem_toArray, List.getElem_cons_succ, List.getElem_cons_zero, World.size_alloc] at hI ⊢; clear hK K)
          | (go_simp; go_at_call 24; refine (through_len _ _ _ _ _ _ HLw.out first8_length HZt.out (HP.out _ hI.below) (by omega) (by omega)).mono ?_; rintro e w2 ⟨rfl, hb2⟩; have hI := hI.call hb2; refine hK _ _ ?_; try simp only [Act.put, List.setIfInBounds_toArray, List.set_cons_zero, List.set_cons_succ, List.getElem_toArray, List.getElem_cons_succ, List.getElem_cons_zero, World.size_alloc] at hI ⊢; clear hK K))
    all_goals
      refine wpAny_done (by decide +kernel) ?_ _
      go_wp2_with fail
      go_meet
      exact ⟨_, rfl, (hI.one rfl).1, hI.below, (hI.one rfl).2⟩
  case rest =>
    obtain ⟨g4, rfl, hg4, hb4, hB4⟩ := hcut
    obtain ⟨s1, hs1⟩ : ∃ s1, s1 = thru first8 kList (zs.take wl) (wl / 64) := ⟨_, rfl⟩
    have hs8 : s1.length = 8 := by rw [hs1, thru_length, first8_length]
    rw [← hs1] at hB4
    have HS1 := Lib.hid hs1
    have HS8 := Lib.hid hs8
    have HB4 := Lib.hid hB4
    have HF0 := Lib.hid (f0.below hb4 (by omega))
    have HBB := Lib.hid (b1.trans (hb4.mono (by omega)))
    have hZd : ∀ n ∈ zs.drop wl, 0 ≤ n ∧ n ≤ 255 := fun n hn => hz n (List.mem_of_mem_drop hn)
    have hLd : len - wl = (zs.drop wl).length := by rw [List.length_drop, ← Hlen.out]
    have hsz44 : (Try.prog.info? 44).map (fun i => i.size) = some (s1.map v32).length := by rw [size44]; simp [hs8]
    have HCUT2 : Hid (∀ w, (Instr.sliceAt 22 (.slice p len cap) (some (.int .i64 (wl : Int))) none none).run Try.prog w = .ok (cutV p wl len cap) w) := fun w => by
      have := run_cut_l (P := Try.prog) 22 5 p len cap Try.underlying22 slice1 .i64 (wl : Int) (by omega) (by omega) w
      rwa [Int.toNat_natCast] at this
    have HZD := Lib.hid hZd
    have HLD := Lib.hid hLd
    clear f0 b1 hb4 hB4 hs1 hs8 hZd hLd hszt z1 HP
    obtain ⟨p2, hp2⟩ : ∃ p2, p2 = if cap = wl then p else p.map (·.add wl) := ⟨_, rfl⟩
    have hA2 : At w p2 ((zs.drop wl).map v8) := by
      have := HA.out.sub wl len cap (by rw [List.length_map, ← Hlen.out]; exact hc)
      rw [List.take_of_length_le (by rw [List.length_map, ← Hlen.out]; exact Nat.le_refl _)] at this
      rw [hp2]; simpa [List.map_drop] using this
    have hn2 : p2 = none → cap - wl = 0 := by
      intro h; rw [hp2] at h
      split at h
      · omega
      · have := hp (by simpa using h); omega
    have HCUT3 : Hid (∀ w, (Instr.sliceAt 22 (.slice p len cap) (some (.int .i64 (wl : Int))) none none).run Try.prog w = .ok (.slice p2 (len - wl) (cap - wl)) w) := fun w => by
      rw [HCUT2.out w, hp2]; rfl
    have HA2 := Lib.hid hA2
    clear hp2 hA2 HCUT2
    go_wp2_with fail
    refine wp_region_held (S := fun wv => Blk wv g4 (s1.map v32) 44) (by kernel_rfl) ?_
    change wpAnyH _ _ _ _ _ _ _ _ (World.drew _)
    have hS : Blk wc.drew g4 (s1.map v32) 44 := HB4.out.drew
    have hF : Blk wc.drew w.heap.size (zero32.map v8) 26 := HF0.out.drew
    have hBw : Below w.heap.size w wc.drew := HBB.out.drew
    generalize wc.drew = wv at hS hF hBw ⊢
    refine wpAnyH_take (i := 0) rfl (by kernel_rfl) (by kernel_rfl) (by kernel_rfl) (fun _ _ _ h => h) (yieldsIf_load_row rfl 44 (.tmp 4) rfl _ rfl _ _ _ (fun _ h => h) (Try.underlying44) rfl hsz44) hS ?_
    simp only [Act.put, List.setIfInBounds_toArray, List.set_cons_zero, List.set_cons_succ, List.getElem_toArray, List.getElem_cons_succ, List.getElem_cons_zero]
    refine wpAnyH_take (i := 1) rfl (by kernel_rfl) (by kernel_rfl) (by kernel_rfl) (fun _ _ _ h => h) (Yields.yieldsIf (yields_move rfl _ rfl (.slice p len cap) rfl)) hS ?_
    simp only [Act.put, List.setIfInBounds_toArray, List.set_cons_zero, List.set_cons_succ, List.getElem_toArray, List.getElem_cons_succ, List.getElem_cons_zero]
    refine wpAnyH_take (i := 2) rfl (by kernel_rfl) (by kernel_rfl) (by kernel_rfl) (fun _ _ _ h => h) (Yields.yieldsIf (yields_move rfl _ rfl (.int .i64 (wl : Int)) rfl)) hS ?_
    simp only [Act.put, List.setIfInBounds_toArray, List.set_cons_zero, List.set_cons_succ, List.getElem_toArray, List.getElem_cons_succ, List.getElem_cons_zero]
    refine wpAnyH_take (i := 3) rfl (by kernel_rfl) (by kernel_rfl) (by kernel_rfl) (fun _ _ _ h => h) (Yields.yieldsIf (yields_cut rfl 22 (.tmp 17) (some (.tmp 18)) none rfl _ HCUT3.out)) hS ?_
    simp only [Act.put, List.setIfInBounds_toArray, List.set_cons_zero, List.set_cons_succ, List.getElem_toArray, List.getElem_cons_succ, List.getElem_cons_zero]
    refine wpAnyH_take (i := 4) rfl (by kernel_rfl) (by kernel_rfl) (by kernel_rfl) (fun _ _ _ h => h) (Yields.yieldsIf (yields_move rfl _ rfl (.slice p len cap) rfl)) hS ?_
    simp only [Act.put, List.setIfInBounds_toArray, List.set_cons_zero, List.set_cons_succ, List.getElem_toArray, List.getElem_cons_succ, List.getElem_cons_zero]
    refine wpAnyH_take (i := 5) (v := .int .i64 (len : Int)) rfl (by kernel_rfl) (by kernel_rfl) (by kernel_rfl) (fun _ _ _ h => h) (Or.inl ⟨by rfl, fun _ _ => ?_⟩) hS ?_
    · go_simp
    simp only [Act.put, List.setIfInBounds_toArray, List.set_cons_zero, List.set_cons_succ, List.getElem_toArray, List.getElem_cons_succ, List.getElem_cons_zero]
    refine wpAnyH_take (i := 6) (v := .int .u64 (len : Int)) rfl (by kernel_rfl) (by kernel_rfl) (by kernel_rfl) (fun _ _ _ h => h) (Or.inl ⟨by rfl, fun _ _ => ?_⟩) hS ?_
    · go_simp
      exact IntWalk.u64_in _ (by omega)
    try simp only [Act.put, List.setIfInBounds_toArray, List.set_cons_zero, List.set_cons_succ, List.getElem_toArray, List.getElem_cons_succ, List.getElem_cons_zero]
    obtain ⟨t, ht⟩ : ∃ t, t = ending (zs.drop wl) (len : Int) := ⟨_, rfl⟩
    have HT := Lib.hid ht
    have htz : ∀ n ∈ t, 0 ≤ n ∧ n ≤ 255 := by rw [ht]; exact ending_bd _ _ HZD.out
    have HTZ := Lib.hid htz
    clear ht htz
    refine wpAnyH_ready (rs := [7]) ?_ (List.cons_ne_nil _ _) (ready_stepH rfl rfl (fun K hK => ?_) AllReadyH.nil)
    · decide +kernel
    go_simp
    refine (ending_len (zs.drop wl) (len : Int) p2 (len - wl) (cap - wl) wv HLD.out hw3 (HA2.out.below hBw) (by omega) hn2 (by omega)).mono ?_
    rintro e w5 ⟨v5, rfl, hown5, hb5⟩
    rw [← HT.out] at hown5
    obtain ⟨p5, c5, rfl, hc5, hm5, hA5, hl5, hn5⟩ := own_at hown5
    have hS5 := hS.below hb5 hS.lt
    have hF5 := hF.below hb5 hF.lt
    have hB5 := hBw.trans (hb5.mono hBw.size)
    refine hK _ _ hS5 ?_
    try simp only [Act.put, List.setIfInBounds_toArray, List.set_cons_zero, List.set_cons_succ, List.getElem_toArray, List.getElem_cons_succ, List.getElem_cons_zero]
    clear hK K hown5 hb5
    refine wpAnyH_ready (rs := [8]) ?_ (List.cons_ne_nil _ _) (ready_stepH rfl rfl (fun K hK => ?_) AllReadyH.nil)
    · decide +kernel
    go_simp
    refine (through_any s1 t p5 c5 w5 HS8.out HTZ.out hA5 hc5 (by unfold maxLen at hm5; omega)).mono ?_
    rintro e w6 ⟨rfl, hb6⟩
    refine hK _ _ (hS5.below hb6 hS5.lt) ?_
    try simp only [Act.put, List.setIfInBounds_toArray, List.set_cons_zero, List.set_cons_succ, List.getElem_toArray, List.getElem_cons_succ, List.getElem_cons_zero]
    clear hK K
    refine wpAnyH_ready (rs := [9]) ?_ (List.cons_ne_nil _ _) (ready_stepH rfl rfl (fun K hK => ?_) AllReadyH.nil)
    · decide +kernel
    go_simp
    refine (tell_any (thru s1 kList t (t.length / 64)) w6 (by rw [thru_length, HS8.out])).mono ?_
    rintro e w7 ⟨rfl, hb7⟩
    have hS6 := hS5.below hb6 hS5.lt
    have hF6 := hF5.below hb6 hF5.lt
    have hF7 := hF6.below hb7 hF6.lt
    have hB7 := (hB5.trans (hb6.mono hB5.size)).trans (hb7.mono (hB5.trans (hb6.mono hB5.size)).size)
    refine hK _ _ (hS6.below hb7 hS6.lt) ?_
    try simp only [Act.put, List.setIfInBounds_toArray, List.set_cons_zero, List.set_cons_succ, List.getElem_toArray, List.getElem_cons_succ, List.getElem_cons_zero]
    clear hK K
    have hsz32 : (Try.prog.info? 26).map (fun i => i.size) = some ((tellUpto (thru s1 kList t (t.length / 64)) 32).map v8).toArray.size := by rw [size26]; simp [tellUpto_length]
    refine wpAnyH_ready (rs := [10]) ?_ (List.cons_ne_nil _ _) (ready_stepH rfl rfl (fun K hK => ?_) AllReadyH.nil)
    · decide +kernel
    refine wp_store_row 26 _ _ rfl _ _ rfl rfl _ _ hF7 hsz32 (by simp [zero32_length, tellUpto_length]) (one8 _) ?_
    refine hK _ _ ((hS6.below hb7 hS6.lt).rowOther _ (by omega)) ?_
    try simp only [Act.put, List.setIfInBounds_toArray, List.set_cons_zero, List.set_cons_succ, List.getElem_toArray, List.getElem_cons_succ, List.getElem_cons_zero]
    clear hK K
    refine wpAnyH_done (by decide +kernel) ?_ _
    go_wp2_with fail
    have hfin : Sha.sum zs = tellUpto (thru s1 kList t (t.length / 64)) 32 := by
      rw [sum_eq, ← Hwl.out, HT.out, HS1.out, ← HLw.out, ← Hlen.out]
    refine bodyPost_ret (v := .agg ((tellUpto (thru s1 kList t (t.length / 64)) 32).map v8).toArray) ?_ rfl ⟨by rw [hfin], Below.setRow hB7 (by omega) _⟩
    exact results_cell_row rfl _ _ _ _ _ _ _ rfl (hF7.row _) (Try.underlying26) rfl hsz32
theorem sum_len (zs : List Int) (p : Option Addr) (len cap : Nat) (w : World) (hl : len = zs.length) (hz : ∀ n ∈ zs, 0 ≤ n ∧ n ≤ 255) (hA : At w p (zs.map v8)) (hc : len ≤ cap) (hp : p = none → cap = 0) (hm : cap ≤ 9223372036854775807) :
    Calls Try.prog 10 #[.slice p len cap] w fun e w' => e = .returned (.agg ((Sha.sum zs).map v8).toArray) ∧ Below w.heap.size w w' := by
  subst hl; exact sum_any zs p cap w hz hA hc hp hm
theorem sum_length (zs : List Int) : (Sha.sum zs).length = 32 := by rw [sum_eq, tellUpto_length]
theorem sum_bd (zs : List Int) : ∀ n ∈ Sha.sum zs, 0 ≤ n ∧ n ≤ 255 := by rw [sum_eq]; exact tellUpto_bd _ _
end Go.Proofs.Ytpbdajgbahnbjaa
