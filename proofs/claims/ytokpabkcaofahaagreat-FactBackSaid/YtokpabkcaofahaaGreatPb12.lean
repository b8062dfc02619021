/-
  The contract of Sum: the digest of bytes.
  Facts built of their parts; the law package's own small facts.
  Facts and states laid, boxed, stored, loaded, built: one operation each, that the walk does not open.
-/
import Derived.Test.YtokpabkcaofahaaGreatPb11
import Derived.Test.YtokpabkcaofahaaGreatPb8
import Derived.Deep.WholeRow
namespace Go.Proofs.YtokpabkcaofahaaGreat
section
set_option linter.unusedSimpArgs false
set_option linter.unusedVariables false
open Go.RowKit Sha
theorem through_len (s : List W) (zs : List Int) (p : Option Addr) (len cap : Nat) (w : World) (hl : len = zs.length) (hs : s.length = 8) (hz : ∀ n ∈ zs, 0 ≤ n ∧ n ≤ 255) (hA : At w p (zs.map v8)) (hc : len ≤ cap) (hm : cap ≤ 9223372036854775807) :
    Calls Tryz.prog 109 #[.agg (s.map v32).toArray, .slice p len cap] w
      fun e w' => e = .returned (.agg ((thru s kList zs (len / 64)).map v32).toArray) ∧ Below w.heap.size w w' := by
  subst hl; exact through_any s zs p cap w hs hz hA hc hm
theorem ending_len (zs : List Int) (N : Int) (p : Option Addr) (len cap : Nat) (w : World) (hl : len = zs.length) (h64 : len < 64) (hA : At w p (zs.map v8)) (hc : len ≤ cap) (hp : p = none → cap = 0) (hN : 0 ≤ N ∧ N ≤ 18446744073709551615) :
    Calls Tryz.prog 112 #[.slice p len cap, .int .u64 N] w
      fun e w' => ∃ v, e = .returned v ∧ w'.ownsRow w.heap.size 5 1 v (ending zs N).length ((ending zs N).map v8) ∧ Below w.heap.size w w' := by
  subst hl; exact ending_any zs N p cap w h64 hA hc hp hN
theorem first8_length : first8.length = 8 := by unfold first8; rfl
set_option maxRecDepth 100000 in
set_option maxHeartbeats 2000000 in
theorem sum_any (zs : List Int) (p : Option Addr) (cap : Nat) (w : World) (hz : ∀ n ∈ zs, 0 ≤ n ∧ n ≤ 255) (hA : At w p (zs.map v8)) (hc : zs.length ≤ cap) (hp : p = none → cap = 0) (hm : cap ≤ 9223372036854775807) :
    Calls Tryz.prog 73 #[.slice p zs.length cap] w fun e w' => e = .returned (.agg ((Sha.sum zs).map v8).toArray) ∧ Below w.heap.size w w' := by
  obtain ⟨len, hlen⟩ : ∃ n, n = zs.length := ⟨_, rfl⟩
  obtain ⟨wl, hwl⟩ : ∃ n, n = wholeOf zs := ⟨_, rfl⟩
  rw [← hlen] at hc ⊢
  have hw1 : ((len : Int) - (len : Int) % 64) = (wl : Int) := by rw [hwl, hlen]; unfold wholeOf; omega
  have hw2 : wl ≤ len := by omega
  have hw3 : len - wl < 64 := by omega
  have Hlen := Lib.hid hlen
  have Hwl := Lib.hid hwl
  have HA := Lib.hid hA
  clear hlen hwl hA
  go_enter Tryz.func73, Tryz.ntmps73
  go_upto_region 2 with (refine wpList_alloc_arr rfl 25 rfl _ info26 ?_)
  obtain ⟨w1, hw⟩ : ∃ w1, w1 = w.alloc (Obj.cells (zero32.map v8).toArray 25) := ⟨_, rfl⟩
  have f0 : Blk w1 w.heap.size (zero32.map v8) 25 := by rw [hw]; exact Blk.new _ _ _
  have b1 : Below w.heap.size w w1 := by rw [hw]; exact (Below.refl _ _).alloc (by simp) _
  have z1 : w1.heap.size = w.heap.size + 1 := by rw [hw]; simp
  rw [← hw]
  clear hw
  obtain ⟨p', hp'⟩ : ∃ p', p' = if cap = 0 then p else p.map (·.add 0) := ⟨_, rfl⟩
  have HCUT : Hid (∀ w, (Instr.sliceAt 26 (.slice p len cap) none (some (.int .i64 (wl : Int))) none).run Tryz.prog w = .ok (.slice p' wl cap) w) := fun w => by
    have := run_cut_h (P := Tryz.prog) 26 5 p len cap Tryz.underlying26 slice1 .i64 (wl : Int) (by omega) (by omega) w
    rw [this, Int.toNat_natCast]; unfold cutV; rw [hp']; simp
  have hP : At w p' ((zs.take wl).map v8) := by
    have := HA.out.sub 0 wl cap (by rw [List.length_map, ← Hlen.out]; exact hc)
    rw [hp']; simpa [List.map_take] using this
  have hLw : wl = (zs.take wl).length := by rw [List.length_take, ← Hlen.out]; omega
  have hZt : ∀ n ∈ zs.take wl, 0 ≤ n ∧ n ≤ 255 := fun n hn => hz n (List.mem_of_mem_take hn)
  have hszt : (Tryz.prog.info? 153).map (fun i => i.size) = some ((thru first8 kList (zs.take wl) (wl / 64)).map v32).toArray.size := by rw [size44]; simp [thru_length, first8_length]
  have HP : Hid (∀ wv, Below (w.heap.size + 1) w1 wv → At wv p' ((zs.take wl).map v8)) := fun wv hb => hP.below (b1.trans (hb.mono (by omega)))
  have HLw := Lib.hid hLw
  have HZt := Lib.hid hZt
  clear hp' hP hLw hZt
  go_cut [4] (fun s4 wx => ∃ g : Nat, s4 = .pointer (some ⟨g, 0, none⟩) ∧ w.heap.size + 1 ≤ g ∧ Below (w.heap.size + 1) w1 wx ∧ Blk wx g ((thru first8 kList (zs.take wl) (wl / 64)).map v32) 153)
  case first =>
    refine wp_region_any (by kernel_rfl) ?_
    change wpAny _ _ _ _ _ _ _ (World.drew _)
    have hI : Two w1 (w.heap.size + 1) false false 153 153 [] [] 0 0 w1.drew := ⟨(Below.refl _ _).drew, by rw [← z1]; exact Nat.le_refl _, by simp, by simp, by simp⟩
    generalize w1.drew = wv at hI ⊢
    refine wpAny_take (i := 1) rfl (by kernel_rfl) (by kernel_rfl) (by kernel_rfl) (fun _ _ _ h => h) (yields_move rfl _ rfl (.slice p len cap) rfl) ?_
    refine wpAny_take (i := 2) rfl (by kernel_rfl) (by kernel_rfl) (by kernel_rfl) (fun _ _ _ h => h) (yields_move rfl _ rfl (.int .i64 (wl : Int)) rfl) ?_
    simp only [Act.put, List.setIfInBounds_toArray, List.set_cons_zero, List.set_cons_succ, List.getElem_toArray, List.getElem_cons_succ, List.getElem_cons_zero]
    refine wpAny_take (i := 3) rfl (by kernel_rfl) (by kernel_rfl) (by kernel_rfl) (fun _ _ _ h => h) (yields_cut rfl 26 (.tmp 12) none (some (.tmp 13)) rfl _ HCUT.out) ?_
    simp only [Act.put, List.setIfInBounds_toArray, List.set_cons_zero, List.set_cons_succ, List.getElem_toArray, List.getElem_cons_succ, List.getElem_cons_zero]
    iterate 4
      (all_goals first
          | (refine wpAny_ready (rs := [0, 5]) ?_ (List.cons_ne_nil _ _) ?_; decide +kernel; refine (ready_step rfl rfl (fun K hK => ?_) (ready_step rfl rfl (fun K hK => ?_) AllReady.nil)))
          | (refine wpAny_ready (rs := [0]) ?_ (List.cons_ne_nil _ _) ?_; decide +kernel; refine (ready_step rfl rfl (fun K hK => ?_) AllReady.nil))
          | (refine wpAny_ready (rs := [4, 5]) ?_ (List.cons_ne_nil _ _) ?_; decide +kernel; refine (ready_step rfl rfl (fun K hK => ?_) (ready_step rfl rfl (fun K hK => ?_) AllReady.nil)))
          | (refine wpAny_ready (rs := [5]) ?_ (List.cons_ne_nil _ _) ?_; decide +kernel; refine (ready_step rfl rfl (fun K hK => ?_) AllReady.nil))
          | (refine wpAny_ready (rs := [4]) ?_ (List.cons_ne_nil _ _) ?_; decide +kernel; refine (ready_step rfl rfl (fun K hK => ?_) AllReady.nil))
          | (refine wpAny_ready (rs := [6]) ?_ (List.cons_ne_nil _ _) ?_; decide +kernel; refine (ready_step rfl rfl (fun K hK => ?_) AllReady.nil))
       all_goals first
          | (refine wp_alloc_arr 153 rfl _ info44 ?_; have hI := hI.alloc1 (zeros8.map v32); refine hK _ _ ?_; try simp only [Act.put, List.setIfInBounds_toArray, List.set_cons_zero, List.set_cons_succ, List.getElem_toArray, List.getElem_cons_succ, List.getElem_cons_zero, World.size_alloc] at hI ⊢; clear hK K)
          | (refine wp_store_row 153 _ _ rfl _ _ rfl rfl _ _ (hI.one rfl).2 hszt (by simp [zeros8_length, thru_length, first8_length]) (one32 _) ?_; have hI := hI.store1 ((thru first8 kList (zs.take wl) (wl / 64)).map v32); refine hK _ _ ?_; try simp only [Act.put, List.setIfInBounds_toArray, List.set_cons_zero, List.set_cons_succ, List.getElem_toArray, List.getElem_cons_succ, List.getElem_cons_zero, World.size_alloc] at hI ⊢; clear hK K)
          | (go_simp; go_at_call 110; refine (first_any _).mono ?_; rintro e w2 ⟨rfl, hb2⟩; have hI := hI.call hb2; refine hK _ _ ?_; try simp only [Act.put, List.setIfInBounds_toArray, List.set_cons_zero, List.set_cons_succ, List.getElem_toArray, List.getElem_cons_succ, List.getElem_cons_zero, World.size_alloc] at hI ⊢; clear hK K)
          | (go_simp; go_at_call 109; refine (through_len _ _ _ _ _ _ HLw.out first8_length HZt.out (HP.out _ hI.below) (by omega) (by omega)).mono ?_; rintro e w2 ⟨rfl, hb2⟩; have hI := hI.call hb2; refine hK _ _ ?_; try simp only [Act.put, List.setIfInBounds_toArray, List.set_cons_zero, List.set_cons_succ, List.getElem_toArray, List.getElem_cons_succ, List.getElem_cons_zero, World.size_alloc] at hI ⊢; clear hK K))
    all_goals
      refine wpAny_done (by decide +kernel) ?_ _
      go_wp2_with fail
      go_meet
      exact ⟨_, rfl, (hI.one rfl).1, hI.below, (hI.one rfl).2⟩
  case rest =>
    obtain ⟨g4, rfl, hg4, hb4, hB4⟩ := hcut
    obtain ⟨s1, hs1⟩ : ∃ s1, s1 = thru first8 kList (zs.take wl) (wl / 64) := ⟨_, rfl⟩
    have hs8 : s1.length = 8 := by rw [hs1, thru_length, first8_length]
    rw [← hs1] at hB4
    have HS1 := Lib.hid hs1
    have HS8 := Lib.hid hs8
    have HB4 := Lib.hid hB4
    have HF0 := Lib.hid (f0.below hb4 (by omega))
    have HBB := Lib.hid (b1.trans (hb4.mono (by omega)))
    have hZd : ∀ n ∈ zs.drop wl, 0 ≤ n ∧ n ≤ 255 := fun n hn => hz n (List.mem_of_mem_drop hn)
    have hLd : len - wl = (zs.drop wl).length := by rw [List.length_drop, ← Hlen.out]
    have hsz44 : (Tryz.prog.info? 153).map (fun i => i.size) = some (s1.map v32).length := by rw [size44]; simp [hs8]
    have HCUT2 : Hid (∀ w, (Instr.sliceAt 26 (.slice p len cap) (some (.int .i64 (wl : Int))) none none).run Tryz.prog w = .ok (cutV p wl len cap) w) := fun w => by
      have := run_cut_l (P := Tryz.prog) 26 5 p len cap Tryz.underlying26 slice1 .i64 (wl : Int) (by omega) (by omega) w
      rwa [Int.toNat_natCast] at this
    have HZD := Lib.hid hZd
    have HLD := Lib.hid hLd
    clear f0 b1 hb4 hB4 hs1 hs8 hZd hLd hszt z1 HP
    obtain ⟨p2, hp2⟩ : ∃ p2, p2 = if cap = wl then p else p.map (·.add wl) := ⟨_, rfl⟩
    have hA2 : At w p2 ((zs.drop wl).map v8) := by
      have := HA.out.sub wl len cap (by rw [List.length_map, ← Hlen.out]; exact hc)
      rw [List.take_of_length_le (by rw [List.length_map, ← Hlen.out]; exact Nat.le_refl _)] at this
      rw [hp2]; simpa [List.map_drop] using this
    have hn2 : p2 = none → cap - wl = 0 := by
      intro h; rw [hp2] at h
      split at h
      · omega
      · have := hp (by simpa using h); omega
    have HCUT3 : Hid (∀ w, (Instr.sliceAt 26 (.slice p len cap) (some (.int .i64 (wl : Int))) none none).run Tryz.prog w = .ok (.slice p2 (len - wl) (cap - wl)) w) := fun w => by
      rw [HCUT2.out w, hp2]; rfl
    have HA2 := Lib.hid hA2
    clear hp2 hA2 HCUT2
    go_wp2_with fail
    refine wp_region_held (S := fun wv => Blk wv g4 (s1.map v32) 153) (by kernel_rfl) ?_
    change wpAnyH _ _ _ _ _ _ _ _ (World.drew _)
    have hS : Blk wc.drew g4 (s1.map v32) 153 := HB4.out.drew
    have hF : Blk wc.drew w.heap.size (zero32.map v8) 25 := HF0.out.drew
    have hBw : Below w.heap.size w wc.drew := HBB.out.drew
    generalize wc.drew = wv at hS hF hBw ⊢
    refine wpAnyH_take (i := 0) rfl (by kernel_rfl) (by kernel_rfl) (by kernel_rfl) (fun _ _ _ h => h) (yieldsIf_load_row rfl 153 (.tmp 4) rfl _ rfl _ _ _ (fun _ h => h) (Tryz.underlying153) rfl hsz44) hS ?_
    simp only [Act.put, List.setIfInBounds_toArray, List.set_cons_zero, List.set_cons_succ, List.getElem_toArray, List.getElem_cons_succ, List.getElem_cons_zero]
    refine wpAnyH_take (i := 1) rfl (by kernel_rfl) (by kernel_rfl) (by kernel_rfl) (fun _ _ _ h => h) (Yields.yieldsIf (yields_move rfl _ rfl (.slice p len cap) rfl)) hS ?_
    simp only [Act.put, List.setIfInBounds_toArray, List.set_cons_zero, List.set_cons_succ, List.getElem_toArray, List.getElem_cons_succ, List.getElem_cons_zero]
    refine wpAnyH_take (i := 2) rfl (by kernel_rfl) (by kernel_rfl) (by kernel_rfl) (fun _ _ _ h => h) (Yields.yieldsIf (yields_move rfl _ rfl (.int .i64 (wl : Int)) rfl)) hS ?_
    simp only [Act.put, List.setIfInBounds_toArray, List.set_cons_zero, List.set_cons_succ, List.getElem_toArray, List.getElem_cons_succ, List.getElem_cons_zero]
    refine wpAnyH_take (i := 3) rfl (by kernel_rfl) (by kernel_rfl) (by kernel_rfl) (fun _ _ _ h => h) (Yields.yieldsIf (yields_cut rfl 26 (.tmp 17) (some (.tmp 18)) none rfl _ HCUT3.out)) hS ?_
    simp only [Act.put, List.setIfInBounds_toArray, List.set_cons_zero, List.set_cons_succ, List.getElem_toArray, List.getElem_cons_succ, List.getElem_cons_zero]
    refine wpAnyH_take (i := 4) rfl (by kernel_rfl) (by kernel_rfl) (by kernel_rfl) (fun _ _ _ h => h) (Yields.yieldsIf (yields_move rfl _ rfl (.slice p len cap) rfl)) hS ?_
    simp only [Act.put, List.setIfInBounds_toArray, List.set_cons_zero, List.set_cons_succ, List.getElem_toArray, List.getElem_cons_succ, List.getElem_cons_zero]
    refine wpAnyH_take (i := 5) (v := .int .i64 (len : Int)) rfl (by kernel_rfl) (by kernel_rfl) (by kernel_rfl) (fun _ _ _ h => h) (Or.inl ⟨by rfl, fun _ _ => ?_⟩) hS ?_
    · go_simp
    simp only [Act.put, List.setIfInBounds_toArray, List.set_cons_zero, List.set_cons_succ, List.getElem_toArray, List.getElem_cons_succ, List.getElem_cons_zero]
    refine wpAnyH_take (i := 6) (v := .int .u64 (len : Int)) rfl (by kernel_rfl) (by kernel_rfl) (by kernel_rfl) (fun _ _ _ h => h) (Or.inl ⟨by rfl, fun _ _ => ?_⟩) hS ?_
    · go_simp
      exact IntWalk.u64_in _ (by omega)
    try simp only [Act.put, List.setIfInBounds_toArray, List.set_cons_zero, List.set_cons_succ, List.getElem_toArray, List.getElem_cons_succ, List.getElem_cons_zero]
    obtain ⟨t, ht⟩ : ∃ t, t = ending (zs.drop wl) (len : Int) := ⟨_, rfl⟩
    have HT := Lib.hid ht
    have htz : ∀ n ∈ t, 0 ≤ n ∧ n ≤ 255 := by rw [ht]; exact ending_bd _ _ HZD.out
    have HTZ := Lib.hid htz
    clear ht htz
    refine wpAnyH_ready (rs := [7]) ?_ (List.cons_ne_nil _ _) (ready_stepH rfl rfl (fun K hK => ?_) AllReadyH.nil)
    · decide +kernel
    go_simp
    refine (ending_len (zs.drop wl) (len : Int) p2 (len - wl) (cap - wl) wv HLD.out hw3 (HA2.out.below hBw) (by omega) hn2 (by omega)).mono ?_
    rintro e w5 ⟨v5, rfl, hown5, hb5⟩
    rw [← HT.out] at hown5
    obtain ⟨p5, c5, rfl, hc5, hm5, hA5, hl5, hn5⟩ := own_at hown5
    have hS5 := hS.below hb5 hS.lt
    have hF5 := hF.below hb5 hF.lt
    have hB5 := hBw.trans (hb5.mono hBw.size)
    refine hK _ _ hS5 ?_
    try simp only [Act.put, List.setIfInBounds_toArray, List.set_cons_zero, List.set_cons_succ, List.getElem_toArray, List.getElem_cons_succ, List.getElem_cons_zero]
    clear hK K hown5 hb5
    refine wpAnyH_ready (rs := [8]) ?_ (List.cons_ne_nil _ _) (ready_stepH rfl rfl (fun K hK => ?_) AllReadyH.nil)
    · decide +kernel
    go_simp
    refine (through_any s1 t p5 c5 w5 HS8.out HTZ.out hA5 hc5 (by unfold maxLen at hm5; omega)).mono ?_
    rintro e w6 ⟨rfl, hb6⟩
    refine hK _ _ (hS5.below hb6 hS5.lt) ?_
    try simp only [Act.put, List.setIfInBounds_toArray, List.set_cons_zero, List.set_cons_succ, List.getElem_toArray, List.getElem_cons_succ, List.getElem_cons_zero]
    clear hK K
    refine wpAnyH_ready (rs := [9]) ?_ (List.cons_ne_nil _ _) (ready_stepH rfl rfl (fun K hK => ?_) AllReadyH.nil)
    · decide +kernel
    go_simp
    refine (tell_any (thru s1 kList t (t.length / 64)) w6 (by rw [thru_length, HS8.out])).mono ?_
    rintro e w7 ⟨rfl, hb7⟩
    have hS6 := hS5.below hb6 hS5.lt
    have hF6 := hF5.below hb6 hF5.lt
    have hF7 := hF6.below hb7 hF6.lt
    have hB7 := (hB5.trans (hb6.mono hB5.size)).trans (hb7.mono (hB5.trans (hb6.mono hB5.size)).size)
    refine hK _ _ (hS6.below hb7 hS6.lt) ?_
    try simp only [Act.put, List.setIfInBounds_toArray, List.set_cons_zero, List.set_cons_succ, List.getElem_toArray, List.getElem_cons_succ, List.getElem_cons_zero]
    clear hK K
    have hsz32 : (Tryz.prog.info? 25).map (fun i => i.size) = some ((tellUpto (thru s1 kList t (t.length / 64)) 32).map v8).toArray.size := by rw [size26]; simp [tellUpto_length]
    refine wpAnyH_ready (rs := [10]) ?_ (List.cons_ne_nil _ _) (ready_stepH rfl rfl (fun K hK => ?_) AllReadyH.nil)
    · decide +kernel
    refine wp_store_row 25 _ _ rfl _ _ rfl rfl _ _ hF7 hsz32 (by simp [zero32_length, tellUpto_length]) (one8 _) ?_
    refine hK _ _ ((hS6.below hb7 hS6.lt).rowOther _ (by omega)) ?_
    try simp only [Act.put, List.setIfInBounds_toArray, List.set_cons_zero, List.set_cons_succ, List.getElem_toArray, List.getElem_cons_succ, List.getElem_cons_zero]
    clear hK K
    refine wpAnyH_done (by decide +kernel) ?_ _
    go_wp2_with fail
    have hfin : Sha.sum zs = tellUpto (thru s1 kList t (t.length / 64)) 32 := by
      rw [sum_eq, ← Hwl.out, HT.out, HS1.out, ← HLw.out, ← Hlen.out]
    refine bodyPost_ret (v := .agg ((tellUpto (thru s1 kList t (t.length / 64)) 32).map v8).toArray) ?_ rfl ⟨by rw [hfin], Below.setRow hB7 (by omega) _⟩
    exact results_cell_row rfl _ _ _ _ _ _ _ rfl (hF7.row _) (Tryz.underlying25) rfl hsz32
end
section
set_option linter.unusedSimpArgs false
set_option linter.unusedVariables false
open Go.RowKit Sha Fct
theorem len32 {α : Type} (l : List α) (h : l.length = 32) : ∃ a0 a1 a2 a3 a4 a5 a6 a7 a8 a9 a10 a11 a12 a13 a14 a15 a16 a17 a18 a19 a20 a21 a22 a23 a24 a25 a26 a27 a28 a29 a30 a31, l = [a0, a1, a2, a3, a4, a5, a6, a7, a8, a9, a10, a11, a12, a13, a14, a15, a16, a17, a18, a19, a20, a21, a22, a23, a24, a25, a26, a27, a28, a29, a30, a31] := by
  obtain ⟨a0, l, rfl⟩ := List.exists_cons_of_length_eq_add_one h
  replace h := Nat.succ.inj h
  obtain ⟨a1, l, rfl⟩ := List.exists_cons_of_length_eq_add_one h
  replace h := Nat.succ.inj h
  obtain ⟨a2, l, rfl⟩ := List.exists_cons_of_length_eq_add_one h
  replace h := Nat.succ.inj h
  obtain ⟨a3, l, rfl⟩ := List.exists_cons_of_length_eq_add_one h
  replace h := Nat.succ.inj h
  obtain ⟨a4, l, rfl⟩ := List.exists_cons_of_length_eq_add_one h
  replace h := Nat.succ.inj h
  obtain ⟨a5, l, rfl⟩ := List.exists_cons_of_length_eq_add_one h
  replace h := Nat.succ.inj h
  obtain ⟨a6, l, rfl⟩ := List.exists_cons_of_length_eq_add_one h
  replace h := Nat.succ.inj h
  obtain ⟨a7, l, rfl⟩ := List.exists_cons_of_length_eq_add_one h
  replace h := Nat.succ.inj h
  obtain ⟨a8, l, rfl⟩ := List.exists_cons_of_length_eq_add_one h
  replace h := Nat.succ.inj h
  obtain ⟨a9, l, rfl⟩ := List.exists_cons_of_length_eq_add_one h
  replace h := Nat.succ.inj h
  obtain ⟨a10, l, rfl⟩ := List.exists_cons_of_length_eq_add_one h
  replace h := Nat.succ.inj h
  obtain ⟨a11, l, rfl⟩ := List.exists_cons_of_length_eq_add_one h
  replace h := Nat.succ.inj h
  obtain ⟨a12, l, rfl⟩ := List.exists_cons_of_length_eq_add_one h
  replace h := Nat.succ.inj h
  obtain ⟨a13, l, rfl⟩ := List.exists_cons_of_length_eq_add_one h
  replace h := Nat.succ.inj h
  obtain ⟨a14, l, rfl⟩ := List.exists_cons_of_length_eq_add_one h
  replace h := Nat.succ.inj h
  obtain ⟨a15, l, rfl⟩ := List.exists_cons_of_length_eq_add_one h
  replace h := Nat.succ.inj h
  obtain ⟨a16, l, rfl⟩ := List.exists_cons_of_length_eq_add_one h
  replace h := Nat.succ.inj h
  obtain ⟨a17, l, rfl⟩ := List.exists_cons_of_length_eq_add_one h
  replace h := Nat.succ.inj h
  obtain ⟨a18, l, rfl⟩ := List.exists_cons_of_length_eq_add_one h
  replace h := Nat.succ.inj h
  obtain ⟨a19, l, rfl⟩ := List.exists_cons_of_length_eq_add_one h
  replace h := Nat.succ.inj h
  obtain ⟨a20, l, rfl⟩ := List.exists_cons_of_length_eq_add_one h
  replace h := Nat.succ.inj h
  obtain ⟨a21, l, rfl⟩ := List.exists_cons_of_length_eq_add_one h
  replace h := Nat.succ.inj h
  obtain ⟨a22, l, rfl⟩ := List.exists_cons_of_length_eq_add_one h
  replace h := Nat.succ.inj h
  obtain ⟨a23, l, rfl⟩ := List.exists_cons_of_length_eq_add_one h
  replace h := Nat.succ.inj h
  obtain ⟨a24, l, rfl⟩ := List.exists_cons_of_length_eq_add_one h
  replace h := Nat.succ.inj h
  obtain ⟨a25, l, rfl⟩ := List.exists_cons_of_length_eq_add_one h
  replace h := Nat.succ.inj h
  obtain ⟨a26, l, rfl⟩ := List.exists_cons_of_length_eq_add_one h
  replace h := Nat.succ.inj h
  obtain ⟨a27, l, rfl⟩ := List.exists_cons_of_length_eq_add_one h
  replace h := Nat.succ.inj h
  obtain ⟨a28, l, rfl⟩ := List.exists_cons_of_length_eq_add_one h
  replace h := Nat.succ.inj h
  obtain ⟨a29, l, rfl⟩ := List.exists_cons_of_length_eq_add_one h
  replace h := Nat.succ.inj h
  obtain ⟨a30, l, rfl⟩ := List.exists_cons_of_length_eq_add_one h
  replace h := Nat.succ.inj h
  obtain ⟨a31, l, rfl⟩ := List.exists_cons_of_length_eq_add_one h
  replace h := Nat.succ.inj h
  have h0 := List.eq_nil_of_length_eq_zero h
  subst h0
  exact ⟨_, _, _, _, _, _, _, _, _, _, _, _, _, _, _, _, _, _, _, _, _, _, _, _, _, _, _, _, _, _, _, _, rfl⟩
theorem built_set (k s : Int) : Tryz.prog.built 28 [(0, .int .i64 k), (1, .int .i64 s)] = some (fcells ⟨k, s, 0, 0, 0, Fld.zero32, []⟩ none 0).toArray := by unfold fcells; kernel_rfl
theorem built_blob (k : Int) (D B : List Int) (hD : D.length = 32) (q : Option Addr) (n c : Nat) (hn : B.length = n) : Tryz.prog.built 28 [(0, .int .i64 k), (4, .agg (D.map v8).toArray), (5, .slice q n c)] = some (fcells ⟨k, 0, 0, 0, 0, D, B⟩ q c).toArray := by
  subst hn
  obtain ⟨a0, a1, a2, a3, a4, a5, a6, a7, a8, a9, a10, a11, a12, a13, a14, a15, a16, a17, a18, a19, a20, a21, a22, a23, a24, a25, a26, a27, a28, a29, a30, a31, rfl⟩ := len32 D hD
  unfold fcells; kernel_rfl
theorem built_keep (k s : Int) (D : List Int) (hD : D.length = 32) : Tryz.prog.built 28 [(0, .int .i64 k), (1, .int .i64 s), (4, .agg (D.map v8).toArray)] = some (fcells ⟨k, s, 0, 0, 0, D, []⟩ none 0).toArray := by
  obtain ⟨a0, a1, a2, a3, a4, a5, a6, a7, a8, a9, a10, a11, a12, a13, a14, a15, a16, a17, a18, a19, a20, a21, a22, a23, a24, a25, a26, a27, a28, a29, a30, a31, rfl⟩ := len32 D hD
  unfold fcells; kernel_rfl
theorem built_hint (k h s : Int) (D : List Int) (hD : D.length = 32) : Tryz.prog.built 28 [(0, .int .i64 k), (2, .int .i64 h), (1, .int .i64 s), (4, .agg (D.map v8).toArray)] = some (fcells ⟨k, s, h, 0, 0, D, []⟩ none 0).toArray := by
  obtain ⟨a0, a1, a2, a3, a4, a5, a6, a7, a8, a9, a10, a11, a12, a13, a14, a15, a16, a17, a18, a19, a20, a21, a22, a23, a24, a25, a26, a27, a28, a29, a30, a31, rfl⟩ := len32 D hD
  unfold fcells; kernel_rfl
theorem built_vote (k s n o : Int) (B : List Int) (q : Option Addr) (m c : Nat) (hm : B.length = m) : Tryz.prog.built 28 [(0, .int .i64 k), (1, .int .i64 s), (3, .agg #[.int .i64 n, .int .i64 o]), (5, .slice q m c)] = some (fcells ⟨k, s, 0, n, o, Fld.zero32, B⟩ q c).toArray := by subst hm; unfold fcells; kernel_rfl
end
section
set_option linter.unusedSimpArgs false
set_option linter.unusedVariables false
open Go.RowKit Sha Fct
@[irreducible] def allocOp (t : TypeId) : Sem Next := do pure (.value (← Instr.alloc t true (.tuple #[])))
@[irreducible] def storeOp (t : TypeId) (x v : Value) : Sem Next := do Instr.storeAt t x v; pure .skip
@[irreducible] def boxOp (t : TypeId) (x : Value) : Sem Next := do pure (.value (← Instr.box t x))
@[irreducible] def makeOp (t : TypeId) (parts : Array (Nat × Value)) : Sem Next := do pure (.value (← Instr.build t parts))
section
variable (ρ : Operand → Value) (dst : Option Tmp) (ty : TypeId) (pos : String) (after : Array Edge) (guard : Option (Nat × Bool)) (x y : Operand) (parts : Array (Nat × Operand)) (len : Nat)
theorem execOp_allocFact : execOp ρ { dst := dst, op := .alloc 28, type := ty, pos := pos, after := after, guard := guard } = allocOp 28 := by unfold allocOp; rfl
theorem execOp_allocSte : execOp ρ { dst := dst, op := .alloc 47, type := ty, pos := pos, after := after, guard := guard } = allocOp 47 := by unfold allocOp; rfl
theorem execOp_storeFact : execOp ρ { dst := dst, op := .store 28 x y, type := ty, pos := pos, after := after, guard := guard } = storeOp 28 (ρ x) (ρ y) := by unfold storeOp; rfl
theorem execOp_storeSte : execOp ρ { dst := dst, op := .store 47 x y, type := ty, pos := pos, after := after, guard := guard } = storeOp 47 (ρ x) (ρ y) := by unfold storeOp; rfl
theorem execOp_boxFact : execOp ρ { dst := dst, op := .box 28 x, type := ty, pos := pos, after := after, guard := guard } = boxOp 28 (ρ x) := by unfold boxOp; rfl
theorem execOp_boxSte : execOp ρ { dst := dst, op := .box 47 x, type := ty, pos := pos, after := after, guard := guard } = boxOp 47 (ρ x) := by unfold boxOp; rfl
theorem execOp_loadSte : execOp ρ { dst := dst, op := .load 47 x, type := ty, pos := pos, after := after, guard := guard } = loadOp 47 (ρ x) := by unfold loadOp; rfl
theorem execOp_makeFact : execOp ρ { dst := dst, op := .build 28 parts, type := ty, pos := pos, after := after, guard := guard } = makeOp 28 (parts.map fun (i, x) => (i, ρ x)) := by unfold makeOp; rfl
theorem execOp_makeSte : execOp ρ { dst := dst, op := .build 47 parts, type := ty, pos := pos, after := after, guard := guard } = makeOp 47 (parts.map fun (i, x) => (i, ρ x)) := by unfold makeOp; rfl
theorem execOp_buildFacts : execOp ρ { dst := dst, op := .buildSlice 30 len parts, type := ty, pos := pos, after := after, guard := guard } = buildOp 30 len (parts.map fun (i, x) => (i, ρ x)) := by unfold buildOp; rfl
end
section
variable {P : Program} {t : TypeId} {w : World} {cs old : Array Value}
theorem run_allocOp (w : World) (hz : (P.info? t).map (fun i => i.zero) = some (some (.agg cs))) : (allocOp t).run P w = .ok (.value (.pointer (some ⟨w.heap.size, 0, none⟩))) (w.alloc (.cells cs t)) := by
  have hz' : (zeroValue t).run P w = .ok (.agg cs) w := by
    cases hq : P.info? t with
    | none => simp [hq] at hz
    | some i => simp [hq] at hz; simp [zeroValue, typeInfo, hq, hz]
  unfold allocOp
  simp only [Instr.alloc, Sem.run_bind, hz', Result.andThen_ok, Sem.run_pure]
  rfl
theorem run_boxOp (w : World) : (boxOp t (.agg cs)).run P w = .ok (.value (.pointer (some ⟨w.heap.size, 0, none⟩))) (w.alloc (.cells cs t)) := by
  unfold boxOp
  simp only [Instr.box, Sem.run_bind, Result.andThen_ok, Sem.run_pure]
  rfl
theorem run_storeOp {g : Nat} {te : TypeId} (hg : w.heap[g]? = some (.cells old te (0, 0))) (hi : (P.info? t).map (fun i => i.size) = some cs.size) (ho : old.size = cs.size) (h1 : cs.all (·.oneCell') = true) : (storeOp t (.pointer (some ⟨g, 0, none⟩)) (.agg cs)).run P w = .ok .skip (w.setRow g cs) := by
  unfold storeOp
  simp only [Instr.storeAt, Instr.sureAddr, Sem.run_bind, Sem.run_pure, Result.andThen_ok, run_storeVar_row w g te t old cs hg hi ho h1]
theorem run_storeNew (w : World) (hi : (P.info? t).map (fun i => i.size) = some cs.size) (ho : old.size = cs.size) (h1 : cs.all (·.oneCell') = true) : (storeOp t (.pointer (some ⟨w.heap.size, 0, none⟩)) (.agg cs)).run P (w.alloc (.cells old t)) = .ok .skip (w.alloc (.cells cs t)) := by
  rw [run_storeOp (heap_alloc_new w _) hi ho h1, World.setRow_alloc_new]
theorem World.setRow_alloc_old (w : World) (c c' : Array Value) (t : TypeId) (o : Obj) : ((w.alloc (.cells c t)).alloc o).setRow w.heap.size c' = (w.alloc (.cells c' t)).alloc o := by
  simp only [World.setRow, World.alloc]
  congr 1
  apply Array.ext_getElem?
  intro i
  rw [Array.getElem?_modify, Array.getElem?_push, Array.getElem?_push, Array.getElem?_push, Array.getElem?_push]
  simp only [Array.size_push]
  by_cases h : w.heap.size = i
  · subst h; simp
  · simp [h, show ¬ i = w.heap.size from fun e => h e.symm]
theorem run_storeNew2 (w : World) (o : Obj) (hi : (P.info? t).map (fun i => i.size) = some cs.size) (ho : old.size = cs.size) (h1 : cs.all (·.oneCell') = true) : (storeOp t (.pointer (some ⟨w.heap.size, 0, none⟩)) (.agg cs)).run P ((w.alloc (.cells old t)).alloc o) = .ok .skip ((w.alloc (.cells cs t)).alloc o) := by
  rw [run_storeOp (old := old) (te := t) ((Blk.new w old t).old o) hi ho h1, World.setRow_alloc_old]
theorem run_loadRow {g : Nat} {te : TypeId} {d : TypeDesc} (hg : w.heap[g]? = some (.cells cs te (0, 0))) (hu : P.underlying t = some d) (hd : (match d with | .struct _ | .array _ _ => true | _ => false) = true) (hi : (P.info? t).map (fun i => i.size) = some cs.size) : (loadOp t (.pointer (some ⟨g, 0, none⟩))).run P w = .ok (.value (.agg cs)) w := by
  refine run_loadOp ?_
  simp only [Instr.loadAt, Instr.sureAddr, Sem.run_bind, Sem.run_pure, Result.andThen_ok, run_loadVar_row w g te t cs (0, 0) d hg hu hd hi]
theorem run_makeOp {parts : Array (Nat × Value)} (w : World) (h : P.built t parts.toList = some cs) : (makeOp t parts).run P w = .ok (.value (.agg cs)) w := by
  unfold makeOp; simp only [Sem.run_bind, run_build w t _ cs h, Result.andThen_ok, Sem.run_pure]
end
abbrev fz : Fac := ⟨0, 0, 0, 0, 0, Fld.zero32, []⟩
theorem zlen : Fld.zero32.length = 32 := by simp [Fld.zero32]
theorem fact_zero1 : (Tryz.prog.info? 28).map (fun i => i.zero) = some (some (.agg (fcells fz none 0).toArray)) := by unfold fcells; kernel_rfl
theorem fact_sizeA {x : Fac} (hx : x.D.length = 32) (q : Option Addr) (c : Nat) : (Tryz.prog.info? 28).map (fun i => i.size) = some (fcells x q c).toArray.size := by
  rw [fact_size, List.size_toArray, fcells_length hx]
theorem fact_sizeE {x y : Fac} (hx : x.D.length = 32) (hy : y.D.length = 32) (q r : Option Addr) (c d : Nat) : (fcells x q c).toArray.size = (fcells y r d).toArray.size := by
  rw [List.size_toArray, List.size_toArray, fcells_length hx, fcells_length hy]
theorem fact_all1 (x : Fac) (q : Option Addr) (c : Nat) : (fcells x q c).toArray.all (·.oneCell') = true := by
  rw [Array.all_eq_true_iff_forall_mem]; intro v hv; exact fcells_one x q c v (by simpa using hv)
theorem alloc_fact (w : World) : (allocOp 28).run Tryz.prog w = .ok (.value (.pointer (some ⟨w.heap.size, 0, none⟩))) (w.alloc (.cells (fcells fz none 0).toArray 28)) := run_allocOp w fact_zero1
theorem store_fact {x y : Fac} {q r : Option Addr} {c d : Nat} {w : World} {g : Nat} (h : Blk w g (fcells y r d) 28) (hy : y.D.length = 32) (hx : x.D.length = 32) : (storeOp 28 (.pointer (some ⟨g, 0, none⟩)) (.agg (fcells x q c).toArray)).run Tryz.prog w = .ok .skip (w.setRow g (fcells x q c).toArray) :=
  run_storeOp h (fact_sizeA hx q c) (fact_sizeE hy hx ..) (fact_all1 ..)
theorem store_fact1 (w : World) {x : Fac} {q : Option Addr} {c : Nat} (hx : x.D.length = 32) : (storeOp 28 (.pointer (some ⟨w.heap.size, 0, none⟩)) (.agg (fcells x q c).toArray)).run Tryz.prog (w.alloc (.cells (fcells fz none 0).toArray 28)) = .ok .skip (w.alloc (.cells (fcells x q c).toArray 28)) :=
  run_storeNew w (fact_sizeA hx q c) (fact_sizeE zlen hx ..) (fact_all1 ..)
theorem store_fact2 (w : World) (o : Obj) {x : Fac} {q : Option Addr} {c : Nat} (hx : x.D.length = 32) : (storeOp 28 (.pointer (some ⟨w.heap.size, 0, none⟩)) (.agg (fcells x q c).toArray)).run Tryz.prog ((w.alloc (.cells (fcells fz none 0).toArray 28)).alloc o) = .ok .skip ((w.alloc (.cells (fcells x q c).toArray 28)).alloc o) :=
  run_storeNew2 w o (fact_sizeA hx q c) (fact_sizeE zlen hx ..) (fact_all1 ..)
theorem load_factB {x : Fac} {q : Option Addr} {c : Nat} {w : World} {g : Nat} (h : Blk w g (fcells x q c) 28) (hx : x.D.length = 32) : (loadOp 28 (.pointer (some ⟨g, 0, none⟩))).run Tryz.prog w = .ok (.value (.agg (fcells x q c).toArray)) w :=
  run_loadRow h Tryz.underlying28 rfl (fact_sizeA hx q c)
theorem ste_zero1 : (Tryz.prog.info? 47).map (fun i => i.zero) = some (some (.agg (scells Ste.none Hds.none).toArray)) := by rw [scells_eq]; kernel_rfl
theorem ste_size : (Tryz.prog.info? 47).map (fun i => i.size) = some 7 := by kernel_rfl
theorem ste_sizeA (s : Ste) (h : Hds) : (Tryz.prog.info? 47).map (fun i => i.size) = some (scells s h).toArray.size := by rw [ste_size, List.size_toArray, scells_length]
theorem ste_sizeE (s t : Ste) (h k : Hds) : (scells s h).toArray.size = (scells t k).toArray.size := by rw [List.size_toArray, List.size_toArray, scells_length, scells_length]
theorem ste_all1 (s : Ste) (h : Hds) : (scells s h).toArray.all (·.oneCell') = true := by
  rw [Array.all_eq_true_iff_forall_mem]; intro v hv; exact scells_one s h v (by simpa using hv)
theorem ste_built : Tryz.prog.built 47 [] = some (scells Ste.none Hds.none).toArray := by rw [scells_eq]; kernel_rfl
theorem alloc_ste (w : World) : (allocOp 47).run Tryz.prog w = .ok (.value (.pointer (some ⟨w.heap.size, 0, none⟩))) (w.alloc (.cells (scells Ste.none Hds.none).toArray 47)) := run_allocOp w ste_zero1
theorem make_ste (w : World) : (makeOp 47 #[]).run Tryz.prog w = .ok (.value (.agg (scells Ste.none Hds.none).toArray)) w := run_makeOp w ste_built
theorem store_ste {s t : Ste} {h k : Hds} {w : World} {g : Nat} (hb : Blk w g (scells t k) 47) : (storeOp 47 (.pointer (some ⟨g, 0, none⟩)) (.agg (scells s h).toArray)).run Tryz.prog w = .ok .skip (w.setRow g (scells s h).toArray) :=
  run_storeOp hb (ste_sizeA s h) (ste_sizeE ..) (ste_all1 ..)
theorem store_ste1 (w : World) (s : Ste) (h : Hds) : (storeOp 47 (.pointer (some ⟨w.heap.size, 0, none⟩)) (.agg (scells s h).toArray)).run Tryz.prog (w.alloc (.cells (scells Ste.none Hds.none).toArray 47)) = .ok .skip (w.alloc (.cells (scells s h).toArray 47)) :=
  run_storeNew w (ste_sizeA s h) (ste_sizeE ..) (ste_all1 ..)
theorem load_steB {s : Ste} {h : Hds} {w : World} {g : Nat} (hb : Blk w g (scells s h) 47) : (loadOp 47 (.pointer (some ⟨g, 0, none⟩))).run Tryz.prog w = .ok (.value (.agg (scells s h).toArray)) w :=
  run_loadRow hb Tryz.underlying47 rfl (ste_sizeA s h)
end
end Go.Proofs.YtokpabkcaofahaaGreat
