/-
  The program's disks: bytes laid, made firm, put in the log's place.
-/
import Derived.Test.YtooljhdfmfkpeaaDkZc
import Derived.Shelf.Abstract
namespace Go.Proofs.Ytooljhdfmfkpeaa
set_option linter.unusedSimpArgs false
set_option linter.unusedVariables false
open Go.RowKit Sha Dsk
theorem lay_do (b : Nat) (vL vA : Value) (s : DState) (zs : List Int) (n : Nat) (p : Option Addr) (cap : Nat) (w w2 : World) (hn : zs.length = n) (hm : n ≤ 1000000000) (hz : GoodC w zs p cap) (hap : ApartC zs p (fpP b vL vA))
    (hk : Ok { Dsk.step s with log := s.log ++ zs }) (h2 : PD w2 b vL vA (Dsk.step s)) (ht : Touch [b] w w2) (bo : Bool) :
    Calls Try.prog 54 #[.pointer (some ⟨b, 1, none⟩), .slice p n cap, .bool bo] w2 (DoDone b (fpP b vL vA) { Dsk.step s with log := s.log ++ zs } w2) := by
  have hsm := h2.ok.small
  have hle := hz.le
  refine (play_any b 1 _ _ vL s.log.length _ zs n p cap bo w2 h2.blk rfl h2.log (by have h3 : (Dsk.step s).log.length = s.log.length := rfl; omega) h2.nL hn hm (hz.at_.touchC (Touch.of_blockP ht) hap) (by omega) hz.nil).mono ?_
  rintro e w' ⟨rfl, v5, w5, h5, hg, hp, rfl⟩
  have hG := h2.growL (zs := zs) (by rfl) (by rw [List.length_map] at h5; exact h5) hg hp hk
  exact ⟨rfl, _, ⟨v5, vA, rfl, hG.1⟩, hG.2.1, hG.2.2⟩
theorem layN_do (b : Nat) (vL vA : Value) (s : DState) (zs : List Int) (n : Nat) (p : Option Addr) (cap : Nat) (w w2 : World) (hn : zs.length = n) (hm : n ≤ 1000000000) (hz : GoodC w zs p cap) (hap : ApartC zs p (fpP b vL vA))
    (hk : Ok { Dsk.step s with next := s.next ++ zs }) (h2 : PD w2 b vL vA (Dsk.step s)) (ht : Touch [b] w w2) (bo : Bool) :
    Calls Try.prog 54 #[.pointer (some ⟨b, 3, none⟩), .slice p n cap, .bool bo] w2 (DoDone b (fpP b vL vA) { Dsk.step s with next := s.next ++ zs } w2) := by
  have hsm := h2.ok.small
  have hle := hz.le
  refine (play_any b 3 _ _ vA s.next.length _ zs n p cap bo w2 h2.blk rfl h2.next (by have h3 : (Dsk.step s).next.length = s.next.length := rfl; omega) h2.nA hn hm (hz.at_.touchC (Touch.of_blockP ht) hap) (by omega) hz.nil).mono ?_
  rintro e w' ⟨rfl, v5, w5, h5, hg, hp, rfl⟩
  have hG := h2.growN (zs := zs) (by rfl) (by rw [List.length_map] at h5; exact h5) hg hp hk
  exact ⟨rfl, _, ⟨vL, v5, rfl, hG.1⟩, hG.2.1, hG.2.2⟩
set_option maxRecDepth 100000 in
set_option maxHeartbeats 2000000 in
theorem pappend_any (b : Nat) (fp : List Nat) (s : DState) (zs : List Int) (n : Nat) (p : Option Addr) (cap : Nat) (w : World) (h : ProgDisk w b fp s) (hs : s.steps ≤ 1000000000) (hn : zs.length = n) (hm : n ≤ 1000000000) (hz : GoodC w zs p cap) (hap : ApartC zs p fp) :
    Calls Try.prog 21 #[optr b, .slice p n cap] w (ODone ProgDisk b fp (appS s zs) (i64v (appE s n)) w) := by
  obtain ⟨vL, vA, rfl, h⟩ := h
  have HR := Lib.hid h
  have HZ := Lib.hid hz
  have HAP := Lib.hid hap
  have HN := Lib.hid hn
  have HS := Lib.hid hs
  have HM := Lib.hid hm
  have HRF := Lib.hid (pcrowded_any b vL vA s n w h hm)
  unfold PCrowd at HRF
  clear h hz hap hn hs hm
  by_cases h0 : bad s n = 0
  · have HA := Lib.hid (app_in (s := s) (b := zs) (by rw [HN.out]; exact h0))
    have HO := Lib.hid (bad_zero.1 h0).1
    have HOK := Lib.hid (app_ok (b := zs) HR.out.ok HZ.out.bytes)
    rw [h0] at HRF
    clear h0
    go_enter Try.func21, Try.ntmps21
    go_wp2_with fail
    refine HRF.out.mono ?_
    rintro e w1 ⟨rfl, k, hw1⟩
    have R1 := Lib.hid (show PD w1 b vL vA s by rw [hw1]; exact HR.out.keep fun _ _ => rfl)
    have T1 := Lib.hid (show Touch (fpP b vL vA) w w1 by rw [hw1]; exact (Touch.refl _ w).drewN k)
    have Z1 := Lib.hid (show GoodC w1 zs p cap by rw [hw1]; exact HZ.out.blocks fun _ _ => rfl)
    clear hw1 HRF
    go_wp2_with fail
    refine (pstep_any 54 (enters_of Try.func54 (by kernel_rfl) rfl) _ _ b vL vA s (appS s zs) w1 R1.out HS.out HO.out (by rw [HA.out.2.1]) (fun w2 hp ht => by rw [HA.out.2.1]; exact lay_do b vL vA s zs n p cap w1 w2 HN.out HM.out Z1.out HAP.out (by have h1 := HOK.out; rw [HA.out.2.1] at h1; exact h1) hp ht _)).mono ?_
    rintro e w2 ⟨rfl, fp2, hr2, ht2, hf2⟩
    have R2 := Lib.hid hr2
    have T2 := Lib.hid ht2
    have F2 := Lib.hid hf2
    have HTL := Lib.hid (show appE s n = told s by have := HA.out.1; rwa [HN.out] at this)
    clear hr2 ht2 hf2
    generalize told s = z at *
    go_wp2_with fail
    go_ret
    exact ⟨by rw [HTL.out]; rfl, fp2, R2.out, T1.out.trans T2.out (From.refl _ _), fun k hk => by rcases F2.out k hk with h' | h'; exact .inl h'; exact .inr (Nat.le_trans T1.out.size h')⟩
  · have HA := Lib.hid (app_out (s := s) (b := zs) (by rw [HN.out]; exact h0))
    have hq : (bad s n == 0) = false := by rw [beq_eq_false_iff_ne]; exact h0
    have HA1 := Lib.hid (show appE s n = bad s n by have := HA.out.1; rwa [HN.out] at this)
    generalize bad s n = z at *
    go_enter Try.func21, Try.ntmps21
    go_wp2_with fail
    refine HRF.out.mono ?_
    rintro e w1 ⟨rfl, k, hw1⟩
    have R1 := Lib.hid (show PD w1 b vL vA s by rw [hw1]; exact HR.out.keep fun _ _ => rfl)
    have T1 := Lib.hid (show Touch (fpP b vL vA) w w1 by rw [hw1]; exact (Touch.refl _ w).drewN k)
    clear hw1 HRF
    go_wp2_with fail
    go_ret
    exact ⟨by rw [HA1.out]; rfl, _, by rw [HA.out.2.1]; exact ⟨vL, vA, rfl, R1.out⟩, T1.out, From.refl _ _⟩
set_option maxRecDepth 100000 in
set_option maxHeartbeats 2000000 in
theorem pnext_any (b : Nat) (fp : List Nat) (s : DState) (zs : List Int) (n : Nat) (p : Option Addr) (cap : Nat) (w : World) (h : ProgDisk w b fp s) (hs : s.steps ≤ 1000000000) (hn : zs.length = n) (hm : n ≤ 1000000000) (hz : GoodC w zs p cap) (hap : ApartC zs p fp) :
    Calls Try.prog 23 #[optr b, .slice p n cap] w (ODone ProgDisk b fp (nextS s zs) (i64v (appE s n)) w) := by
  obtain ⟨vL, vA, rfl, h⟩ := h
  have HR := Lib.hid h
  have HZ := Lib.hid hz
  have HAP := Lib.hid hap
  have HN := Lib.hid hn
  have HS := Lib.hid hs
  have HM := Lib.hid hm
  have HRF := Lib.hid (pcrowded_any b vL vA s n w h hm)
  unfold PCrowd at HRF
  clear h hz hap hn hs hm
  by_cases h0 : bad s n = 0
  · have HA := Lib.hid (app_in (s := s) (b := zs) (by rw [HN.out]; exact h0))
    have HO := Lib.hid (bad_zero.1 h0).1
    have HOK := Lib.hid (next_ok (b := zs) HR.out.ok HZ.out.bytes)
    rw [h0] at HRF
    clear h0
    go_enter Try.func23, Try.ntmps23
    go_wp2_with fail
    refine HRF.out.mono ?_
    rintro e w1 ⟨rfl, k, hw1⟩
    have R1 := Lib.hid (show PD w1 b vL vA s by rw [hw1]; exact HR.out.keep fun _ _ => rfl)
    have T1 := Lib.hid (show Touch (fpP b vL vA) w w1 by rw [hw1]; exact (Touch.refl _ w).drewN k)
    have Z1 := Lib.hid (show GoodC w1 zs p cap by rw [hw1]; exact HZ.out.blocks fun _ _ => rfl)
    clear hw1 HRF
    go_wp2_with fail
    refine (pstep_any 54 (enters_of Try.func54 (by kernel_rfl) rfl) _ _ b vL vA s (nextS s zs) w1 R1.out HS.out HO.out (by rw [HA.out.2.2]) (fun w2 hp ht => by rw [HA.out.2.2]; exact layN_do b vL vA s zs n p cap w1 w2 HN.out HM.out Z1.out HAP.out (by have h1 := HOK.out; rw [HA.out.2.2] at h1; exact h1) hp ht _)).mono ?_
    rintro e w2 ⟨rfl, fp2, hr2, ht2, hf2⟩
    have R2 := Lib.hid hr2
    have T2 := Lib.hid ht2
    have F2 := Lib.hid hf2
    have HTL := Lib.hid (show appE s n = told s by have := HA.out.1; rwa [HN.out] at this)
    clear hr2 ht2 hf2
    generalize told s = z at *
    go_wp2_with fail
    go_ret
    exact ⟨by rw [HTL.out]; rfl, fp2, R2.out, T1.out.trans T2.out (From.refl _ _), fun k hk => by rcases F2.out k hk with h' | h'; exact .inl h'; exact .inr (Nat.le_trans T1.out.size h')⟩
  · have HA := Lib.hid (app_out (s := s) (b := zs) (by rw [HN.out]; exact h0))
    have hq : (bad s n == 0) = false := by rw [beq_eq_false_iff_ne]; exact h0
    have HA1 := Lib.hid (show appE s n = bad s n by have := HA.out.1; rwa [HN.out] at this)
    generalize bad s n = z at *
    go_enter Try.func23, Try.ntmps23
    go_wp2_with fail
    refine HRF.out.mono ?_
    rintro e w1 ⟨rfl, k, hw1⟩
    have R1 := Lib.hid (show PD w1 b vL vA s by rw [hw1]; exact HR.out.keep fun _ _ => rfl)
    have T1 := Lib.hid (show Touch (fpP b vL vA) w w1 by rw [hw1]; exact (Touch.refl _ w).drewN k)
    clear hw1 HRF
    go_wp2_with fail
    go_ret
    exact ⟨by rw [HA1.out]; rfl, _, by rw [HA.out.2.2]; exact ⟨vL, vA, rfl, R1.out⟩, T1.out, From.refl _ _⟩
set_option maxRecDepth 100000 in
set_option maxHeartbeats 2000000 in
theorem psync_any (b : Nat) (fp : List Nat) (s : DState) (w : World) (h : ProgDisk w b fp s) (hs : s.steps ≤ 1000000000) :
    Calls Try.prog 22 #[optr b] w (ODone ProgDisk b fp (syncS s) (i64v (syncE s)) w) := by
  obtain ⟨vL, vA, rfl, h⟩ := h
  have HR := Lib.hid h
  have HS := Lib.hid hs
  by_cases ho : s.out = true
  · have HB := Lib.hid (pbarred_any b vL vA s w h 11 (show (11 : Int) = readE s from (if_pos ho).symm))
    have HE := Lib.hid (show syncE s = 11 from if_pos ho)
    have HSS := Lib.hid (show syncS s = s from if_pos ho)
    clear h ho hs
    go_enter Try.func22, Try.ntmps22
    go_wp2_with fail
    refine HB.out.mono ?_
    rintro e w1 ⟨rfl, rfl⟩
    go_wp2_with fail
    go_ret
    exact ⟨by rw [HE.out]; rfl, _, by rw [HSS.out]; exact ⟨vL, vA, rfl, HR.out⟩, Touch.refl _ _, From.refl _ _⟩
  · have HB := Lib.hid (pbarred_any b vL vA s w h 0 (show (0 : Int) = readE s from (if_neg ho).symm))
    have HO := Lib.hid (show s.out = false by simpa using ho)
    have HE := Lib.hid (show syncE s = told s from if_neg ho)
    have hss : syncS s = if (Dsk.step s).out = true then Dsk.step s else { Dsk.step s with firm := (Dsk.step s).log.length } := by
      unfold syncS
      rw [if_neg ho]
      by_cases hl : s.left = 0
      · rw [if_pos hl, if_pos (by unfold Dsk.step; simp [hl])]
      · rw [if_neg hl, if_neg (by unfold Dsk.step; simp [hl, HO.out])]
        try rfl
    have HSS := Lib.hid hss
    have HSO := Lib.hid (show (syncS s).out = (Dsk.step s).out by rw [hss]; split <;> rfl)
    clear h ho hs hss
    go_enter Try.func22, Try.ntmps22
    go_wp2_with fail
    refine HB.out.mono ?_
    rintro e w1 ⟨rfl, rfl⟩
    go_wp2_with fail
    refine (pstep_any 55 (enters_of Try.func55 (by kernel_rfl) rfl) _ _ b vL vA s (syncS s) w1 HR.out HS.out HO.out HSO.out (fun w2 hp ht => by have h1 := psync_do b vL vA (Dsk.step s) (Dsk.step s).out w2 hp rfl _ rfl; rw [HSS.out]; exact h1)).mono ?_
    rintro e w2 ⟨rfl, fp2, hr2, ht2, hf2⟩
    have R2 := Lib.hid hr2
    have T2 := Lib.hid ht2
    have F2 := Lib.hid hf2
    clear hr2 ht2 hf2
    generalize told s = z at *
    go_wp2_with fail
    go_ret
    exact ⟨by rw [HE.out]; rfl, fp2, R2.out, T2.out, F2.out⟩
set_option maxRecDepth 100000 in
set_option maxHeartbeats 2000000 in
theorem pswitch_any (b : Nat) (fp : List Nat) (s : DState) (w : World) (h : ProgDisk w b fp s) (hs : s.steps ≤ 1000000000) :
    Calls Try.prog 24 #[optr b] w (ODone ProgDisk b fp (swS s) (i64v (syncE s)) w) := by
  obtain ⟨vL, vA, rfl, h⟩ := h
  have HR := Lib.hid h
  have HS := Lib.hid hs
  by_cases ho : s.out = true
  · have HB := Lib.hid (pbarred_any b vL vA s w h 11 (show (11 : Int) = readE s from (if_pos ho).symm))
    have HE := Lib.hid (show syncE s = 11 from if_pos ho)
    have HSS := Lib.hid (show swS s = s from if_pos ho)
    clear h ho hs
    go_enter Try.func24, Try.ntmps24
    go_wp2_with fail
    refine HB.out.mono ?_
    rintro e w1 ⟨rfl, rfl⟩
    go_wp2_with fail
    go_ret
    exact ⟨by rw [HE.out]; rfl, _, by rw [HSS.out]; exact ⟨vL, vA, rfl, HR.out⟩, Touch.refl _ _, From.refl _ _⟩
  · have HB := Lib.hid (pbarred_any b vL vA s w h 0 (show (0 : Int) = readE s from (if_neg ho).symm))
    have HO := Lib.hid (show s.out = false by simpa using ho)
    have HE := Lib.hid (show syncE s = told s from if_neg ho)
    have hss : swS s = if (Dsk.step s).out = true then Dsk.step s else { Dsk.step s with log := (Dsk.step s).next, firm := (Dsk.step s).next.length, next := [] } := by
      unfold swS
      rw [if_neg ho]
      by_cases hl : s.left = 0
      · rw [if_pos hl, if_pos (by unfold Dsk.step; simp [hl])]
      · rw [if_neg hl, if_neg (by unfold Dsk.step; simp [hl, HO.out])]
        try rfl
    have HSS := Lib.hid hss
    have HSO := Lib.hid (show (swS s).out = (Dsk.step s).out by rw [hss]; split <;> rfl)
    clear h ho hs hss
    go_enter Try.func24, Try.ntmps24
    go_wp2_with fail
    refine HB.out.mono ?_
    rintro e w1 ⟨rfl, rfl⟩
    go_wp2_with fail
    refine (pstep_any 56 (enters_of Try.func56 (by kernel_rfl) rfl) _ _ b vL vA s (swS s) w1 HR.out HS.out HO.out HSO.out (fun w2 hp ht => by have h1 := pturn_do b vL vA (Dsk.step s) (Dsk.step s).out w2 hp rfl _ rfl; rw [HSS.out]; exact h1)).mono ?_
    rintro e w2 ⟨rfl, fp2, hr2, ht2, hf2⟩
    have R2 := Lib.hid hr2
    have T2 := Lib.hid ht2
    have F2 := Lib.hid hf2
    clear hr2 ht2 hf2
    generalize told s = z at *
    go_wp2_with fail
    go_ret
    exact ⟨by rw [HE.out]; rfl, fp2, R2.out, T2.out, F2.out⟩
end Go.Proofs.Ytooljhdfmfkpeaa
