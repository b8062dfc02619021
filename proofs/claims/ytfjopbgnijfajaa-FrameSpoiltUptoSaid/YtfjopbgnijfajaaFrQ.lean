/-
  The law package of frames: FrameBack, FrameTorn.
-/
import Derived.Test.YtfjopbgnijfajaaFrP
import Derived.Test.YtfjopbgnijfajaaFrM
import Derived.Test.YtfjopbgnijfajaaPick
namespace Go.Proofs.Ytfjopbgnijfajaa
set_option linter.unusedSimpArgs false
set_option linter.unusedVariables false
open Go.RowKit Sha
theorem join_err {l : List (List Int)} {b : List Int} {er : Int} (h : (b, er) = Frm.join l) (he : er ≠ 0) : b = [] := by
  unfold Frm.join at h
  split at h
  · cases h; exact absurd rfl he
  · cases h; rfl
theorem join_ok {l : List (List Int)} {b : List Int} (h : (b, (0 : Int)) = Frm.join l) : b = Frm.frs l ∧ ∀ x ∈ l, Frm.Rec x := by
  unfold Frm.join at h
  split at h
  · rename_i h0; cases h; exact ⟨rfl, Frm.joinE_ok h0⟩
  · rename_i h0
    have := (Prod.ext_iff.1 h).2
    exact absurd this.symm h0
theorem fsize_rec {x : List Int} (h : Frm.Rec x) (m : Nat) (hm : m = x.length) : fsize (m : Int) = ((8 + m : Nat) : Int) := by
  unfold fsize
  have h1 := h.one
  have h2 := h.most
  rw [if_neg (by omega)]; omega
theorem frs_take {l : List (List Int)} {k : Nat} (hk : k < l.length) : (Frm.frs (l.take (k + 1))).length = (Frm.frs (l.take k)).length + (8 + l[k].length) := by
  rw [List.take_succ_eq_append_getElem hk, Frm.frs_append, Frm.frs_cons, Frm.frs_nil, List.append_nil, List.length_append, Frm.fr_length]
theorem frs_bound (l : List (List Int)) (h : ∀ x ∈ l, Frm.Rec x) (k : Nat) : (Frm.frs (l.take k)).length ≤ 4008 * k := by
  induction k with
  | zero => simp [Frm.frs_nil]
  | succ k ih =>
    by_cases hk : k < l.length
    · rw [frs_take hk]; have := (h _ (List.getElem_mem hk)).most; omega
    · rw [List.take_of_length_le (by omega)] at ih ⊢; omega
theorem frs_many (l : List (List Int)) : l.length ≤ (Frm.frs l).length := by
  induction l with
  | nil => simp
  | cons b l ih => rw [Frm.frs_cons, List.length_append, Frm.fr_length, List.length_cons]; omega
theorem own_good {w : World} {B n : Nat} {v : Value} {xs : List Int} (h : w.ownsRow B 5 1 v n (xs.map v8)) (hb : ∀ m ∈ xs, 0 ≤ m ∧ m ≤ 255) : ∃ p c, v = .slice p n c ∧ xs.length = n ∧ GoodS w (xs, p, c) := by
  obtain ⟨p, cap, hv, hl, hm, hA, hx, hn⟩ := own_at h
  have hxl : xs.length = n := by simpa using hx
  exact ⟨p, cap, hv, hxl, hb, hA, by simp only; omega, by unfold maxLen at hm; simp only; omega, hn⟩
set_option maxRecDepth 100000 in
set_option maxHeartbeats 2000000 in
theorem frback_any (F : FrameOK) (kn : ∀ w : World, Calls Try.prog 5 #[] w fun e w' => e = .returned (.bool true) ∧ Below w.heap.size w w') (l : List (List Int)) (n : Nat) (q : Option Addr) (c : Nat) (w : World) (h : Recs w q n c l) :
    Calls Try.prog 6 #[.slice q n c] w fun e w' => e = .returned (.bool true) ∧ Below w.heap.size w w' := by
  have HT := Lib.hid h
  clear h
  go_enter Try.func6, Try.ntmps6
  go_wp2_with fail
  refine (kn w).mono ?_
  rintro e1 w1 ⟨rfl, hb1⟩
  have B1 := Lib.hid hb1
  clear hb1
  go_wp2_with fail
  refine (flong_any q n c l w1 (HT.out.below B1.out)).mono ?_
  rintro e2 w2 ⟨bb, rfl, hf, rfl⟩
  cases bb with
  | true =>
    go_wp2_with fail
    go_ret
    exact ⟨rfl, B1.out⟩
  | false =>
    have HF := Lib.hid (hf rfl)
    clear hf
    have HNL := Lib.hid HT.out.len
    have hn20 : n ≤ 20 := by have := HF.out.1; have := HNL.out; omega
    have hnc := HT.out.le
    have hcm := HT.out.max
    obtain ⟨⟨b, er⟩, hr⟩ : ∃ r, r = Frm.join l := ⟨_, rfl⟩
    have HR := Lib.hid hr
    have HBY := Lib.hid (fjoin_bytes (l := l) HT.out.bytes)
    rw [← hr] at HBY
    clear hr
    go_wp2_with fail
    refine (F.join l q n c w1 (HT.out.below B1.out) (by omega)).mono ?_
    rw [← HR.out]
    rintro e3 w3 ⟨va, rfl, ho3, hb3⟩
    dsimp only at ho3 HBY ⊢
    obtain ⟨p3, c3, rfl, _, hg3⟩ := own_good ho3.row HBY.out
    have G3 := Lib.hid hg3
    have B3 := Lib.hid (bel_on B1.out hb3)
    clear hb3 ho3 hg3
    by_cases he : er = 0
    · subst he
      have HOKJ := Lib.hid (join_ok HR.out)
      have HS := Lib.hid (show Frm.split b = (l, b.length) by rw [HOKJ.out.1]; exact Frm.split_join HOKJ.out.2)
      have hbl : b.length ≤ 4008 * 20 := by
        have h1 := frs_bound l HOKJ.out.2 l.length
        rw [List.take_length, ← HOKJ.out.1] at h1
        have := HF.out.1
        omega
      obtain ⟨m, hm⟩ : ∃ m, m = b.length := ⟨_, rfl⟩
      rw [← hm] at HS hbl ⊢
      have HM := Lib.hid hm
      clear hm
      go_wp2_with fail
      refine (F.split b m p3 c3 w3 HM.out.symm G3.out (by omega)).mono ?_
      rw [HS.out]
      rintro e4 w4 ⟨vx, ys, rfl, hys, ho4, _, hb4⟩
      dsimp only at hys ⊢
      obtain ⟨qx, cx, rfl, htx⟩ := ho4.told
      rw [hys] at htx
      have TX := Lib.hid htx
      have B4 := Lib.hid (bel_on B3.out hb4)
      clear ho4 hb4 hys htx
      generalize ys.length = mx at *
      go_wp2_with fail
      go_loopw [8, 9] (fun s i wr => ∃ (k t : Nat), i = .int .i64 k ∧ s = .int .i64 t ∧ k ≤ n ∧ Hid (t = (Frm.frs (l.take k)).length) ∧ t ≤ 4008 * k ∧ Hid (Below w4.heap.size w4 wr)) (fun _ i _ => n - (intOf i).toNat)
      case atStart => exact ⟨0, 0, rfl, rfl, by omega, Lib.hid (by simp [Frm.frs_nil]), by omega, Below.refl _ _⟩
      case round =>
        obtain ⟨k, t, rfl, rfl, hk, HTT, ht, HB⟩ := hrel
        have BW := Lib.hid (bel_on B4.out HB.out)
        by_cases hlt : k < n
        · have hkx : k < l.length := by rw [← HNL.out]; exact hlt
          obtain ⟨b1, o1, q1, d1, rfl, a1, g1⟩ := (HT.out.below BW.out).get k hkx
          have hrec := HOKJ.out.2 _ (List.getElem_mem hkx)
          have HTN := Lib.hid (frs_take hkx)
          obtain ⟨my, hmy⟩ : ∃ m, m = (l[k]).length := ⟨_, rfl⟩
          have HFZ := Lib.hid (fsize_rec hrec my hmy)
          have hmost := hrec.most
          rw [← hmy] at a1 HTN hmost
          clear g1 hkx hmy hrec
          go_wp2_with fail
          refine (F.size (my : Int) wr (by omega)).mono ?_
          rw [HFZ.out]
          rintro e9 w9 ⟨rfl, hb9⟩
          have B9 := Lib.hid (bel_on HB.out hb9)
          clear hb9 a1
          go_wp2_with fail
          go_roundw
          case rel => exact ⟨k + 1, t + (8 + my), by go_num, by go_num, by omega, Lib.hid (by rw [HTN.out, HTT.out]), by omega, B9⟩
          case measure => simp [intOf]; omega
        · obtain rfl : k = n := by omega
          have HTM := Lib.hid (show t = m by rw [HTT.out, HM.out, HOKJ.out.1, List.take_of_length_le (by rw [← HNL.out]; exact Nat.le_refl _)])
          have htm := HTM.out
          subst htm
          have hq : ((t : Int) == (t : Int)) = true := beq_self_eq_true _
          go_wp2_with fail
          refine (recsSame_any l l qx q mx k cx c wr (TX.out.below HB.out) (HT.out.below BW.out)).mono ?_
          rw [decide_eq_true (rfl : l = l)]
          rintro e9 w9 ⟨rfl, hb9⟩
          go_wp2_with fail
          go_ret
          exact ⟨rfl, bel_on BW.out hb9⟩
    · have hbe := join_err HR.out he
      subst hbe
      have hne : (er == 0) = false := by rw [beq_eq_false_iff_ne]; exact he
      clear he
      go_wp2_with fail
      go_ret
      exact ⟨rfl, B3.out⟩
theorem cut_plain {l : List (List Int)} (h : ∀ x ∈ l, Frm.Rec x) (k cu t : Nat) (ht : t = (Frm.frs (l.take k)).length) (hk : k ≤ l.length) (htc : t ≤ cu) (hc : cu ≤ (Frm.frs l).length) (hlt : ∀ (hkl : k < l.length), cu < t + (8 + l[k].length)) :
    Frm.split ((Frm.frs l).take cu) = (l.take k, t) := by
  by_cases hkl : k < l.length
  · have h1 := Frm.split_torn (l.take k) (l.drop (k + 1)) l[k] (cu - t) (fun c hc => h c (List.mem_of_mem_take hc)) (h _ (List.getElem_mem hkl)) (by have := hlt hkl; omega)
    rw [← List.drop_eq_getElem_cons hkl, List.take_append_drop, ← ht, show t + (cu - t) = cu by omega] at h1
    exact h1
  · have e : l.take k = l := List.take_of_length_le (by omega)
    rw [e] at ht ⊢
    have ec : cu = (Frm.frs l).length := by omega
    rw [ec, List.take_length, Frm.split_join h, ht]
set_option maxRecDepth 100000 in
set_option maxHeartbeats 4000000 in
theorem frtorn_any (F : FrameOK) (aw : ∀ w : World, Calls Try.prog 10 #[] w fun e w' => e = .returned (.bool true) ∧ Below w.heap.size w w') (l : List (List Int)) (n : Nat) (q : Option Addr) (c : Nat) (x : Int) (zs : List Int) (zn : Nat) (zp : Option Addr) (zc : Nat) (w : World) (h : Recs w q n c l) (hx : -9223372036854775808 ≤ x ∧ x ≤ 9223372036854775807) (hzn : zs.length = zn) (hz : GoodS w (zs, zp, zc)) :
    Calls Try.prog 7 #[.slice q n c, .int .i64 x, .slice zp zn zc] w fun e w' => e = .returned (.bool true) ∧ Below w.heap.size w w' := by
  have HT := Lib.hid h
  have HX := Lib.hid hx
  have GZ := Lib.hid hz
  have HZN := Lib.hid hzn
  have hzc : zn ≤ zc := by rw [← hzn]; exact hz.le
  have hzm := hz.max
  simp only at hzm
  clear h hx hz hzn
  go_enter Try.func7, Try.ntmps7
  go_wp2_with fail
  refine (aw w).mono ?_
  rintro e1 w1 ⟨rfl, hb1⟩
  have B1 := Lib.hid hb1
  clear hb1
  go_wp2_with fail
  refine (flong_any q n c l w1 (HT.out.below B1.out)).mono ?_
  rintro e2 w2 ⟨bb, rfl, hf, rfl⟩
  cases bb with
  | true =>
    go_wp2_with fail
    go_ret
    exact ⟨rfl, B1.out⟩
  | false =>
    have HF := Lib.hid (hf rfl)
    clear hf
    have HNL := Lib.hid HT.out.len
    have hn20 : n ≤ 20 := by have := HF.out.1; have := HNL.out; omega
    have hnc := HT.out.le
    have hcm := HT.out.max
    by_cases hbig : 9000 < zn
    · go_wp2_with fail
      go_ret
      exact ⟨rfl, B1.out⟩
    · obtain ⟨⟨l2, pl⟩, hsp⟩ : ∃ r, r = Frm.split zs := ⟨_, rfl⟩
      have HSP := Lib.hid hsp
      have hsound := Frm.split_sound zs.length zs (Nat.le_refl _) GZ.out.bytes
      rw [← hsp] at hsound
      have SD := Lib.hid hsound
      clear hsp hsound
      dsimp only at SD
      have hpl : pl ≤ zn := by rw [← HZN.out]; exact SD.out.2.1
      have JZ := Lib.hid (fjoin_all (Frm.joinE_zero fun b hb => (SD.out.1 b hb).1))
      have hl2 : l2.length ≤ 9000 := by
        have h1 := frs_many l2
        rw [SD.out.2.2, List.length_take] at h1
        omega
      go_wp2_with fail
      refine (F.split zs zn zp zc w1 HZN.out (GZ.out.below B1.out) (by omega)).mono ?_
      rw [← HSP.out]
      rintro e3 w3 ⟨vy, ys, rfl, hys, ho3, _, hb3⟩
      dsimp only at hys ⊢
      obtain ⟨qy, cy, rfl, hty⟩ := ho3.told
      rw [hys] at hty
      have TY := Lib.hid hty
      have B3 := Lib.hid (bel_on B1.out hb3)
      clear ho3 hb3 hys hty
      have hyl : ys.length ≤ 9000 := by have := TY.out.len; omega
      generalize ys.length = my at *
      go_wp2_with fail
      refine (F.join l2 qy my cy w3 TY.out (by omega)).mono ?_
      rw [JZ.out]
      rintro e4 w4 ⟨vc, rfl, ho4, hb4⟩
      dsimp only at ho4 ⊢
      obtain ⟨pc, cc, rfl, _, _, hAc, _, _⟩ := own_at ho4.row
      have FZ := Lib.hid (show (Frm.frs l2).length = pl by rw [SD.out.2.2, List.length_take]; have := HZN.out; omega)
      have AC := Lib.hid hAc
      have B4 := Lib.hid (bel_on B3.out hb4)
      clear ho4 hb4 hAc TY
      rw [FZ.out]
      have AZ := Lib.hid (show At w4 zp ((zs.take pl).map v8) by
        have h1 := GZ.out.at_.below B4.out
        rw [← List.take_append_drop pl zs, List.map_append] at h1
        exact h1.front)
      go_wp2_with fail
      refine (same_any (Frm.frs l2) (zs.take pl) pl pl pc zp cc zc w4 FZ.out (by rw [List.length_take]; have := HZN.out; omega) AC.out AZ.out (Frm.frs_bytes fun b hb => (SD.out.1 b hb).2) (fun m hm => GZ.out.bytes m (List.mem_of_mem_take hm))).mono ?_
      rintro e5 w5 ⟨rfl, rfl⟩
      rw [decide_eq_true SD.out.2.2]
      clear AC AZ
      obtain ⟨⟨b, er⟩, hr⟩ : ∃ r, r = Frm.join l := ⟨_, rfl⟩
      have HR := Lib.hid hr
      have HBY := Lib.hid (fjoin_bytes (l := l) HT.out.bytes)
      rw [← hr] at HBY
      clear hr
      go_wp2_with fail
      refine (F.join l q n c w4 (HT.out.below B4.out) (by omega)).mono ?_
      rw [← HR.out]
      rintro e6 w6 ⟨va, rfl, ho6, hb6⟩
      dsimp only at ho6 HBY ⊢
      obtain ⟨p3, c3, rfl, _, hg6⟩ := own_good ho6.row HBY.out
      have G6 := Lib.hid hg6
      have B6 := Lib.hid (bel_on B4.out hb6)
      have hc3 := hg6.le
      have hm3 := hg6.max
      simp only at hc3 hm3
      clear hb6 ho6 hg6
      by_cases he : er = 0
      · subst he
        have HOKJ := Lib.hid (join_ok HR.out)
        have hbl : b.length ≤ 4008 * 20 := by
          have h1 := frs_bound l HOKJ.out.2 l.length
          rw [List.take_length, ← HOKJ.out.1] at h1
          have := HF.out.1
          omega
        obtain ⟨m, hm⟩ : ∃ m, m = b.length := ⟨_, rfl⟩
        rw [← hm] at hbl hc3 ⊢
        have HM := Lib.hid hm
        clear hm
        go_wp2_with fail
        refine (pick_any x ((m : Int) + 1) w6 (by omega) (by omega) HX.out).mono ?_
        rintro e7 w7 ⟨rfl, rfl⟩
        obtain ⟨cu, hcu⟩ : ∃ k : Nat, (k : Int) = pickOf x ((m : Int) + 1) := ⟨(pickOf x ((m : Int) + 1)).toNat, by have := (pickOf_bd x ((m : Int) + 1) (by omega)).1; omega⟩
        have hcum : cu ≤ m := by have := (pickOf_bd x ((m : Int) + 1) (by omega)).2; omega
        rw [← hcu]
        clear hcu
        have GB := Lib.hid (show GoodS w6 (b.take cu, p3, c3) from ⟨fun y hy => HBY.out y (List.mem_of_mem_take hy), by
          have h1 := G6.out.at_
          simp only at h1 ⊢
          rw [← List.take_append_drop cu b, List.map_append] at h1
          exact h1.front, by simp only; rw [List.length_take]; omega, G6.out.max, G6.out.nil⟩)
        go_wp2_with fail
        go_loopw [14, 15] (fun mm s wr => ∃ (k t : Nat), mm = .int .i64 k ∧ s = .int .i64 t ∧ k ≤ n ∧ Hid (t = (Frm.frs (l.take k)).length) ∧ t ≤ cu ∧ Hid (Below w6.heap.size w6 wr)) (fun mm _ _ => n - (intOf mm).toNat)
        case atStart => exact ⟨0, 0, rfl, rfl, by omega, Lib.hid (by simp [Frm.frs_nil]), by omega, Below.refl _ _⟩
        case round =>
          obtain ⟨k, t, rfl, rfl, hk, HTT, htc, HB⟩ := hrel
          have BW := Lib.hid (bel_on B6.out HB.out)
          by_cases hlt : k < n
          · have hkx : k < l.length := by rw [← HNL.out]; exact hlt
            obtain ⟨b1, o1, q1, d1, rfl, a1, g1⟩ := (HT.out.below BW.out).get k hkx
            have hrec := HOKJ.out.2 _ (List.getElem_mem hkx)
            have HTN := Lib.hid (frs_take hkx)
            obtain ⟨mk, hmk⟩ : ∃ m, m = (l[k]).length := ⟨_, rfl⟩
            have HFZ := Lib.hid (fsize_rec hrec mk hmk)
            have hmost := hrec.most
            have HCP := Lib.hid (fun (hcl : cu < t + (8 + mk)) => cut_plain HOKJ.out.2 k cu t HTT.out (by omega) htc (by rw [← HOKJ.out.1, ← HM.out]; exact hcum) (fun _ => by rw [← hmk]; exact hcl))
            rw [← hmk] at a1 HTN hmost
            rw [← HOKJ.out.1] at HCP
            clear g1 hkx hmk hrec
            go_wp2_with fail
            refine (F.size (mk : Int) wr (by omega)).mono ?_
            rw [HFZ.out]
            rintro e9 w9 ⟨rfl, hb9⟩
            have a9 : w9.cell? ⟨b1, o1 + k, none⟩ = some (.slice q1 mk d1) := by rw [hb9.cell (World.block_lt_of_cell? wr _ a1)]; exact a1
            have B9 := Lib.hid (bel_on HB.out hb9)
            clear hb9 a1
            by_cases hcl : t + (8 + mk) ≤ cu
            · have hcl' : ((t : Int) + ((8 + mk : Nat) : Int)) ≤ (cu : Int) := by omega
              clear HCP
              go_wp2_with fail
              refine (F.size (mk : Int) w9 (by omega)).mono ?_
              rw [HFZ.out]
              rintro e10 w10 ⟨rfl, hb10⟩
              have B10 := Lib.hid (bel_on B9.out hb10)
              clear hb10 a9
              go_wp2_with fail
              go_roundw
              case rel => exact ⟨k + 1, t + (8 + mk), by go_num, by go_num, by omega, Lib.hid (by rw [HTN.out, HTT.out]), by omega, B10⟩
              case measure => simp [intOf]; omega
            · have hcl' : decide (((t : Int) + ((8 + mk : Nat) : Int)) ≤ (cu : Int)) = false := by rw [decide_eq_false_iff_not]; omega
              have hcl2 : ¬ ((t : Int) + ((8 + mk : Nat) : Int)) ≤ (cu : Int) := by omega
              have HS := Lib.hid (HCP.out (by omega))
              have BT := B9
              have BW := Lib.hid (bel_on B6.out B9.out)
              clear HCP a9
              go_wp2_with fail
              refine (F.split (b.take cu) cu p3 c3 w9 (by rw [List.length_take, ← HM.out]; omega) (GB.out.below BT.out) (by omega)).mono ?_
              rw [HS.out]
              rintro e20 w20 ⟨vx, ys, rfl, hys, ho20, _, hb20⟩
              dsimp only at hys ⊢
              obtain ⟨qx, cx, rfl, htx⟩ := ho20.told
              rw [hys] at htx
              have TX := Lib.hid htx
              have BX := Lib.hid (bel_on BW.out hb20)
              clear ho20 hb20 hys htx
              generalize ys.length = mx at *
              have hq : ((t : Int) == (t : Int)) = true := beq_self_eq_true _
              go_wp2_with fail
              refine (recsSame_any (l.take k) (l.take k) qx _ mx k cx c w20 TX.out ((HT.out.below BX.out).take k hk)).mono ?_
              rw [decide_eq_true (rfl : l.take k = l.take k)]
              rintro e21 w21 ⟨rfl, hb21⟩
              go_wp2_with fail
              go_ret
              exact ⟨rfl, bel_on BX.out hb21⟩
          · obtain rfl : k = n := by omega
            have HS := Lib.hid (show Frm.split (b.take cu) = (l.take k, t) by
              rw [HOKJ.out.1]
              exact cut_plain HOKJ.out.2 k cu t HTT.out (by rw [← HNL.out]; exact Nat.le_refl _) htc (by rw [← HOKJ.out.1, ← HM.out]; exact hcum) (fun h => absurd h (by rw [← HNL.out]; omega)))
            have BT := HB
            go_wp2_with fail
            refine (F.split (b.take cu) cu p3 c3 wr (by rw [List.length_take, ← HM.out]; omega) (GB.out.below BT.out) (by omega)).mono ?_
            rw [HS.out]
            rintro e20 w20 ⟨vx, ys, rfl, hys, ho20, _, hb20⟩
            dsimp only at hys ⊢
            obtain ⟨qx, cx, rfl, htx⟩ := ho20.told
            rw [hys] at htx
            have TX := Lib.hid htx
            have BX := Lib.hid (bel_on BW.out hb20)
            clear ho20 hb20 hys htx
            generalize ys.length = mx at *
            have hq : ((t : Int) == (t : Int)) = true := beq_self_eq_true _
            go_wp2_with fail
            refine (recsSame_any (l.take k) (l.take k) qx _ mx k cx c w20 TX.out ((HT.out.below BX.out).take k hk)).mono ?_
            rw [decide_eq_true (rfl : l.take k = l.take k)]
            rintro e21 w21 ⟨rfl, hb21⟩
            go_wp2_with fail
            go_ret
            exact ⟨rfl, bel_on BX.out hb21⟩
      · have hne : (er == 0) = false := by rw [beq_eq_false_iff_ne]; exact he
        clear he
        go_wp2_with fail
        go_ret
        exact ⟨rfl, B6.out⟩
end Go.Proofs.Ytfjopbgnijfajaa
