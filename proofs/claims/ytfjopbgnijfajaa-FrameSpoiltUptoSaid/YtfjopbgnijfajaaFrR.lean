/-
  The law package of frames: FrameSpoilt.
-/
import Derived.Test.YtfjopbgnijfajaaFrQ
import Derived.Test.YtfjopbgnijfajaaFront
namespace Go.Proofs.Ytfjopbgnijfajaa
set_option linter.unusedSimpArgs false
set_option linter.unusedVariables false
open Go.RowKit Sha
theorem spoilt_plain {l : List (List Int)} {b : List Int} (hb : b = Frm.frs l) (h : ∀ x ∈ l, Frm.Rec x) (hby : ∀ y ∈ l, ∀ n ∈ y, 0 ≤ n ∧ n ≤ 255) (i : Nat) (hi : i < l.length) (t kk : Nat) (ht : t = (Frm.frs (l.take i)).length) (h4 : 4 ≤ kk) (hk : kk < 8 + l[i].length) (old x : Int) (ho : b[t + kk]? = some old) (hx : 0 ≤ x ∧ x ≤ 255) (hne : x ≠ old) :
    Frm.split (b.set (t + kk) x) = (l.take i, t) := by
  have e : l = l.take i ++ l[i] :: l.drop (i + 1) := by rw [← List.drop_eq_getElem_cons hi, List.take_append_drop]
  have h1 := Frm.split_spoilt (l.take i) (l.drop (i + 1)) l[i] kk x (fun c hc => h c (List.mem_of_mem_take hc)) (h _ (List.getElem_mem hi)) (hby _ (List.getElem_mem hi)) hx h4 hk ?_
  · rw [← e, ← ht, ← hb] at h1
    exact h1
  · intro hx2
    have h2 : b[t + kk]? = (Frm.fr l[i])[kk]? := by
      have e2 : Frm.frs l = Frm.frs (l.take i) ++ (Frm.fr l[i] ++ Frm.frs (l.drop (i + 1))) := by
        conv => lhs; rw [e]
        rw [Frm.frs_append, Frm.frs_cons]
      rw [hb, ht, e2, List.getElem?_append_right (by omega), Nat.add_sub_cancel_left, List.getElem?_append_left (by rw [Frm.fr_length]; omega)]
    rw [h2, hx2] at ho
    exact hne (Option.some.inj ho)
theorem spoilt_room {l : List (List Int)} {b : List Int} (hb : b = Frm.frs l) (i : Nat) (hi : i < l.length) (t kk : Nat) (ht : t = (Frm.frs (l.take i)).length) (hk : kk < 8 + l[i].length) : t + kk < b.length := by
  have e : l = l.take i ++ l[i] :: l.drop (i + 1) := by rw [← List.drop_eq_getElem_cons hi, List.take_append_drop]
  rw [hb]
  conv => rhs; rw [e]
  rw [Frm.frs_append, Frm.frs_cons, List.length_append, List.length_append, Frm.fr_length]
  omega
set_option maxRecDepth 100000 in
set_option maxHeartbeats 4000000 in
theorem frspoilt_any (F : FrameOK) (aw : ∀ w : World, Calls Try.prog 10 #[] w fun e w' => e = .returned (.bool true) ∧ Below w.heap.size w w') (l : List (List Int)) (n : Nat) (q : Option Addr) (c : Nat) (wh pl by_ : Int) (w : World) (h : Recs w q n c l) (hwh : -9223372036854775808 ≤ wh ∧ wh ≤ 9223372036854775807) (hpl : -9223372036854775808 ≤ pl ∧ pl ≤ 9223372036854775807) (hby : 0 ≤ by_ ∧ by_ ≤ 255) (hbig : n ≤ 2000000) :
    Calls Try.prog 8 #[.slice q n c, .int .i64 wh, .int .i64 pl, .int .u8 by_] w fun e w' => e = .returned (.bool true) ∧ Below w.heap.size w w' := by
  have HT := Lib.hid h
  have HWH := Lib.hid hwh
  have HPL := Lib.hid hpl
  have HBYY := Lib.hid hby
  clear h hwh hpl hby
  obtain ⟨⟨b, er⟩, hr⟩ : ∃ r, r = Frm.join l := ⟨_, rfl⟩
  have HR := Lib.hid hr
  have HBY := Lib.hid (fjoin_bytes (l := l) HT.out.bytes)
  rw [← hr] at HBY
  clear hr
  go_enter Try.func8, Try.ntmps8
  go_wp2_with fail
  refine (aw w).mono ?_
  rintro e1 w1 ⟨rfl, hb1⟩
  have B1 := Lib.hid hb1
  clear hb1
  go_wp2_with fail
  refine (F.join l q n c w1 (HT.out.below B1.out) hbig).mono ?_
  rw [← HR.out]
  rintro e2 w2 ⟨va, rfl, ho2, hb2⟩
  dsimp only at ho2 HBY ⊢
  have O2 := Lib.hid ho2.row
  have B2 := Lib.hid (bel_on B1.out hb2)
  have C2 := Lib.hid hb2
  clear ho2 hb2
  go_wp2_with fail
  refine (flong_any q n c l w2 (HT.out.below B2.out)).mono ?_
  rintro e3 w3 ⟨bb, rfl, hf, rfl⟩
  cases bb with
  | true =>
    go_wp2_with fail
    go_ret
    exact ⟨rfl, B2.out⟩
  | false =>
    have HF := Lib.hid (hf rfl)
    clear hf
    have HNL := Lib.hid HT.out.len
    have hn20 : n ≤ 20 := by have := HF.out.1; have := HNL.out; omega
    have hnc := HT.out.le
    have hcm := HT.out.max
    clear hbig
    by_cases he : er = 0
    · subst he
      by_cases hn0 : n = 0
      · subst hn0
        go_wp2_with fail
        go_ret
        exact ⟨rfl, B2.out⟩
      · have hn0' : ((n : Int) == 0) = false := by rw [beq_eq_false_iff_ne]; omega
        by_cases hby0 : by_ = 0
        · subst hby0
          go_wp2_with fail
          go_ret
          exact ⟨rfl, B2.out⟩
        · have hby0' : (by_ == 0) = false := by rw [beq_eq_false_iff_ne]; exact hby0
          have HB0 := Lib.hid hby0
          clear hby0
          have HOKJ := Lib.hid (join_ok HR.out)
          have hbl : b.length ≤ 4008 * 20 := by
            have h1 := frs_bound l HOKJ.out.2 l.length
            rw [List.take_length, ← HOKJ.out.1] at h1
            have := HF.out.1
            omega
          have hb0 : 0 < b.length := by
            have h1 := frs_many l
            rw [← HOKJ.out.1] at h1
            have := HNL.out
            omega
          obtain ⟨g3, c3, rest, rfl, hg3, hc3, hm3, hK3⟩ := own_blk O2.out hb0
          have K3 := Lib.hid hK3
          have HG3 := Lib.hid (Nat.le_trans B1.out.size hg3)
          clear hK3 hg3 O2
          obtain ⟨m, hm⟩ : ∃ m, m = b.length := ⟨_, rfl⟩
          rw [← hm] at hbl hc3 hb0 ⊢
          have HM := Lib.hid hm
          clear hm
          unfold maxLen at hm3
          go_wp2_with fail
          refine (pick_any wh (n : Int) w2 (by omega) (by omega) HWH.out).mono ?_
          rintro e7 w7 ⟨rfl, rfl⟩
          obtain ⟨ix, hix⟩ : ∃ k : Nat, (k : Int) = pickOf wh (n : Int) := ⟨(pickOf wh (n : Int)).toNat, by have := (pickOf_bd wh (n : Int) (by omega)).1; omega⟩
          have hixn : ix < n := by have := (pickOf_bd wh (n : Int) (by omega)).2; omega
          rw [← hix]
          clear hix
          go_wp2_with fail
          go_loopw [12, 13] (fun s i wr => ∃ (k t : Nat), i = .int .i64 k ∧ s = .int .i64 t ∧ k ≤ ix ∧ Hid (t = (Frm.frs (l.take k)).length) ∧ t ≤ 4008 * k ∧ Hid (Below w2.heap.size w2 wr)) (fun _ i _ => ix - (intOf i).toNat)
          case atStart => exact ⟨0, 0, rfl, rfl, by omega, Lib.hid (by simp [Frm.frs_nil]), by omega, Below.refl _ _⟩
          case round =>
            obtain ⟨k, t, rfl, rfl, hk, HTT, ht, HB⟩ := hrel
            have BW := Lib.hid (bel_on B2.out HB.out)
            by_cases hlt : k < ix
            · have hkx : k < l.length := by rw [← HNL.out]; omega
              obtain ⟨b1, o1, q1, d1, rfl, a1, g1⟩ := (HT.out.below BW.out).get k hkx
              have hrec := HOKJ.out.2 _ (List.getElem_mem hkx)
              have HTN := Lib.hid (frs_take hkx)
              obtain ⟨my, hmy⟩ : ∃ m, m = (l[k]).length := ⟨_, rfl⟩
              have HFZ := Lib.hid (fsize_rec hrec my hmy)
              have hmost := hrec.most
              rw [← hmy] at a1 HTN hmost
              have hkn : (k : Int) < (n : Int) := by omega
              clear g1 hkx hmy hrec
              go_wp2_with fail
              refine (F.size (my : Int) wr (by omega)).mono ?_
              rw [HFZ.out]
              rintro e9 w9 ⟨rfl, hb9⟩
              have B9 := Lib.hid (bel_on HB.out hb9)
              clear hb9 a1
              go_wp2_with fail
              go_roundw
              case rel => exact ⟨k + 1, t + (8 + my), by go_num, by go_num, by omega, Lib.hid (by rw [HTN.out, HTT.out]), by omega, B9⟩
              case measure => simp [intOf]; omega
            · obtain rfl : k = ix := by omega
              have hkx : k < l.length := by rw [← HNL.out]; exact hixn
              obtain ⟨b1, o1, q1, d1, rfl, a1, g1⟩ := (HT.out.below BW.out).get k hkx
              have hrec := HOKJ.out.2 _ (List.getElem_mem hkx)
              have hmost := hrec.most
              obtain ⟨my, hmy⟩ : ∃ m, m = (l[k]).length := ⟨_, rfl⟩
              rw [← hmy] at a1 hmost
              have HSP := Lib.hid (fun kk h4 hk old x ho hx hne => spoilt_plain HOKJ.out.1 HOKJ.out.2 HT.out.bytes k hkx t kk HTT.out h4 hk old x ho hx hne)
              have HRM := Lib.hid (fun kk hk => spoilt_room HOKJ.out.1 k hkx t kk HTT.out hk)
              rw [← hmy] at HSP HRM
              have hkn : (k : Int) < (n : Int) := by omega
              clear g1 hrec hmy
              go_wp2_with fail
              refine (pick_any pl (4 + (my : Int)) wr (by omega) (by omega) HPL.out).mono ?_
              rintro e9 w9 ⟨rfl, rfl⟩
              obtain ⟨ik, hik⟩ : ∃ j : Nat, (j : Int) = pickOf pl (4 + (my : Int)) := ⟨(pickOf pl (4 + (my : Int))).toNat, by have := (pickOf_bd pl (4 + (my : Int)) (by omega)).1; omega⟩
              have hikn : ik < 4 + my := by have := (pickOf_bd pl (4 + (my : Int)) (by omega)).2; omega
              rw [← hik]
              clear hik
              have hroom : t + (4 + ik) < m := by have := HRM.out (4 + ik) (by omega); rw [← HM.out] at this; exact this
              have hbk : t + (4 + ik) < b.length := by rw [← HM.out]; exact hroom
              obtain ⟨old, hold⟩ : ∃ o, o = b[t + (4 + ik)] := ⟨_, rfl⟩
              have hob := HBY.out old (by rw [hold]; exact List.getElem_mem hbk)
              have HOLD := Lib.hid (show b[t + (4 + ik)]? = some old by rw [List.getElem?_eq_getElem hbk, hold])
              have K9 : Blk wr g3 (b.map v8 ++ rest) 5 := K3.out.below HB.out K3.out.lt
              obtain ⟨kk, hkk⟩ : ∃ kk, kk = t + 4 + ik := ⟨_, rfl⟩
              have ekk : t + (4 + ik) = kk := by omega
              have ck : wr.cell? ⟨g3, kk, none⟩ = some (.int .u8 old) := by
                rw [K9.cell, List.getElem?_append_left (by rw [List.length_map]; omega), List.getElem?_map, ← ekk, HOLD.out]; rfl
              have fk : wr.frozen? ⟨g3, kk, none⟩ = false := K9.free kk
              have KK9 := Lib.hid K9
              have hkm : kk < m := by omega
              have hki : ¬ (m : Int) ≤ (t : Int) + 4 + (ik : Int) := by omega
              have hki2 : decide ((m : Int) ≤ (t : Int) + 4 + (ik : Int)) = false := by rw [decide_eq_false_iff_not]; exact hki
              obtain ⟨xx, hxx⟩ : ∃ x, x = bits BinOp.xor IntKind.u8 old by_ := ⟨_, rfl⟩
              have HXX := Lib.hid (show 0 ≤ xx ∧ xx ≤ 255 by rw [hxx]; exact bits_u8 _ _)
              have HNE := Lib.hid (show xx ≠ old by rw [hxx]; exact xor_ne8 old by_ hob HBYY.out HB0.out)
              have HFIN := Lib.hid (HSP.out (4 + ik) (by omega) (by omega) old xx HOLD.out HXX.out HNE.out)
              rw [ekk] at HFIN
              have HXE := Lib.hid hxx
              have EKK := Lib.hid ekk
              clear hold hbk HSP HRM K9 hkx ekk hroom hxx
              subst hkk
              go_wp2_with fail
              rw [← HXE.out]
              have K10 := KK9.out.front_set (t + 4 + ik) (by rw [← HM.out]; exact hkm) xx
              have B10 := Lib.hid (BW.out.setCell (p := ⟨g3, t + 4 + ik, none⟩) HG3.out (.int .u8 xx))
              generalize wr.setCell ⟨g3, t + 4 + ik, none⟩ (.int .u8 xx) = w10 at *
              have G10 := Lib.hid (show GoodS w10 (b.set (t + 4 + ik) xx, some ⟨g3, 0, none⟩, c3) from ⟨fun y hy => by
                rcases List.mem_or_eq_of_mem_set hy with hy | rfl
                · exact HBY.out y hy
                · exact HXX.out, K10.at, by simp only; rw [List.length_set, ← HM.out]; exact hc3, by simp only; omega, fun h => by cases h⟩)
              clear K10 ck fk KK9
              refine (F.split (b.set (t + 4 + ik) xx) m (some ⟨g3, 0, none⟩) c3 w10 (by rw [List.length_set]; exact HM.out.symm) G10.out (by omega)).mono ?_
              rw [HFIN.out]
              rintro e20 w20 ⟨vx, ys, rfl, hys, ho20, _, hb20⟩
              dsimp only at hys ⊢
              obtain ⟨qx, cx, rfl, htx⟩ := ho20.told
              rw [hys] at htx
              have TX := Lib.hid htx
              have BX := Lib.hid (bel_on B10.out hb20)
              clear ho20 hb20 hys htx
              generalize ys.length = mx at *
              have hq : ((t : Int) == (t : Int)) = true := beq_self_eq_true _
              have hkn2 : k ≤ n := by omega
              go_wp2_with fail
              refine (recsSame_any (l.take k) (l.take k) qx _ mx k cx c w20 TX.out ((HT.out.below BX.out).take k hkn2)).mono ?_
              rw [decide_eq_true (rfl : l.take k = l.take k)]
              rintro e21 w21 ⟨rfl, hb21⟩
              go_wp2_with fail
              go_ret
              exact ⟨rfl, bel_on BX.out hb21⟩
    · have hne : (er == 0) = false := by rw [beq_eq_false_iff_ne]; exact he
      have hne2 : (er != 0) = true := by rw [bne, hne]; rfl
      clear he
      go_wp2_with fail
      go_ret
      exact ⟨rfl, B2.out⟩
end Go.Proofs.Ytfjopbgnijfajaa
