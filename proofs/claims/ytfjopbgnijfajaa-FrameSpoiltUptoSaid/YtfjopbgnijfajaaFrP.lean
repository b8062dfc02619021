/-
  The law package of frames: FramePuts.
-/
import Derived.Test.YtfjopbgnijfajaaFrN
namespace Go.Proofs.Ytfjopbgnijfajaa
set_option linter.unusedSimpArgs false
set_option linter.unusedVariables false
open Go.RowKit Sha
theorem fput_bytes {zs : List Int} (h : ∀ n ∈ zs, 0 ≤ n ∧ n ≤ 255) : ∀ n ∈ (Frm.put zs).1, 0 ≤ n ∧ n ≤ 255 := by
  unfold Frm.put
  split
  · exact Frm.fr_bytes h
  · simp
theorem fjoin_bytes {l : List (List Int)} (h : ∀ b ∈ l, ∀ n ∈ b, 0 ≤ n ∧ n ≤ 255) : ∀ n ∈ (Frm.join l).1, 0 ≤ n ∧ n ≤ 255 := by
  unfold Frm.join
  split
  · exact Frm.frs_bytes h
  · simp
set_option maxRecDepth 100000 in
set_option maxHeartbeats 2000000 in
theorem frputs_any (F : FrameOK) (aw : ∀ w : World, Calls Try.prog 10 #[] w fun e w' => e = .returned (.bool true) ∧ Below w.heap.size w w') (l : List (List Int)) (n : Nat) (q : Option Addr) (c : Nat) (x : Int) (w : World) (h : Recs w q n c l) (hx : -9223372036854775808 ≤ x ∧ x ≤ 9223372036854775807) :
    Calls Try.prog 3 #[.slice q n c, .int .i64 x] w fun e w' => e = .returned (.bool true) ∧ Below w.heap.size w w' := by
  have HT := Lib.hid h
  have HX := Lib.hid hx
  clear h hx
  go_enter Try.func3, Try.ntmps3
  go_wp2_with fail
  refine (flong_any q n c l w HT.out).mono ?_
  rintro e1 w1 ⟨bb, rfl, hf, rfl⟩
  cases bb with
  | true =>
    go_wp2_with fail
    refine (aw w).mono ?_
    rintro e1 w1 ⟨rfl, hb1⟩
    go_wp2_with fail
    go_ret
    exact ⟨rfl, hb1⟩
  | false =>
    have HF := Lib.hid (hf rfl)
    clear hf
    have HNL := Lib.hid HT.out.len
    have hn20 : n ≤ 20 := by have := HF.out.1; have := HNL.out; omega
    go_wp2_with fail
    refine (copied_any l q n c w HT.out (by omega) (fun y hy => by have := HF.out.2 y hy; omega)).mono ?_
    rintro e2 w2 ⟨q2, c2, rfl, ht2, hb2⟩
    have B2 := Lib.hid hb2
    have T2 := Lib.hid ht2
    clear hb2 ht2
    obtain ⟨⟨b, er⟩, hr⟩ : ∃ r, r = Frm.join l := ⟨_, rfl⟩
    have HR := Lib.hid hr
    have HBY := Lib.hid (fjoin_bytes (l := l) HT.out.bytes)
    rw [← hr] at HBY
    clear hr
    go_wp2_with fail
    refine (F.join l q2 n c2 w2 T2.out (by omega)).mono ?_
    rw [← HR.out]
    rintro e3 w3 ⟨va, rfl, ho3, hb3⟩
    have O3 := Lib.hid ho3
    have C3 := Lib.hid hb3
    have B3 := Lib.hid (bel_on B2.out hb3)
    clear hb3 ho3
    go_wp2_with fail
    refine (rjoins_any l q n c w3 (HT.out.below B3.out) (by omega) (fun y hy => by have := HF.out.2 y hy; omega)).mono ?_
    rw [← HR.out]
    rintro e4 w4 ⟨vb, rfl, ho4, hb4⟩
    have O4 := Lib.hid (own8_belowF O3.out hb4)
    have C4 := Lib.hid (C3.out.trans (hb4.mono C3.out.size))
    have B4 := Lib.hid (bel_on B3.out hb4)
    obtain ⟨pb, cb, rfl, _, _, hAb, _, _⟩ := own_at ho4
    obtain ⟨pa, ca, rfl, _, _, hAa, _, _⟩ := own_at O4.out.row
    clear ho4 hb4 O3 C3 B3
    dsimp only at hAa hAb HBY O4 ⊢
    obtain ⟨m, hm⟩ : ∃ m, m = b.length := ⟨_, rfl⟩
    rw [← hm] at O4 ⊢
    have HM := Lib.hid hm
    have AA := Lib.hid hAa
    have AB := Lib.hid hAb
    clear hm hAa hAb
    go_wp2_with fail
    refine (same_any b b m m pa pb ca cb w4 HM.out.symm HM.out.symm AA.out AB.out HBY.out HBY.out).mono ?_
    rintro e5 w5 ⟨rfl, rfl⟩
    rw [decide_eq_true (rfl : b = b)]
    obtain ⟨fs, hfs⟩ : ∃ s, s = fsize x := ⟨_, rfl⟩
    have HFS := Lib.hid hfs
    clear hfs
    go_wp2_with fail
    refine (F.size x w4 HX.out).mono ?_
    rw [← HFS.out]
    rintro e6 w6 ⟨rfl, hb6⟩
    have O6 := Lib.hid (own8_belowF O4.out hb6)
    have C6 := Lib.hid (C4.out.trans (hb6.mono C4.out.size))
    have B6 := Lib.hid (bel_on B4.out hb6)
    clear hb6 O4 C4 B4 AA AB
    go_wp2_with fail
    refine (rsize_any x w6 HX.out).mono ?_
    rw [← HFS.out]
    rintro e7 w7 ⟨rfl, rfl⟩
    go_wp2_with fail
    refine (over_any w2.heap.size _ m _ w6 O6.out).mono ?_
    rintro e8 w8 ⟨rfl, hb8⟩
    have T8 := Lib.hid (T2.out.below (C6.out.trans hb8))
    have B8 := Lib.hid (B6.out.trans (hb8.mono B2.out.size))
    clear hb8 O6 C6 B6 T2
    have hnc := HT.out.le
    have hcm := HT.out.max
    have hnc2 := T8.out.le
    have hcm2 := T8.out.max
    go_wp2_with fail
    go_loopw [10, 11, 12, 13, 14, 15] (fun ok i _ _ _ _ wr => ∃ k : Nat, i = .int .i64 k ∧ ok = .bool true ∧ k ≤ n ∧ Hid (Below w8.heap.size w8 wr)) (fun _ i _ _ _ _ _ => n - (intOf i).toNat)
    case atStart => exact ⟨0, rfl, rfl, by omega, Below.refl _ _⟩
    case round =>
      obtain ⟨k, rfl, rfl, hk, HB⟩ := hrel
      have BW := Lib.hid (bel_on B8.out HB.out)
      by_cases hlt : k < n
      · have hkx : k < l.length := by rw [← HNL.out]; exact hlt
        obtain ⟨b1, o1, q1, d1, rfl, a1, g1⟩ := (T8.out.below HB.out).get k hkx
        obtain ⟨b2, o2, q3, d3, rfl, a2, g2⟩ := (HT.out.below BW.out).get k hkx
        obtain ⟨y, hy⟩ : ∃ y, y = l[k] := ⟨_, rfl⟩
        rw [← hy] at a1 a2 g1 g2
        have G1 := Lib.hid g1
        have G2 := Lib.hid g2
        obtain ⟨my, hmy⟩ : ∃ m, m = y.length := ⟨_, rfl⟩
        rw [← hmy] at a1 a2
        have HMY := Lib.hid hmy
        obtain ⟨⟨py, pe⟩, hpr⟩ : ∃ r, r = Frm.put y := ⟨_, rfl⟩
        have HPR := Lib.hid hpr
        have PBY := Lib.hid (fput_bytes (zs := y) g1.bytes)
        rw [← hpr] at PBY
        clear g1 g2 hkx hy hmy hpr
        go_wp2_with fail
        refine (F.put y my q1 d1 wr HMY.out.symm G1.out).mono ?_
        rw [← HPR.out]
        rintro e9 w9 ⟨vx, rfl, ho9, hb9⟩
        have O9 := Lib.hid ho9
        have C9 := Lib.hid hb9
        have a2' : w9.cell? ⟨b2, o2 + k, none⟩ = some (.slice q3 my d3) := by rw [hb9.cell (World.block_lt_of_cell? wr _ a2)]; exact a2
        clear hb9 ho9
        go_wp2_with fail
        refine (rframe_any y my q3 d3 w9 HMY.out.symm (G2.out.below C9.out)).mono ?_
        rw [← HPR.out]
        rintro e10 w10 ⟨vy, rfl, ho10, hb10⟩
        have O10 := Lib.hid (own8_belowF O9.out hb10)
        have C10 := Lib.hid (C9.out.trans (hb10.mono C9.out.size))
        obtain ⟨py1, cy1, rfl, _, _, hAy, _, _⟩ := own_at ho10
        obtain ⟨px1, cx1, rfl, _, _, hAx, _, _⟩ := own_at O10.out.row
        dsimp only at hAy hAx PBY O10 ⊢
        obtain ⟨lp, hlp⟩ : ∃ m, m = py.length := ⟨_, rfl⟩
        rw [← hlp] at O10 ⊢
        have HLP := Lib.hid hlp
        have AX := Lib.hid hAx
        have AY := Lib.hid hAy
        clear hlp hAx hAy ho10 hb10 O9 C9 a1 a2 a2'
        go_wp2_with fail
        refine (same_any py py lp lp px1 py1 cx1 cy1 w10 HLP.out.symm HLP.out.symm AX.out AY.out PBY.out PBY.out).mono ?_
        rintro e11 w11 ⟨rfl, rfl⟩
        rw [decide_eq_true (rfl : py = py)]
        go_wp2_with fail
        refine (over_any wr.heap.size _ lp _ w10 O10.out).mono ?_
        rintro e12 w12 ⟨rfl, hb12⟩
        have B12 := Lib.hid (HB.out.trans ((C10.out.trans hb12).mono HB.out.size))
        clear hb12 O10 C10 AX AY
        go_wp2_with fail
        go_roundw
        case rel => exact ⟨k + 1, by go_num, rfl, by omega, B12⟩
        case measure => simp [intOf]; omega
      · obtain rfl : k = n := by omega
        go_wp2_with fail
        refine (recsSame_any l l q2 q k k c2 c wr (T8.out.below HB.out) (HT.out.below BW.out)).mono ?_
        rw [decide_eq_true (rfl : l = l)]
        rintro e9 w9 ⟨rfl, hb9⟩
        go_wp2_with fail
        refine (aw w9).mono ?_
        rintro e10 w10 ⟨rfl, hb10⟩
        go_wp2_with fail
        go_ret
        exact ⟨rfl, bel_on (bel_on BW.out hb9) hb10⟩
end Go.Proofs.Ytfjopbgnijfajaa
