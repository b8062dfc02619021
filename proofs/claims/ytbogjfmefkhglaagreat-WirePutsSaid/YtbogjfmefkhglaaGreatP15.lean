/-
  The reference of the wire package: Check.
  The reference of the wire package: Put.
-/
import Derived.Test.YtbogjfmefkhglaaGreatP13
import Derived.Test.YtbogjfmefkhglaaGreatP14
import Derived.Test.YtbogjfmefkhglaaGreatP4
namespace Go.Proofs.YtbogjfmefkhglaaGreat
section
set_option linter.unusedSimpArgs false
set_option linter.unusedVariables false
open Go.RowKit Sha Nte
open Fld (Itm)
theorem wfew_few {x : Not} (h : Few x) : WFew x := ⟨by have := h.I; omega, by have := h.W; omega⟩
theorem hz_few {x : Not} (h : NHd) (hf : Few x) (j : Nat) : (headsH x ++ ((letters x.K).take j).flatMap (hdrs x h)).length ≤ 3000 := by
  have h1 := flat_len h hf ((letters x.K).take j) (fun c hc => letters_isT _ c (List.mem_of_mem_take hc))
  have h2 := letters_len x.K
  rw [List.length_take] at h1
  rw [List.length_append]
  have h3 : (headsH x).length = 3 := rfl
  omega
theorem rlet_none (k : Int) : (kHas k).toList.isEmpty = !decide (1 ≤ k ∧ k ≤ 19) := by
  by_cases hk : 1 ≤ k ∧ k ≤ 19
  · rw [decide_eq_true hk]
    rcases kinds hk with rfl | rfl | rfl | rfl | rfl | rfl | rfl | rfl | rfl | rfl | rfl | rfl | rfl | rfl | rfl | rfl | rfl | rfl | rfl <;> decide +kernel
  · rw [decide_eq_false hk, kHas_no k hk]; decide +kernel
theorem check_can {x : Not} (h : Nte.Can x) : check x = if 4000 < (inner x).length then 3 else 0 := by unfold check; rw [if_pos h]
theorem check_not {x : Not} (h : ¬ Nte.Can x) : check x = 2 := by unfold check; rw [if_neg h]
section
attribute [local go_sem ↓] execOp_boxNote execOp_loadInt execOp_loadNote execOp_loadBytes
set_option maxRecDepth 100000 in
set_option maxHeartbeats 4000000 in
theorem rcheck15_any (x : Not) (h : NHd) (w : World) (hg : NGood w x h) (hf : Few x) :
    Calls Tryz.prog 12 #[.agg (ncells x h).toArray] w fun e w' => e = .returned (.int .i64 (check x)) ∧ Below w.heap.size w w' := by
  obtain ⟨g, w1, r1, hg1, hl1, K1, B1⟩ := box_note w x h
  have HB1 := Lib.hid B1
  have HK1 := Lib.hid K1
  have HX := Lib.hid hg.ok.len
  have HG1 := Lib.hid (hg.below B1)
  have HF := Lib.hid hf
  have hxl := hf.X
  have HCN := Lib.hid (show ¬ Nte.Can x → check x = 2 from check_not)
  have HL := Lib.hid (rletters_any x.K w1)
  have HE := Lib.hid (rlet_none x.K)
  have NB := Lib.hid (show ∀ w', Below w1.heap.size w1 w' → NBlk w' g x h ∧ (loadOp 32 (.pointer (some ⟨g, 0, none⟩))).run Tryz.prog w' = .ok (.value (.agg (ncells x h).toArray)) w' from fun w' hb => ⟨nblk (HK1.out.below hb HK1.out.lt) HX.out, load_note (o := 0) HX.out (HK1.out.below hb HK1.out.lt).range⟩)
  have l0 := (nblk K1 hg.ok.len).c0
  generalize kHas x.K = t at *
  clear K1 B1 hg1 hl1 hg hf
  go_enter Tryz.func12, Tryz.ntmps12
  go_wp2_with fail
  refine HL.out.mono ?_
  rintro e w2 ⟨rfl, hb2⟩
  have B2 := Lib.hid hb2
  clear hb2 HL l0 r1
  obtain ⟨nb, ln⟩ := NB.out _ B2.out
  have l1 := nb.c1
  have l2 := nb.c2
  have l45 := nb.c45
  clear nb
  have N1 := Lib.hid (rnode_any x.F w2)
  have N2 := Lib.hid (rnode_any x.T w2)
  have N3 := Lib.hid (rnumbers_any x h w2 HX.out)
  by_cases hk : 1 ≤ x.K ∧ x.K ≤ 19
  · have t1 : t.toList.isEmpty = false := by rw [HE.out, decide_eq_true hk]; rfl
    have HK := Lib.hid hk
    clear hk HE
    go_wp2_with fail
    refine N1.out.mono ?_
    rintro e w3 ⟨rfl, rfl⟩
    by_cases h1 : nodeOk x.F
    · have d1 := decide_eq_true h1
      rw [d1]
      have HK1' := Lib.hid h1
      clear h1 d1 N1
      go_wp2_with fail
      refine N2.out.mono ?_
      rintro e w3 ⟨rfl, rfl⟩
      by_cases h2 : nodeOk x.T
      · have d2 := decide_eq_true h2
        rw [d2]
        have HK2' := Lib.hid h2
        clear h2 d2 N2
        by_cases h3 : x.F = x.T
        · have e3 : (x.F == x.T) = true := by rw [beq_iff_eq]; exact h3
          have HV := Lib.hid (HCN.out (fun c => c.2.2.2.1 h3))
          clear h3
          go_wp2_with fail
          go_ret
          exact ⟨by rw [HV.out]; rfl, HB1.out.trans (B2.out.mono HB1.out.size)⟩
        · have e3 : (x.F == x.T) = false := by rw [beq_eq_false_iff_ne]; exact h3
          have HK3 := Lib.hid h3
          clear h3
          go_wp2_with fail
          refine N3.out.mono ?_
          rintro e w3 ⟨rfl, hb3⟩
          have B3 := Lib.hid (B2.out.trans (hb3.mono B2.out.size))
          clear hb3 N3 ln l1 l2 l45
          obtain ⟨nb, ln⟩ := NB.out _ B3.out
          have l45 := nb.c45
          clear nb
          by_cases h4 : Nums x
          · have d4 := decide_eq_true h4
            rw [d4]
            have HK4 := Lib.hid h4
            have N4 := Lib.hid (rothers_any x h w3 (HG1.out.below B3.out))
            clear h4 d4
            go_wp2_with fail
            refine N4.out.mono ?_
            rintro e w4 ⟨rfl, hb4⟩
            have B4 := Lib.hid (B3.out.trans (hb4.mono B3.out.size))
            clear hb4 N4 ln l45
            obtain ⟨nb, ln⟩ := NB.out _ B4.out
            have l45 := nb.c45
            clear nb
            by_cases h5 : Nte.Rest x
            · have d5 := decide_eq_true h5
              rw [d5]
              have HC := Lib.hid (show Nte.Can x from ⟨HK.out, HK1'.out, HK2'.out, HK3.out, HK4.out, h5⟩)
              have HN := Lib.hid (rinner_any x h w4 (HG1.out.below B4.out) (wfew_few HF.out) (hz_few h HF.out))
              have HCC := Lib.hid (check_can HC.out)
              clear h5 d5
              by_cases h6 : x.X.length ≤ 4000
              · have HR := Lib.hid (show rbody x = inner x from rbody_fits (HC.out.fits h6))
                rw [HR.out] at HN
                obtain ⟨m, hm⟩ : ∃ m, m = (inner x).length := ⟨_, rfl⟩
                rw [← hm] at HN HCC
                clear hm
                go_wp2_with fail
                refine HN.out.mono ?_
                rintro e w5 ⟨v5, rfl, ho5, hb5⟩
                obtain ⟨p5, c5, rfl, _⟩ := own_at ho5.row
                have B5 := Lib.hid (B4.out.trans (hb5.mono B4.out.size))
                clear ho5 hb5 HN
                by_cases h7 : 4000 < m
                · have HV := Lib.hid (show check x = 3 by rw [HCC.out, if_pos h7])
                  go_wp2_with fail
                  go_ret
                  exact ⟨by rw [HV.out]; rfl, HB1.out.trans (B5.out.mono HB1.out.size)⟩
                · have HV := Lib.hid (show check x = 0 by rw [HCC.out, if_neg h7])
                  have h8 : m ≤ 4000 := by omega
                  clear h7
                  go_wp2_with fail
                  go_ret
                  exact ⟨by rw [HV.out]; rfl, HB1.out.trans (B5.out.mono HB1.out.size)⟩
              · have HV := Lib.hid (show check x = 3 by rw [HCC.out, if_pos (by have := inner_data HC.out; omega)])
                have h7 : 4000 < x.X.length := by omega
                clear h6
                go_wp2_with fail
                go_ret
                exact ⟨by rw [HV.out]; rfl, HB1.out.trans (B4.out.mono HB1.out.size)⟩
            · have d5 := decide_eq_false h5
              rw [d5]
              have HV := Lib.hid (HCN.out (fun c => h5 c.2.2.2.2.2))
              clear h5 d5
              go_wp2_with fail
              go_ret
              exact ⟨by rw [HV.out]; rfl, HB1.out.trans (B4.out.mono HB1.out.size)⟩
          · have d4 := decide_eq_false h4
            rw [d4]
            have HV := Lib.hid (HCN.out (fun c => h4 c.2.2.2.2.1))
            clear h4 d4
            go_wp2_with fail
            go_ret
            exact ⟨by rw [HV.out]; rfl, HB1.out.trans (B3.out.mono HB1.out.size)⟩
      · have d2 := decide_eq_false h2
        rw [d2]
        have HV := Lib.hid (HCN.out (fun c => h2 c.2.2.1))
        clear h2 d2
        go_wp2_with fail
        go_ret
        exact ⟨by rw [HV.out]; rfl, HB1.out.trans (B2.out.mono HB1.out.size)⟩
    · have d1 := decide_eq_false h1
      rw [d1]
      have HV := Lib.hid (HCN.out (fun c => h1 c.2.1))
      clear h1 d1
      go_wp2_with fail
      go_ret
      exact ⟨by rw [HV.out]; rfl, HB1.out.trans (B2.out.mono HB1.out.size)⟩
  · have t1 : t.toList.isEmpty = true := by rw [HE.out, decide_eq_false hk]; rfl
    have HV := Lib.hid (HCN.out (fun c => hk c.1))
    clear hk
    go_wp2_with fail
    go_ret
    exact ⟨by rw [HV.out]; rfl, HB1.out.trans (B2.out.mono HB1.out.size)⟩
end
end
section
set_option linter.unusedSimpArgs false
set_option linter.unusedVariables false
open Go.RowKit Sha Nte
open Fld (Itm)
theorem frm15_put {b : List Int} (h : Frm.Rec b) : Frm.put b = (Frm.fr b, 0) := by
  unfold Frm.put
  rw [h.bad]
  simp
section
attribute [local go_sem ↓] execOp_boxNote execOp_loadNote
set_option maxRecDepth 100000 in
set_option maxHeartbeats 2000000 in
theorem rnput_any (x : Not) (h : NHd) (w : World) (hg : NGood w x h) (hf : Few x) : Calls Tryz.prog 9 #[.agg (ncells x h).toArray] w (FDone w (Nte.put x)) := by
  obtain ⟨g, w1, r1, hg1, hl1, K1, B1⟩ := box_note w x h
  have HB1 := Lib.hid B1
  have HK1 := Lib.hid K1
  have HX := Lib.hid hg.ok.len
  have HG1 := Lib.hid (hg.below B1)
  have HF := Lib.hid hf
  have HBY := Lib.hid (inner_bytes hg.ok)
  have LN := Lib.hid (show ∀ w', Below w1.heap.size w1 w' → (loadOp 32 (.pointer (some ⟨g, 0, none⟩))).run Tryz.prog w' = .ok (.value (.agg (ncells x h).toArray)) w' from fun w' hb => load_note (o := 0) HX.out (HK1.out.below hb HK1.out.lt).range)
  have ln := LN.out w1 (Below.refl _ _)
  have HC := Lib.hid (rcheck15_any x h w1 (hg.below B1) hf)
  clear K1 B1 hg1 hl1 hg hf
  by_cases hc : check x = 0
  · have HP := Lib.hid (Nte.put_ok hc)
    have HR := Lib.hid (inner_rec hc)
    have HRB := Lib.hid (show rbody x = inner x from rbody_fits (Can.fits' hc))
    rw [HP.out]
    rw [hc] at HC
    clear hc HP
    go_enter Tryz.func9, Tryz.ntmps9
    go_wp2_with fail
    refine HC.out.mono ?_
    rintro e w2 ⟨rfl, hb2⟩
    have B2 := Lib.hid hb2
    clear hb2 HC ln r1
    have ln := LN.out _ B2.out
    have HN := Lib.hid (rinner_any x h w2 (HG1.out.below B2.out) (wfew_few HF.out) (hz_few h HF.out))
    rw [HRB.out] at HN
    go_wp2_with fail
    refine HN.out.mono ?_
    rintro e w3 ⟨v3, rfl, ho, hb3⟩
    obtain ⟨p, c, rfl, q1, q2, q3, _, q5⟩ := own_at ho.row
    have B3 := Lib.hid (B2.out.trans (hb3.mono B2.out.size))
    have HFP := Lib.hid (rframe_any (inner x) (inner x).length p c w3 rfl ⟨HBY.out, q3, q1, by unfold maxLen at q2; simp only; omega, q5⟩)
    rw [frm15_put HR.out] at HFP
    generalize (inner x).length = m at *
    clear hb3 HN ho q1 q2 q3 q5 ln
    go_wp2_with fail
    refine HFP.out.mono ?_
    rintro e w4 ⟨v4, rfl, ho4, hb4⟩
    have HO4 := Lib.hid ho4
    have HB4 := Lib.hid (HB1.out.trans ((B3.out.trans (hb4.mono B3.out.size)).mono HB1.out.size))
    have HS := Lib.hid (show w.heap.size ≤ w3.heap.size from Nat.le_trans HB1.out.size B3.out.size)
    clear ho4 hb4 HFP
    go_wp2_with fail
    go_ret2
    exact ⟨v4, rfl, own_weak HO4.out HS.out, HB4.out⟩
  · have HP := Lib.hid (Nte.put_no hc)
    rw [HP.out]
    have hne : (check x == 0) = false := by rw [beq_eq_false_iff_ne]; exact hc
    have hne2 : (check x != 0) = true := by rw [bne, hne]; rfl
    clear hc HP
    generalize check x = er at *
    go_enter Tryz.func9, Tryz.ntmps9
    go_wp2_with fail
    refine HC.out.mono ?_
    rintro e w2 ⟨rfl, hb2⟩
    have HB2 := Lib.hid (HB1.out.trans (hb2.mono HB1.out.size))
    clear hb2 HC ln r1
    go_wp2_with fail
    go_ret2
    exact ⟨.slice none 0 0, rfl, World.ownsRow_nil _ _ _ _, HB2.out⟩
end
end
end Go.Proofs.YtbogjfmefkhglaaGreat
