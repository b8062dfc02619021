/-
  The law WireBack.
-/
import Derived.Test.YteepaoklibflpaaR15
import Derived.Test.YteepaoklibflpaaR16
namespace Go.Proofs.Yteepaoklibflpaa
section
set_option linter.unusedSimpArgs false
set_option linter.unusedVariables false
open Go.RowKit Sha Nte
theorem rangeN_far {w w' : World} {g : Nat} {x : Not} {h : NHd} (hr : w.rangeAt g 0 (ncells x h)) (hx : x.D.length = 32) (hb : Below w.heap.size w w') : (loadOp 32 (.pointer (some ⟨g, 0, none⟩))).run Try.prog w' = .ok (.value (.agg (ncells x h).toArray)) w' := load_note (o := 0) hx (rangeN_on hr hb)
section
attribute [local go_sem ↓] execOp_allocNote execOp_storeNote execOp_makeNote execOp_loadNote execOp_boxNote
set_option maxRecDepth 100000 in
set_option maxHeartbeats 8000000 in
theorem wback_any (Wr : WireOK) (F : FrameOK) (SN : SameNotes) (x y : Not) (h k : NHd) (w : World) (hx : NGood w x h) (hy : NGood w y k) :
    Calls Try.prog 4 #[.agg (ncells x h).toArray, .agg (ncells y k).toArray] w fun e w' => e = .returned (.bool true) ∧ Below w.heap.size w w' := by
  obtain ⟨g1, w1, r1, hg1, hl1, K1, B1⟩ := box_note w x h
  obtain ⟨g2, w2, r2, hg2, hl2, K2, B2⟩ := box_note w1 y k
  have XL := Lib.hid hx.ok.len
  have YL := Lib.hid hy.ok.len
  have XO := Lib.hid hx.ok
  have YO := Lib.hid hy.ok
  have hb12 := B1.trans (B2.mono B1.size)
  have LX := Lib.hid (fun (W : World) (hb : Below w2.heap.size w2 W) => rangeN_far (K1.below B2 hl1).range hx.ok.len hb)
  have LY := Lib.hid (fun (W : World) (hb : Below w2.heap.size w2 W) => rangeN_far K2.range hy.ok.len hb)
  have GX := Lib.hid (fun (W : World) (hb : Below w2.heap.size w2 W) => (hx.below hb12).below hb)
  have GY := Lib.hid (fun (W : World) (hb : Below w2.heap.size w2 W) => (hy.below hb12).below hb)
  have B0 := Lib.hid hb12
  clear hx hy K1 K2 B1 B2 hl1 hl2 hb12 hg1 hg2
  go_enter Try.func4, Try.ntmps4
  go_wp2_with fail
  clear r1 r2
  refine (wknown_any Wr F w2).mono ?_
  rintro e3 w3 ⟨rfl, hb3⟩
  have C3 := Lib.hid hb3
  have l3 := LX.out w3 C3.out
  clear hb3
  go_wp2_with fail
  refine (longNote_any x h w3 (GX.out w3 C3.out)).mono ?_
  by_cases hfx : Few x
  · rw [show (!decide (Few x)) = false by simp [hfx]]
    rintro e4 w4 ⟨rfl, hb4⟩
    have C4 := Lib.hid (C3.out.trans (hb4.mono C3.out.size))
    have l4 := LY.out w4 C4.out
    have FX := Lib.hid hfx
    clear hb4 l3 C3 hfx
    go_wp2_with fail
    refine (longNote_any y k w4 (GY.out w4 C4.out)).mono ?_
    by_cases hfy : Few y
    · rw [show (!decide (Few y)) = false by simp [hfy]]
      rintro e5 w5 ⟨rfl, hb5⟩
      have C5 := Lib.hid (C4.out.trans (hb5.mono C4.out.size))
      have l5 := LX.out w5 C5.out
      have FY := Lib.hid hfy
      clear hb5 l4 C4 hfy
      go_wp2_with fail
      refine (Wr.put x h w5 (GX.out w5 C5.out) FX.out).mono ?_
      by_cases hcx : check x = 0
      · rw [put_ok hcx]
        rintro e6 w6 ⟨v6, rfl, ho6, hb6⟩
        have HBX := Lib.hid (Frm.fr_bytes (inner_bytes XO.out))
        have PX := Lib.hid (put_ok hcx)
        have HCX := Lib.hid hcx
        have hlx := put_len (put_ok hcx)
        obtain ⟨bx, hbx⟩ : ∃ b, b = Frm.fr (inner x) := ⟨_, rfl⟩
        rw [← hbx] at HBX PX ho6 hlx
        rw [← hbx]
        obtain ⟨na, hna⟩ : ∃ n, n = bx.length := ⟨_, rfl⟩
        rw [← hna] at hlx
        obtain ⟨qa, ca, rfl, hga, hca, hxa⟩ := own_rown ho6.row HBX.out
        dsimp only at hga hca hxa ⊢
        rw [← hna] at hca ⊢
        have NA := Lib.hid hna
        have hcam := hga.max
        dsimp only at hcam
        have C6 := Lib.hid (C5.out.trans (hb6.mono C5.out.size))
        have GA := Lib.hid (fun (W : World) (hb : Below w6.heap.size w6 W) => hga.below hb)
        have l6 := LX.out w6 C6.out
        clear ho6 hb6 hga hxa l5 C5 hcx hbx hna
        go_wp2_with fail
        refine (Wr.check x h w6 (GX.out w6 C6.out) FX.out).mono ?_
        rw [HCX.out]
        rintro e7 w7 ⟨rfl, hb7⟩
        have C7 := Lib.hid (C6.out.trans (hb7.mono C6.out.size))
        have D7 := Lib.hid hb7
        clear hb7 l6
        go_wp2_with fail
        refine (Wr.get bx na qa ca w7 NA.out.symm (GA.out w7 D7.out) (by omega)).mono ?_
        rw [get_of XO.out PX.out]
        rintro e8 w8 ⟨hz, rfl, hg8, _, hb8⟩
        dsimp only at hg8 ⊢
        have al := alloc_note w8
        have st := store_note1 w8 (x := x) (h := hz) XL.out
        have hb9 := (Below.refl w8.heap.size w8).alloc (Nat.le_refl _) (Obj.cells (ncells x hz).toArray 32)
        have hb79 := hb8.trans (hb9.mono hb8.size)
        have K9 := Lib.hid (show Blk (w8.alloc (Obj.cells (ncells x hz).toArray 32)) w8.heap.size (ncells x hz) 32 from Blk.new w8 (ncells x hz).toArray 32)
        have G9 := Lib.hid (hg8.below hb9)
        have C9 := Lib.hid (C7.out.trans (hb79.mono C7.out.size))
        have D9 := Lib.hid (D7.out.trans (hb79.mono D7.out.size))
        have lz9 := load_note (x := x) (h := hz) (o := 0) XL.out K9.out.range
        have l9 := LX.out _ C9.out
        clear hg8 hb8 hb9 hb79 C7 D7
        generalize hw9 : w8.alloc (Obj.cells (ncells x hz).toArray 32) = w9 at *
        generalize hgg : w8.heap.size = g9 at *
        go_wp2_with fail
        clear al st K9
        refine (SN x x hz h w9 G9.out (GX.out w9 C9.out)).mono ?_
        rw [decide_eq_true rfl]
        rintro e10 w10 ⟨rfl, hb10⟩
        have C10 := Lib.hid (C9.out.trans (hb10.mono C9.out.size))
        have D10 := Lib.hid (D9.out.trans (hb10.mono D9.out.size))
        have t10 : ¬ (4008 : Int) < (na : Int) := by omega
        have l10 := LY.out w10 C10.out
        clear hb10 lz9 l9 C9 D9 G9
        go_wp2_with fail
        refine (Wr.put y k w10 (GY.out w10 C10.out) FY.out).mono ?_
        by_cases hcy : check y = 0
        · rw [put_ok hcy]
          rintro e11 w11 ⟨v11, rfl, ho11, hb11⟩
          have HBY := Lib.hid (Frm.fr_bytes (inner_bytes YO.out))
          have PY := Lib.hid (put_ok hcy)
          have hly := put_len (put_ok hcy)
          obtain ⟨by_, hby⟩ : ∃ b, b = Frm.fr (inner y) := ⟨_, rfl⟩
          rw [← hby] at HBY PY ho11 hly
          rw [← hby]
          obtain ⟨nb, hnb⟩ : ∃ n, n = by_.length := ⟨_, rfl⟩
          rw [← hnb] at hly
          obtain ⟨qb, cb, rfl, hgb, hcb, hxb⟩ := own_rown ho11.row HBY.out
          dsimp only at hgb hcb hxb ⊢
          rw [← hnb] at hcb ⊢
          have NB := Lib.hid hnb
          have hcbm := hgb.max
          dsimp only at hcbm
          have C11 := Lib.hid (C10.out.trans (hb11.mono C10.out.size))
          have D11 := Lib.hid (D10.out.trans (hb11.mono D10.out.size))
          have GB := Lib.hid (fun (W : World) (hb : Below w11.heap.size w11 W) => hgb.below hb)
          have lx11 := LX.out w11 C11.out
          have ly11 := LY.out w11 C11.out
          clear ho11 hb11 hgb hxb l10 C10 D10 hcy hby hnb
          by_cases hmin : nb < na
          · have tm : (nb : Int) < (na : Int) := by omega
            have t11 : (nb : Int) ≤ (ca : Int) := by omega
            have t12 : (nb : Int) ≤ (cb : Int) := by omega
            go_wp2_with fail
            have HAP := Lib.hid (put_apart XO.out YO.out PX.out PY.out nb (by have := NA.out; have := NB.out; omega))
            have HMA := Lib.hid (show (bx.take nb).length = nb from by rw [List.length_take]; have := NA.out; omega)
            have HMB := Lib.hid (show (by_.take nb).length = nb from by rw [List.length_take]; have := NB.out; omega)
            have HSV := Lib.hid (show ∀ sv : Bool, sv = decide (x = y) → decide (y = x) = sv ∧ decide (bx.take nb = by_.take nb) = sv ∧ (sv = true → na = nb) from by
              intro sv hsv
              subst hsv
              refine ⟨?_, ?_, ?_⟩
              · rw [Bool.eq_iff_iff]; simp only [decide_eq_true_eq]; exact eq_comm
              · rw [Bool.eq_iff_iff]; simp only [decide_eq_true_eq]; exact HAP.out
              · intro h; have hh := of_decide_eq_true h; have p1 := PX.out; rw [hh, PY.out] at p1; have := (Prod.mk.inj p1).1; rw [NA.out, NB.out, this])
            refine (Wr.same x y h k w11 (GX.out w11 C11.out) (GY.out w11 C11.out) FX.out FY.out).mono ?_
            obtain ⟨sv, hsv⟩ : ∃ sv, sv = decide (x = y) := ⟨_, rfl⟩
            have HV := Lib.hid (HSV.out sv hsv)
            rw [← hsv]
            rintro e12 w12 ⟨rfl, hb12⟩
            have C12 := Lib.hid (C11.out.trans (hb12.mono C11.out.size))
            have D12 := Lib.hid (D11.out.trans (hb12.mono D11.out.size))
            have E12 := Lib.hid hb12
            have hb0 : Below w12.heap.size w12 w12.drew := (Below.refl _ w12).drew
            have ES := Lib.hid (fun W (hb : Below w12.heap.size w12 W) => (show (fun w' => Below w12.heap.size w12 w' ∧ (loadOp 32 (.pointer (some ⟨g1, 0, none⟩))).run Try.prog w' = .ok (.value (.agg (ncells x h).toArray)) w' ∧ (loadOp 32 (.pointer (some ⟨g2, 0, none⟩))).run Try.prog w' = .ok (.value (.agg (ncells y k).toArray)) w') W from ⟨hb, LX.out W (C12.out.trans (hb.mono C12.out.size)), LY.out W (C12.out.trans (hb.mono C12.out.size))⟩))
            clear hb12 lx11 ly11 hsv HSV HAP
            cases sv with
            | true =>
              have hnn := HV.out.2.2 rfl
              exact absurd hnn (by omega)
            | false =>
              go_wp2_with fail
              refine wp_region_held_drew (S := (fun w' => Below w12.heap.size w12 w' ∧ (loadOp 32 (.pointer (some ⟨g1, 0, none⟩))).run Try.prog w' = .ok (.value (.agg (ncells x h).toArray)) w' ∧ (loadOp 32 (.pointer (some ⟨g2, 0, none⟩))).run Try.prog w' = .ok (.value (.agg (ncells y k).toArray)) w')) (by kernel_rfl) (ES.out _ hb0) (fun hHeld => ?_)
              refine take_at 0 (by kernel_rfl) (v := ?v30) (by kernel_rfl) (by kernel_rfl) (by kernel_rfl) (fun _ _ _ h => h) (by rfl) ?y30 (by assumption) ?r30
              case y30 => (intro w hSw; (try dsimp only at hSw); simp only [List.getElem_cons_succ, List.getElem_cons_zero]; go_simp; (try with_reducible rfl))
              try simp only [List.getElem_cons_succ, List.getElem_cons_zero, Act.put, List.setIfInBounds_toArray, List.set_cons_zero, List.set_cons_succ]
              refine take_at 1 (by kernel_rfl) (v := ?v31) (by kernel_rfl) (by kernel_rfl) (by kernel_rfl) (fun _ _ _ h => h) (by rfl) ?y31 (by assumption) ?r31
              case y31 => (intro w hSw; (try dsimp only at hSw); simp only [List.getElem_cons_succ, List.getElem_cons_zero]; go_simp; (try with_reducible rfl))
              try simp only [List.getElem_cons_succ, List.getElem_cons_zero, Act.put, List.setIfInBounds_toArray, List.set_cons_zero, List.set_cons_succ]
              refine take_at 2 (by kernel_rfl) (v := ?v32) (by kernel_rfl) (by kernel_rfl) (by kernel_rfl) (fun _ _ _ h => h) (by rfl) ?y32 (by assumption) ?r32
              case y32 => (intro w hSw; (try dsimp only at hSw); simp only [List.getElem_cons_succ, List.getElem_cons_zero]; go_simp; (try with_reducible rfl))
              try simp only [List.getElem_cons_succ, List.getElem_cons_zero, Act.put, List.setIfInBounds_toArray, List.set_cons_zero, List.set_cons_succ]
              refine take_at 3 (by kernel_rfl) (v := ?v33) (by kernel_rfl) (by kernel_rfl) (by kernel_rfl) (fun _ _ _ h => h) (by rfl) ?y33 (by assumption) ?r33
              case y33 => (intro w hSw; (try dsimp only at hSw); simp only [List.getElem_cons_succ, List.getElem_cons_zero]; go_simp; (try with_reducible rfl))
              try simp only [List.getElem_cons_succ, List.getElem_cons_zero, Act.put, List.setIfInBounds_toArray, List.set_cons_zero, List.set_cons_succ]
              refine take_at 4 (by kernel_rfl) (v := ?v34) (by kernel_rfl) (by kernel_rfl) (by kernel_rfl) (fun _ _ _ h => h) (by rfl) ?y34 (by assumption) ?r34
              case y34 => (intro w hSw; (try dsimp only at hSw); simp only [List.getElem_cons_succ, List.getElem_cons_zero]; go_simp; (try with_reducible rfl))
              try simp only [List.getElem_cons_succ, List.getElem_cons_zero, Act.put, List.setIfInBounds_toArray, List.set_cons_zero, List.set_cons_succ]
              refine ready_at 5 (by kernel_rfl) (by kernel_rfl) (fun K hK => ?_)
              simp only [List.getElem_cons_succ, List.getElem_cons_zero]
              go_simp
              go_at_call 14
              refine (Wr.same y x k h _ (GY.out _ (C12.out.trans (hb0.mono C12.out.size))) (GX.out _ (C12.out.trans (hb0.mono C12.out.size))) FY.out FX.out).mono ?_
              rw [HV.out.1]
              rintro e13 w13 ⟨rfl, b13⟩
              have hb13 : Below w12.heap.size w12 w13 := hb0.trans (b13.mono hb0.size)
              (try go_wp2_with fail)
              refine hK.out _ _ (ES.out _ hb13) (fun hHeld => ?_)
              clear hK K
              try simp only [List.getElem_cons_succ, List.getElem_cons_zero, Act.put, List.setIfInBounds_toArray, List.set_cons_zero, List.set_cons_succ]
              refine take_at 6 (by kernel_rfl) (v := ?v35) (by kernel_rfl) (by kernel_rfl) (by kernel_rfl) (fun _ _ _ h => h) (by rfl) ?y35 (by assumption) ?r35
              case y35 => (intro w hSw; (try dsimp only at hSw); simp only [List.getElem_cons_succ, List.getElem_cons_zero]; go_simp; (try with_reducible rfl))
              try simp only [List.getElem_cons_succ, List.getElem_cons_zero, Act.put, List.setIfInBounds_toArray, List.set_cons_zero, List.set_cons_succ]
              refine take_at 7 (by kernel_rfl) (v := ?v36) (by kernel_rfl) (by kernel_rfl) (by kernel_rfl) (fun _ _ _ h => h) (by rfl) ?y36 (by assumption) ?r36
              case y36 => (intro w hSw; (try dsimp only at hSw); simp only [List.getElem_cons_succ, List.getElem_cons_zero]; go_simp; (try with_reducible rfl))
              try simp only [List.getElem_cons_succ, List.getElem_cons_zero, Act.put, List.setIfInBounds_toArray, List.set_cons_zero, List.set_cons_succ]
              refine take_at 8 (by kernel_rfl) (v := ?v37) (by kernel_rfl) (by kernel_rfl) (by kernel_rfl) (fun _ _ _ h => h) (by rfl) ?y37 (by assumption) ?r37
              case y37 => (intro w hSw; (try dsimp only at hSw); simp only [List.getElem_cons_succ, List.getElem_cons_zero]; go_simp; (try with_reducible rfl))
              try simp only [List.getElem_cons_succ, List.getElem_cons_zero, Act.put, List.setIfInBounds_toArray, List.set_cons_zero, List.set_cons_succ]
              refine take_at 9 (by kernel_rfl) (v := ?v38) (by kernel_rfl) (by kernel_rfl) (by kernel_rfl) (fun _ _ _ h => h) (by rfl) ?y38 (by assumption) ?r38
              case y38 => (intro w hSw; (try dsimp only at hSw); simp only [List.getElem_cons_succ, List.getElem_cons_zero]; go_simp; (try with_reducible rfl))
              try simp only [List.getElem_cons_succ, List.getElem_cons_zero, Act.put, List.setIfInBounds_toArray, List.set_cons_zero, List.set_cons_succ]
              refine take_at 10 (by kernel_rfl) (v := ?v39) (by kernel_rfl) (by kernel_rfl) (by kernel_rfl) (fun _ _ _ h => h) (by rfl) ?y39 (by assumption) ?r39
              case y39 => (intro w hSw; (try dsimp only at hSw); simp only [List.getElem_cons_succ, List.getElem_cons_zero]; go_simp; (try with_reducible rfl))
              try simp only [List.getElem_cons_succ, List.getElem_cons_zero, Act.put, List.setIfInBounds_toArray, List.set_cons_zero, List.set_cons_succ]
              refine take_at 11 (by kernel_rfl) (v := ?v40) (by kernel_rfl) (by kernel_rfl) (by kernel_rfl) (fun _ _ _ h => h) (by rfl) ?y40 (by assumption) ?r40
              case y40 => (intro w hSw; (try dsimp only at hSw); simp only [List.getElem_cons_succ, List.getElem_cons_zero]; go_simp; (try rw [if_pos (by omega)]); (try with_reducible rfl))
              try simp only [List.getElem_cons_succ, List.getElem_cons_zero, Act.put, List.setIfInBounds_toArray, List.set_cons_zero, List.set_cons_succ]
              refine take_at 12 (by kernel_rfl) (v := ?v41) (by kernel_rfl) (by kernel_rfl) (by kernel_rfl) (fun _ _ _ h => h) (by rfl) ?y41 (by assumption) ?r41
              case y41 => (intro w hSw; (try dsimp only at hSw); simp only [List.getElem_cons_succ, List.getElem_cons_zero]; go_simp; (try with_reducible rfl))
              try simp only [List.getElem_cons_succ, List.getElem_cons_zero, Act.put, List.setIfInBounds_toArray, List.set_cons_zero, List.set_cons_succ]
              refine take_at 13 (by kernel_rfl) (v := ?v42) (by kernel_rfl) (by kernel_rfl) (by kernel_rfl) (fun _ _ _ h => h) (by rfl) ?y42 (by assumption) ?r42
              case y42 => (intro w hSw; (try dsimp only at hSw); simp only [List.getElem_cons_succ, List.getElem_cons_zero]; go_simp; (try with_reducible rfl))
              try simp only [List.getElem_cons_succ, List.getElem_cons_zero, Act.put, List.setIfInBounds_toArray, List.set_cons_zero, List.set_cons_succ]
              refine take_at 14 (by kernel_rfl) (v := ?v43) (by kernel_rfl) (by kernel_rfl) (by kernel_rfl) (fun _ _ _ h => h) (by rfl) ?y43 (by assumption) ?r43
              case y43 => (intro w hSw; (try dsimp only at hSw); simp only [List.getElem_cons_succ, List.getElem_cons_zero]; go_simp; (try rw [if_pos (by omega)]); (try with_reducible rfl))
              try simp only [List.getElem_cons_succ, List.getElem_cons_zero, Act.put, List.setIfInBounds_toArray, List.set_cons_zero, List.set_cons_succ]
              refine take_at 16 (by kernel_rfl) (v := ?v44) (by kernel_rfl) (by kernel_rfl) (by kernel_rfl) (fun _ _ _ h => h) (by rfl) ?y44 (by assumption) ?r44
              case y44 => (intro w hSw; (try dsimp only at hSw); simp only [List.getElem_cons_succ, List.getElem_cons_zero]; go_simp; (try with_reducible rfl))
              try simp only [List.getElem_cons_succ, List.getElem_cons_zero, Act.put, List.setIfInBounds_toArray, List.set_cons_zero, List.set_cons_succ]
              refine ready_at 15 (by kernel_rfl) (by kernel_rfl) (fun K hK => ?_)
              simp only [List.getElem_cons_succ, List.getElem_cons_zero]
              go_simp
              go_at_call 15
              refine (same_any (bx.take nb) (by_.take nb) nb nb qa qb _ _ _ HMA.out HMB.out (front_at (GA.out _ (D12.out.trans (hb13.mono D12.out.size))).at_ nb) (front_at (GB.out _ (E12.out.trans (hb13.mono E12.out.size))).at_ nb) (fun j hj => HBX.out j (List.mem_of_mem_take hj)) (fun j hj => HBY.out j (List.mem_of_mem_take hj))).mono ?_
              rw [HV.out.2.1]
              rintro e14 w14 ⟨rfl, rfl⟩
              (try go_wp2_with fail)
              refine hK.out _ _ (ES.out _ hb13) (fun hHeld => ?_)
              clear hK K
              try simp only [List.getElem_cons_succ, List.getElem_cons_zero, Act.put, List.setIfInBounds_toArray, List.set_cons_zero, List.set_cons_succ]
              refine take_at 17 (by kernel_rfl) (v := ?v45) (by kernel_rfl) (by kernel_rfl) (by kernel_rfl) (fun _ _ _ h => h) (by rfl) ?y45 (by assumption) ?r45
              case y45 => (intro w hSw; (try dsimp only at hSw); simp only [List.getElem_cons_succ, List.getElem_cons_zero]; go_simp; (try with_reducible rfl))
              try simp only [List.getElem_cons_succ, List.getElem_cons_zero, Act.put, List.setIfInBounds_toArray, List.set_cons_zero, List.set_cons_succ]
              refine take_at 18 (by kernel_rfl) (v := ?v46) (by kernel_rfl) (by kernel_rfl) (by kernel_rfl) (fun _ _ _ h => h) (by rfl) ?y46 (by assumption) ?r46
              case y46 => (intro w hSw; (try dsimp only at hSw); simp only [List.getElem_cons_succ, List.getElem_cons_zero]; go_simp; (try with_reducible rfl))
              try simp only [List.getElem_cons_succ, List.getElem_cons_zero, Act.put, List.setIfInBounds_toArray, List.set_cons_zero, List.set_cons_succ]
              refine take_at 19 (by kernel_rfl) (v := ?v47) (by kernel_rfl) (by kernel_rfl) (by kernel_rfl) (fun _ _ _ h => h) (by rfl) ?y47 (by assumption) ?r47
              case y47 => (intro w hSw; (try dsimp only at hSw); simp only [List.getElem_cons_succ, List.getElem_cons_zero]; go_simp; (try with_reducible rfl))
              try simp only [List.getElem_cons_succ, List.getElem_cons_zero, Act.put, List.setIfInBounds_toArray, List.set_cons_zero, List.set_cons_succ]
              refine take_at 20 (by kernel_rfl) (v := ?v48) (by kernel_rfl) (by kernel_rfl) (by kernel_rfl) (fun _ _ _ h => h) (by rfl) ?y48 (by assumption) ?r48
              case y48 => (intro w hSw; (try dsimp only at hSw); simp only [List.getElem_cons_succ, List.getElem_cons_zero]; go_simp; (try with_reducible rfl))
              try simp only [List.getElem_cons_succ, List.getElem_cons_zero, Act.put, List.setIfInBounds_toArray, List.set_cons_zero, List.set_cons_succ]
              refine take_at 21 (by kernel_rfl) (v := ?v49) (by kernel_rfl) (by kernel_rfl) (by kernel_rfl) (fun _ _ _ h => h) (by rfl) ?y49 (by assumption) ?r49
              case y49 => (intro w hSw; (try dsimp only at hSw); simp only [List.getElem_cons_succ, List.getElem_cons_zero]; go_simp; (try with_reducible rfl))
              try simp only [List.getElem_cons_succ, List.getElem_cons_zero, Act.put, List.setIfInBounds_toArray, List.set_cons_zero, List.set_cons_succ]
              refine take_at 22 (by kernel_rfl) (v := ?v50) (by kernel_rfl) (by kernel_rfl) (by kernel_rfl) (fun _ _ _ h => h) (by rfl) ?y50 (by assumption) ?r50
              case y50 => (intro w hSw; (try dsimp only at hSw); simp only [List.getElem_cons_succ, List.getElem_cons_zero]; go_simp; (try with_reducible rfl))
              try simp only [List.getElem_cons_succ, List.getElem_cons_zero, Act.put, List.setIfInBounds_toArray, List.set_cons_zero, List.set_cons_succ]
              refine pass_at 23 (by kernel_rfl) (by kernel_rfl) (by kernel_rfl) (by kernel_rfl) (fun _ _ _ h => h) (by rfl) (by assumption) ?_
              try simp only [List.getElem_cons_succ, List.getElem_cons_zero, Act.put, List.setIfInBounds_toArray, List.set_cons_zero, List.set_cons_succ]
              refine pass_at 24 (by kernel_rfl) (by kernel_rfl) (by kernel_rfl) (by kernel_rfl) (fun _ _ _ h => h) (by rfl) (by assumption) ?_
              try simp only [List.getElem_cons_succ, List.getElem_cons_zero, Act.put, List.setIfInBounds_toArray, List.set_cons_zero, List.set_cons_succ]
              refine pass_at 25 (by kernel_rfl) (by kernel_rfl) (by kernel_rfl) (by kernel_rfl) (fun _ _ _ h => h) (by rfl) (by assumption) ?_
              try simp only [List.getElem_cons_succ, List.getElem_cons_zero, Act.put, List.setIfInBounds_toArray, List.set_cons_zero, List.set_cons_succ]
              refine pass_at 26 (by kernel_rfl) (by kernel_rfl) (by kernel_rfl) (by kernel_rfl) (fun _ _ _ h => h) (by rfl) (by assumption) ?_
              try simp only [List.getElem_cons_succ, List.getElem_cons_zero, Act.put, List.setIfInBounds_toArray, List.set_cons_zero, List.set_cons_succ]
              refine pass_at 27 (by kernel_rfl) (by kernel_rfl) (by kernel_rfl) (by kernel_rfl) (fun _ _ _ h => h) (by rfl) (by assumption) ?_
              try simp only [List.getElem_cons_succ, List.getElem_cons_zero, Act.put, List.setIfInBounds_toArray, List.set_cons_zero, List.set_cons_succ]
              refine take_at 28 (by kernel_rfl) (v := ?v51) (by kernel_rfl) (by kernel_rfl) (by kernel_rfl) (fun _ _ _ h => h) (by rfl) ?y51 (by assumption) ?r51
              case y51 => (intro w hSw; (try dsimp only at hSw); simp only [List.getElem_cons_succ, List.getElem_cons_zero]; go_simp; (try with_reducible rfl))
              try simp only [List.getElem_cons_succ, List.getElem_cons_zero, Act.put, List.setIfInBounds_toArray, List.set_cons_zero, List.set_cons_succ]
              refine take_at 29 (by kernel_rfl) (v := ?v52) (by kernel_rfl) (by kernel_rfl) (by kernel_rfl) (fun _ _ _ h => h) (by rfl) ?y52 (by assumption) ?r52
              case y52 => (intro w hSw; (try dsimp only at hSw); simp only [List.getElem_cons_succ, List.getElem_cons_zero]; go_simp; (try with_reducible rfl))
              try simp only [List.getElem_cons_succ, List.getElem_cons_zero, Act.put, List.setIfInBounds_toArray, List.set_cons_zero, List.set_cons_succ]
              refine take_at 30 (by kernel_rfl) (v := ?v53) (by kernel_rfl) (by kernel_rfl) (by kernel_rfl) (fun _ _ _ h => h) (by rfl) ?y53 (by assumption) ?r53
              case y53 => (intro w hSw; (try dsimp only at hSw); simp only [List.getElem_cons_succ, List.getElem_cons_zero]; go_simp; (try with_reducible rfl))
              try simp only [List.getElem_cons_succ, List.getElem_cons_zero, Act.put, List.setIfInBounds_toArray, List.set_cons_zero, List.set_cons_succ]
              refine wpAnyH_done (by kernel_rfl) ?_ _
              go_wp2_with fail
              go_ret
              exact ⟨rfl, B0.out.trans ((C12.out.trans (hb13.mono C12.out.size)).mono B0.out.size)⟩
          · have tm : ¬ (nb : Int) < (na : Int) := by omega
            have t11 : (na : Int) ≤ (ca : Int) := by omega
            have t12 : (na : Int) ≤ (cb : Int) := by omega
            go_wp2_with fail
            have HAP := Lib.hid (put_apart XO.out YO.out PX.out PY.out na (by have := NA.out; have := NB.out; omega))
            have HMA := Lib.hid (show (bx.take na).length = na from by rw [List.length_take]; have := NA.out; omega)
            have HMB := Lib.hid (show (by_.take na).length = na from by rw [List.length_take]; have := NB.out; omega)
            have HSV := Lib.hid (show ∀ sv : Bool, sv = decide (x = y) → decide (y = x) = sv ∧ decide (bx.take na = by_.take na) = sv ∧ (sv = true → na = nb) from by
              intro sv hsv
              subst hsv
              refine ⟨?_, ?_, ?_⟩
              · rw [Bool.eq_iff_iff]; simp only [decide_eq_true_eq]; exact eq_comm
              · rw [Bool.eq_iff_iff]; simp only [decide_eq_true_eq]; exact HAP.out
              · intro h; have hh := of_decide_eq_true h; have p1 := PX.out; rw [hh, PY.out] at p1; have := (Prod.mk.inj p1).1; rw [NA.out, NB.out, this])
            refine (Wr.same x y h k w11 (GX.out w11 C11.out) (GY.out w11 C11.out) FX.out FY.out).mono ?_
            obtain ⟨sv, hsv⟩ : ∃ sv, sv = decide (x = y) := ⟨_, rfl⟩
            have HV := Lib.hid (HSV.out sv hsv)
            rw [← hsv]
            rintro e12 w12 ⟨rfl, hb12⟩
            have C12 := Lib.hid (C11.out.trans (hb12.mono C11.out.size))
            have D12 := Lib.hid (D11.out.trans (hb12.mono D11.out.size))
            have E12 := Lib.hid hb12
            have hb0 : Below w12.heap.size w12 w12.drew := (Below.refl _ w12).drew
            have ES := Lib.hid (fun W (hb : Below w12.heap.size w12 W) => (show (fun w' => Below w12.heap.size w12 w' ∧ (loadOp 32 (.pointer (some ⟨g1, 0, none⟩))).run Try.prog w' = .ok (.value (.agg (ncells x h).toArray)) w' ∧ (loadOp 32 (.pointer (some ⟨g2, 0, none⟩))).run Try.prog w' = .ok (.value (.agg (ncells y k).toArray)) w') W from ⟨hb, LX.out W (C12.out.trans (hb.mono C12.out.size)), LY.out W (C12.out.trans (hb.mono C12.out.size))⟩))
            clear hb12 lx11 ly11 hsv HSV HAP
            cases sv with
            | true =>
              have hnn := HV.out.2.2 rfl
              subst hnn
              have tnn : ((na : Int) == (na : Int)) = true := beq_self_eq_true _
              go_wp2_with fail
              refine wp_region_held_drew (S := (fun w' => Below w12.heap.size w12 w' ∧ (loadOp 32 (.pointer (some ⟨g1, 0, none⟩))).run Try.prog w' = .ok (.value (.agg (ncells x h).toArray)) w' ∧ (loadOp 32 (.pointer (some ⟨g2, 0, none⟩))).run Try.prog w' = .ok (.value (.agg (ncells y k).toArray)) w')) (by kernel_rfl) (ES.out _ hb0) (fun hHeld => ?_)
              refine take_at 0 (by kernel_rfl) (v := ?v54) (by kernel_rfl) (by kernel_rfl) (by kernel_rfl) (fun _ _ _ h => h) (by rfl) ?y54 (by assumption) ?r54
              case y54 => (intro w hSw; (try dsimp only at hSw); simp only [List.getElem_cons_succ, List.getElem_cons_zero]; go_simp; (try with_reducible rfl))
              try simp only [List.getElem_cons_succ, List.getElem_cons_zero, Act.put, List.setIfInBounds_toArray, List.set_cons_zero, List.set_cons_succ]
              refine take_at 1 (by kernel_rfl) (v := ?v55) (by kernel_rfl) (by kernel_rfl) (by kernel_rfl) (fun _ _ _ h => h) (by rfl) ?y55 (by assumption) ?r55
              case y55 => (intro w hSw; (try dsimp only at hSw); simp only [List.getElem_cons_succ, List.getElem_cons_zero]; go_simp; (try with_reducible rfl))
              try simp only [List.getElem_cons_succ, List.getElem_cons_zero, Act.put, List.setIfInBounds_toArray, List.set_cons_zero, List.set_cons_succ]
              refine take_at 2 (by kernel_rfl) (v := ?v56) (by kernel_rfl) (by kernel_rfl) (by kernel_rfl) (fun _ _ _ h => h) (by rfl) ?y56 (by assumption) ?r56
              case y56 => (intro w hSw; (try dsimp only at hSw); simp only [List.getElem_cons_succ, List.getElem_cons_zero]; go_simp; (try with_reducible rfl))
              try simp only [List.getElem_cons_succ, List.getElem_cons_zero, Act.put, List.setIfInBounds_toArray, List.set_cons_zero, List.set_cons_succ]
              refine take_at 3 (by kernel_rfl) (v := ?v57) (by kernel_rfl) (by kernel_rfl) (by kernel_rfl) (fun _ _ _ h => h) (by rfl) ?y57 (by assumption) ?r57
              case y57 => (intro w hSw; (try dsimp only at hSw); simp only [List.getElem_cons_succ, List.getElem_cons_zero]; go_simp; (try with_reducible rfl))
              try simp only [List.getElem_cons_succ, List.getElem_cons_zero, Act.put, List.setIfInBounds_toArray, List.set_cons_zero, List.set_cons_succ]
              refine take_at 4 (by kernel_rfl) (v := ?v58) (by kernel_rfl) (by kernel_rfl) (by kernel_rfl) (fun _ _ _ h => h) (by rfl) ?y58 (by assumption) ?r58
              case y58 => (intro w hSw; (try dsimp only at hSw); simp only [List.getElem_cons_succ, List.getElem_cons_zero]; go_simp; (try with_reducible rfl))
              try simp only [List.getElem_cons_succ, List.getElem_cons_zero, Act.put, List.setIfInBounds_toArray, List.set_cons_zero, List.set_cons_succ]
              refine ready_at 5 (by kernel_rfl) (by kernel_rfl) (fun K hK => ?_)
              simp only [List.getElem_cons_succ, List.getElem_cons_zero]
              go_simp
              go_at_call 14
              refine (Wr.same y x k h _ (GY.out _ (C12.out.trans (hb0.mono C12.out.size))) (GX.out _ (C12.out.trans (hb0.mono C12.out.size))) FY.out FX.out).mono ?_
              rw [HV.out.1]
              rintro e13 w13 ⟨rfl, b13⟩
              have hb13 : Below w12.heap.size w12 w13 := hb0.trans (b13.mono hb0.size)
              (try go_wp2_with fail)
              refine hK.out _ _ (ES.out _ hb13) (fun hHeld => ?_)
              clear hK K
              try simp only [List.getElem_cons_succ, List.getElem_cons_zero, Act.put, List.setIfInBounds_toArray, List.set_cons_zero, List.set_cons_succ]
              refine take_at 6 (by kernel_rfl) (v := ?v59) (by kernel_rfl) (by kernel_rfl) (by kernel_rfl) (fun _ _ _ h => h) (by rfl) ?y59 (by assumption) ?r59
              case y59 => (intro w hSw; (try dsimp only at hSw); simp only [List.getElem_cons_succ, List.getElem_cons_zero]; go_simp; (try with_reducible rfl))
              try simp only [List.getElem_cons_succ, List.getElem_cons_zero, Act.put, List.setIfInBounds_toArray, List.set_cons_zero, List.set_cons_succ]
              refine take_at 7 (by kernel_rfl) (v := ?v60) (by kernel_rfl) (by kernel_rfl) (by kernel_rfl) (fun _ _ _ h => h) (by rfl) ?y60 (by assumption) ?r60
              case y60 => (intro w hSw; (try dsimp only at hSw); simp only [List.getElem_cons_succ, List.getElem_cons_zero]; go_simp; (try with_reducible rfl))
              try simp only [List.getElem_cons_succ, List.getElem_cons_zero, Act.put, List.setIfInBounds_toArray, List.set_cons_zero, List.set_cons_succ]
              refine take_at 8 (by kernel_rfl) (v := ?v61) (by kernel_rfl) (by kernel_rfl) (by kernel_rfl) (fun _ _ _ h => h) (by rfl) ?y61 (by assumption) ?r61
              case y61 => (intro w hSw; (try dsimp only at hSw); simp only [List.getElem_cons_succ, List.getElem_cons_zero]; go_simp; (try with_reducible rfl))
              try simp only [List.getElem_cons_succ, List.getElem_cons_zero, Act.put, List.setIfInBounds_toArray, List.set_cons_zero, List.set_cons_succ]
              refine take_at 9 (by kernel_rfl) (v := ?v62) (by kernel_rfl) (by kernel_rfl) (by kernel_rfl) (fun _ _ _ h => h) (by rfl) ?y62 (by assumption) ?r62
              case y62 => (intro w hSw; (try dsimp only at hSw); simp only [List.getElem_cons_succ, List.getElem_cons_zero]; go_simp; (try with_reducible rfl))
              try simp only [List.getElem_cons_succ, List.getElem_cons_zero, Act.put, List.setIfInBounds_toArray, List.set_cons_zero, List.set_cons_succ]
              refine take_at 10 (by kernel_rfl) (v := ?v63) (by kernel_rfl) (by kernel_rfl) (by kernel_rfl) (fun _ _ _ h => h) (by rfl) ?y63 (by assumption) ?r63
              case y63 => (intro w hSw; (try dsimp only at hSw); simp only [List.getElem_cons_succ, List.getElem_cons_zero]; go_simp; (try with_reducible rfl))
              try simp only [List.getElem_cons_succ, List.getElem_cons_zero, Act.put, List.setIfInBounds_toArray, List.set_cons_zero, List.set_cons_succ]
              refine take_at 11 (by kernel_rfl) (v := ?v64) (by kernel_rfl) (by kernel_rfl) (by kernel_rfl) (fun _ _ _ h => h) (by rfl) ?y64 (by assumption) ?r64
              case y64 => (intro w hSw; (try dsimp only at hSw); simp only [List.getElem_cons_succ, List.getElem_cons_zero]; go_simp; (try rw [if_pos (by omega)]); (try with_reducible rfl))
              try simp only [List.getElem_cons_succ, List.getElem_cons_zero, Act.put, List.setIfInBounds_toArray, List.set_cons_zero, List.set_cons_succ]
              refine take_at 12 (by kernel_rfl) (v := ?v65) (by kernel_rfl) (by kernel_rfl) (by kernel_rfl) (fun _ _ _ h => h) (by rfl) ?y65 (by assumption) ?r65
              case y65 => (intro w hSw; (try dsimp only at hSw); simp only [List.getElem_cons_succ, List.getElem_cons_zero]; go_simp; (try with_reducible rfl))
              try simp only [List.getElem_cons_succ, List.getElem_cons_zero, Act.put, List.setIfInBounds_toArray, List.set_cons_zero, List.set_cons_succ]
              refine take_at 13 (by kernel_rfl) (v := ?v66) (by kernel_rfl) (by kernel_rfl) (by kernel_rfl) (fun _ _ _ h => h) (by rfl) ?y66 (by assumption) ?r66
              case y66 => (intro w hSw; (try dsimp only at hSw); simp only [List.getElem_cons_succ, List.getElem_cons_zero]; go_simp; (try with_reducible rfl))
              try simp only [List.getElem_cons_succ, List.getElem_cons_zero, Act.put, List.setIfInBounds_toArray, List.set_cons_zero, List.set_cons_succ]
              refine take_at 14 (by kernel_rfl) (v := ?v67) (by kernel_rfl) (by kernel_rfl) (by kernel_rfl) (fun _ _ _ h => h) (by rfl) ?y67 (by assumption) ?r67
              case y67 => (intro w hSw; (try dsimp only at hSw); simp only [List.getElem_cons_succ, List.getElem_cons_zero]; go_simp; (try rw [if_pos (by omega)]); (try with_reducible rfl))
              try simp only [List.getElem_cons_succ, List.getElem_cons_zero, Act.put, List.setIfInBounds_toArray, List.set_cons_zero, List.set_cons_succ]
              refine take_at 16 (by kernel_rfl) (v := ?v68) (by kernel_rfl) (by kernel_rfl) (by kernel_rfl) (fun _ _ _ h => h) (by rfl) ?y68 (by assumption) ?r68
              case y68 => (intro w hSw; (try dsimp only at hSw); simp only [List.getElem_cons_succ, List.getElem_cons_zero]; go_simp; (try with_reducible rfl))
              try simp only [List.getElem_cons_succ, List.getElem_cons_zero, Act.put, List.setIfInBounds_toArray, List.set_cons_zero, List.set_cons_succ]
              refine ready_at 15 (by kernel_rfl) (by kernel_rfl) (fun K hK => ?_)
              simp only [List.getElem_cons_succ, List.getElem_cons_zero]
              go_simp
              go_at_call 15
              refine (same_any (bx.take na) (by_.take na) na na qa qb _ _ _ HMA.out HMB.out (front_at (GA.out _ (D12.out.trans (hb13.mono D12.out.size))).at_ na) (front_at (GB.out _ (E12.out.trans (hb13.mono E12.out.size))).at_ na) (fun j hj => HBX.out j (List.mem_of_mem_take hj)) (fun j hj => HBY.out j (List.mem_of_mem_take hj))).mono ?_
              rw [HV.out.2.1]
              rintro e14 w14 ⟨rfl, rfl⟩
              (try go_wp2_with fail)
              refine hK.out _ _ (ES.out _ hb13) (fun hHeld => ?_)
              clear hK K
              try simp only [List.getElem_cons_succ, List.getElem_cons_zero, Act.put, List.setIfInBounds_toArray, List.set_cons_zero, List.set_cons_succ]
              refine take_at 17 (by kernel_rfl) (v := ?v69) (by kernel_rfl) (by kernel_rfl) (by kernel_rfl) (fun _ _ _ h => h) (by rfl) ?y69 (by assumption) ?r69
              case y69 => (intro w hSw; (try dsimp only at hSw); simp only [List.getElem_cons_succ, List.getElem_cons_zero]; go_simp; (try with_reducible rfl))
              try simp only [List.getElem_cons_succ, List.getElem_cons_zero, Act.put, List.setIfInBounds_toArray, List.set_cons_zero, List.set_cons_succ]
              refine take_at 18 (by kernel_rfl) (v := ?v70) (by kernel_rfl) (by kernel_rfl) (by kernel_rfl) (fun _ _ _ h => h) (by rfl) ?y70 (by assumption) ?r70
              case y70 => (intro w hSw; (try dsimp only at hSw); simp only [List.getElem_cons_succ, List.getElem_cons_zero]; go_simp; (try with_reducible rfl))
              try simp only [List.getElem_cons_succ, List.getElem_cons_zero, Act.put, List.setIfInBounds_toArray, List.set_cons_zero, List.set_cons_succ]
              refine take_at 19 (by kernel_rfl) (v := ?v71) (by kernel_rfl) (by kernel_rfl) (by kernel_rfl) (fun _ _ _ h => h) (by rfl) ?y71 (by assumption) ?r71
              case y71 => (intro w hSw; (try dsimp only at hSw); simp only [List.getElem_cons_succ, List.getElem_cons_zero]; go_simp; (try with_reducible rfl))
              try simp only [List.getElem_cons_succ, List.getElem_cons_zero, Act.put, List.setIfInBounds_toArray, List.set_cons_zero, List.set_cons_succ]
              refine take_at 20 (by kernel_rfl) (v := ?v72) (by kernel_rfl) (by kernel_rfl) (by kernel_rfl) (fun _ _ _ h => h) (by rfl) ?y72 (by assumption) ?r72
              case y72 => (intro w hSw; (try dsimp only at hSw); simp only [List.getElem_cons_succ, List.getElem_cons_zero]; go_simp; (try with_reducible rfl))
              try simp only [List.getElem_cons_succ, List.getElem_cons_zero, Act.put, List.setIfInBounds_toArray, List.set_cons_zero, List.set_cons_succ]
              refine take_at 21 (by kernel_rfl) (v := ?v73) (by kernel_rfl) (by kernel_rfl) (by kernel_rfl) (fun _ _ _ h => h) (by rfl) ?y73 (by assumption) ?r73
              case y73 => (intro w hSw; (try dsimp only at hSw); simp only [List.getElem_cons_succ, List.getElem_cons_zero]; go_simp; (try with_reducible rfl))
              try simp only [List.getElem_cons_succ, List.getElem_cons_zero, Act.put, List.setIfInBounds_toArray, List.set_cons_zero, List.set_cons_succ]
              refine take_at 22 (by kernel_rfl) (v := ?v74) (by kernel_rfl) (by kernel_rfl) (by kernel_rfl) (fun _ _ _ h => h) (by rfl) ?y74 (by assumption) ?r74
              case y74 => (intro w hSw; (try dsimp only at hSw); simp only [List.getElem_cons_succ, List.getElem_cons_zero]; go_simp; (try with_reducible rfl))
              try simp only [List.getElem_cons_succ, List.getElem_cons_zero, Act.put, List.setIfInBounds_toArray, List.set_cons_zero, List.set_cons_succ]
              refine take_at 23 (by kernel_rfl) (v := ?v75) (by kernel_rfl) (by kernel_rfl) (by kernel_rfl) (fun _ _ _ h => h) (by rfl) ?y75 (by assumption) ?r75
              case y75 => (intro w hSw; (try dsimp only at hSw); simp only [List.getElem_cons_succ, List.getElem_cons_zero]; go_simp; (try with_reducible rfl))
              try simp only [List.getElem_cons_succ, List.getElem_cons_zero, Act.put, List.setIfInBounds_toArray, List.set_cons_zero, List.set_cons_succ]
              refine take_at 24 (by kernel_rfl) (v := ?v76) (by kernel_rfl) (by kernel_rfl) (by kernel_rfl) (fun _ _ _ h => h) (by rfl) ?y76 (by assumption) ?r76
              case y76 => (intro w hSw; (try dsimp only at hSw); simp only [List.getElem_cons_succ, List.getElem_cons_zero]; go_simp; (try with_reducible rfl))
              try simp only [List.getElem_cons_succ, List.getElem_cons_zero, Act.put, List.setIfInBounds_toArray, List.set_cons_zero, List.set_cons_succ]
              refine take_at 25 (by kernel_rfl) (v := ?v77) (by kernel_rfl) (by kernel_rfl) (by kernel_rfl) (fun _ _ _ h => h) (by rfl) ?y77 (by assumption) ?r77
              case y77 => (intro w hSw; (try dsimp only at hSw); simp only [List.getElem_cons_succ, List.getElem_cons_zero]; go_simp; (try with_reducible rfl))
              try simp only [List.getElem_cons_succ, List.getElem_cons_zero, Act.put, List.setIfInBounds_toArray, List.set_cons_zero, List.set_cons_succ]
              refine take_at 26 (by kernel_rfl) (v := ?v78) (by kernel_rfl) (by kernel_rfl) (by kernel_rfl) (fun _ _ _ h => h) (by rfl) ?y78 (by assumption) ?r78
              case y78 => (intro w hSw; (try dsimp only at hSw); simp only [List.getElem_cons_succ, List.getElem_cons_zero]; go_simp; (try with_reducible rfl))
              try simp only [List.getElem_cons_succ, List.getElem_cons_zero, Act.put, List.setIfInBounds_toArray, List.set_cons_zero, List.set_cons_succ]
              refine take_at 27 (by kernel_rfl) (v := ?v79) (by kernel_rfl) (by kernel_rfl) (by kernel_rfl) (fun _ _ _ h => h) (by rfl) ?y79 (by assumption) ?r79
              case y79 => (intro w hSw; (try dsimp only at hSw); simp only [List.getElem_cons_succ, List.getElem_cons_zero]; go_simp; (try with_reducible rfl))
              try simp only [List.getElem_cons_succ, List.getElem_cons_zero, Act.put, List.setIfInBounds_toArray, List.set_cons_zero, List.set_cons_succ]
              refine take_at 28 (by kernel_rfl) (v := ?v80) (by kernel_rfl) (by kernel_rfl) (by kernel_rfl) (fun _ _ _ h => h) (by rfl) ?y80 (by assumption) ?r80
              case y80 => (intro w hSw; (try dsimp only at hSw); simp only [List.getElem_cons_succ, List.getElem_cons_zero]; go_simp; (try with_reducible rfl))
              try simp only [List.getElem_cons_succ, List.getElem_cons_zero, Act.put, List.setIfInBounds_toArray, List.set_cons_zero, List.set_cons_succ]
              refine take_at 29 (by kernel_rfl) (v := ?v81) (by kernel_rfl) (by kernel_rfl) (by kernel_rfl) (fun _ _ _ h => h) (by rfl) ?y81 (by assumption) ?r81
              case y81 => (intro w hSw; (try dsimp only at hSw); simp only [List.getElem_cons_succ, List.getElem_cons_zero]; go_simp; (try with_reducible rfl))
              try simp only [List.getElem_cons_succ, List.getElem_cons_zero, Act.put, List.setIfInBounds_toArray, List.set_cons_zero, List.set_cons_succ]
              refine take_at 30 (by kernel_rfl) (v := ?v82) (by kernel_rfl) (by kernel_rfl) (by kernel_rfl) (fun _ _ _ h => h) (by rfl) ?y82 (by assumption) ?r82
              case y82 => (intro w hSw; (try dsimp only at hSw); simp only [List.getElem_cons_succ, List.getElem_cons_zero]; go_simp; (try with_reducible rfl))
              try simp only [List.getElem_cons_succ, List.getElem_cons_zero, Act.put, List.setIfInBounds_toArray, List.set_cons_zero, List.set_cons_succ]
              refine wpAnyH_done (by kernel_rfl) ?_ _
              go_wp2_with fail
              go_ret
              exact ⟨rfl, B0.out.trans ((C12.out.trans (hb13.mono C12.out.size)).mono B0.out.size)⟩
            | false =>
              go_wp2_with fail
              refine wp_region_held_drew (S := (fun w' => Below w12.heap.size w12 w' ∧ (loadOp 32 (.pointer (some ⟨g1, 0, none⟩))).run Try.prog w' = .ok (.value (.agg (ncells x h).toArray)) w' ∧ (loadOp 32 (.pointer (some ⟨g2, 0, none⟩))).run Try.prog w' = .ok (.value (.agg (ncells y k).toArray)) w')) (by kernel_rfl) (ES.out _ hb0) (fun hHeld => ?_)
              refine take_at 0 (by kernel_rfl) (v := ?v83) (by kernel_rfl) (by kernel_rfl) (by kernel_rfl) (fun _ _ _ h => h) (by rfl) ?y83 (by assumption) ?r83
              case y83 => (intro w hSw; (try dsimp only at hSw); simp only [List.getElem_cons_succ, List.getElem_cons_zero]; go_simp; (try with_reducible rfl))
              try simp only [List.getElem_cons_succ, List.getElem_cons_zero, Act.put, List.setIfInBounds_toArray, List.set_cons_zero, List.set_cons_succ]
              refine take_at 1 (by kernel_rfl) (v := ?v84) (by kernel_rfl) (by kernel_rfl) (by kernel_rfl) (fun _ _ _ h => h) (by rfl) ?y84 (by assumption) ?r84
              case y84 => (intro w hSw; (try dsimp only at hSw); simp only [List.getElem_cons_succ, List.getElem_cons_zero]; go_simp; (try with_reducible rfl))
              try simp only [List.getElem_cons_succ, List.getElem_cons_zero, Act.put, List.setIfInBounds_toArray, List.set_cons_zero, List.set_cons_succ]
              refine take_at 2 (by kernel_rfl) (v := ?v85) (by kernel_rfl) (by kernel_rfl) (by kernel_rfl) (fun _ _ _ h => h) (by rfl) ?y85 (by assumption) ?r85
              case y85 => (intro w hSw; (try dsimp only at hSw); simp only [List.getElem_cons_succ, List.getElem_cons_zero]; go_simp; (try with_reducible rfl))
              try simp only [List.getElem_cons_succ, List.getElem_cons_zero, Act.put, List.setIfInBounds_toArray, List.set_cons_zero, List.set_cons_succ]
              refine take_at 3 (by kernel_rfl) (v := ?v86) (by kernel_rfl) (by kernel_rfl) (by kernel_rfl) (fun _ _ _ h => h) (by rfl) ?y86 (by assumption) ?r86
              case y86 => (intro w hSw; (try dsimp only at hSw); simp only [List.getElem_cons_succ, List.getElem_cons_zero]; go_simp; (try with_reducible rfl))
              try simp only [List.getElem_cons_succ, List.getElem_cons_zero, Act.put, List.setIfInBounds_toArray, List.set_cons_zero, List.set_cons_succ]
              refine take_at 4 (by kernel_rfl) (v := ?v87) (by kernel_rfl) (by kernel_rfl) (by kernel_rfl) (fun _ _ _ h => h) (by rfl) ?y87 (by assumption) ?r87
              case y87 => (intro w hSw; (try dsimp only at hSw); simp only [List.getElem_cons_succ, List.getElem_cons_zero]; go_simp; (try with_reducible rfl))
              try simp only [List.getElem_cons_succ, List.getElem_cons_zero, Act.put, List.setIfInBounds_toArray, List.set_cons_zero, List.set_cons_succ]
              refine ready_at 5 (by kernel_rfl) (by kernel_rfl) (fun K hK => ?_)
              simp only [List.getElem_cons_succ, List.getElem_cons_zero]
              go_simp
              go_at_call 14
              refine (Wr.same y x k h _ (GY.out _ (C12.out.trans (hb0.mono C12.out.size))) (GX.out _ (C12.out.trans (hb0.mono C12.out.size))) FY.out FX.out).mono ?_
              rw [HV.out.1]
              rintro e13 w13 ⟨rfl, b13⟩
              have hb13 : Below w12.heap.size w12 w13 := hb0.trans (b13.mono hb0.size)
              (try go_wp2_with fail)
              refine hK.out _ _ (ES.out _ hb13) (fun hHeld => ?_)
              clear hK K
              try simp only [List.getElem_cons_succ, List.getElem_cons_zero, Act.put, List.setIfInBounds_toArray, List.set_cons_zero, List.set_cons_succ]
              refine take_at 6 (by kernel_rfl) (v := ?v88) (by kernel_rfl) (by kernel_rfl) (by kernel_rfl) (fun _ _ _ h => h) (by rfl) ?y88 (by assumption) ?r88
              case y88 => (intro w hSw; (try dsimp only at hSw); simp only [List.getElem_cons_succ, List.getElem_cons_zero]; go_simp; (try with_reducible rfl))
              try simp only [List.getElem_cons_succ, List.getElem_cons_zero, Act.put, List.setIfInBounds_toArray, List.set_cons_zero, List.set_cons_succ]
              refine take_at 7 (by kernel_rfl) (v := ?v89) (by kernel_rfl) (by kernel_rfl) (by kernel_rfl) (fun _ _ _ h => h) (by rfl) ?y89 (by assumption) ?r89
              case y89 => (intro w hSw; (try dsimp only at hSw); simp only [List.getElem_cons_succ, List.getElem_cons_zero]; go_simp; (try with_reducible rfl))
              try simp only [List.getElem_cons_succ, List.getElem_cons_zero, Act.put, List.setIfInBounds_toArray, List.set_cons_zero, List.set_cons_succ]
              refine take_at 8 (by kernel_rfl) (v := ?v90) (by kernel_rfl) (by kernel_rfl) (by kernel_rfl) (fun _ _ _ h => h) (by rfl) ?y90 (by assumption) ?r90
              case y90 => (intro w hSw; (try dsimp only at hSw); simp only [List.getElem_cons_succ, List.getElem_cons_zero]; go_simp; (try with_reducible rfl))
              try simp only [List.getElem_cons_succ, List.getElem_cons_zero, Act.put, List.setIfInBounds_toArray, List.set_cons_zero, List.set_cons_succ]
              refine take_at 9 (by kernel_rfl) (v := ?v91) (by kernel_rfl) (by kernel_rfl) (by kernel_rfl) (fun _ _ _ h => h) (by rfl) ?y91 (by assumption) ?r91
              case y91 => (intro w hSw; (try dsimp only at hSw); simp only [List.getElem_cons_succ, List.getElem_cons_zero]; go_simp; (try with_reducible rfl))
              try simp only [List.getElem_cons_succ, List.getElem_cons_zero, Act.put, List.setIfInBounds_toArray, List.set_cons_zero, List.set_cons_succ]
              refine take_at 10 (by kernel_rfl) (v := ?v92) (by kernel_rfl) (by kernel_rfl) (by kernel_rfl) (fun _ _ _ h => h) (by rfl) ?y92 (by assumption) ?r92
              case y92 => (intro w hSw; (try dsimp only at hSw); simp only [List.getElem_cons_succ, List.getElem_cons_zero]; go_simp; (try with_reducible rfl))
              try simp only [List.getElem_cons_succ, List.getElem_cons_zero, Act.put, List.setIfInBounds_toArray, List.set_cons_zero, List.set_cons_succ]
              refine take_at 11 (by kernel_rfl) (v := ?v93) (by kernel_rfl) (by kernel_rfl) (by kernel_rfl) (fun _ _ _ h => h) (by rfl) ?y93 (by assumption) ?r93
              case y93 => (intro w hSw; (try dsimp only at hSw); simp only [List.getElem_cons_succ, List.getElem_cons_zero]; go_simp; (try rw [if_pos (by omega)]); (try with_reducible rfl))
              try simp only [List.getElem_cons_succ, List.getElem_cons_zero, Act.put, List.setIfInBounds_toArray, List.set_cons_zero, List.set_cons_succ]
              refine take_at 12 (by kernel_rfl) (v := ?v94) (by kernel_rfl) (by kernel_rfl) (by kernel_rfl) (fun _ _ _ h => h) (by rfl) ?y94 (by assumption) ?r94
              case y94 => (intro w hSw; (try dsimp only at hSw); simp only [List.getElem_cons_succ, List.getElem_cons_zero]; go_simp; (try with_reducible rfl))
              try simp only [List.getElem_cons_succ, List.getElem_cons_zero, Act.put, List.setIfInBounds_toArray, List.set_cons_zero, List.set_cons_succ]
              refine take_at 13 (by kernel_rfl) (v := ?v95) (by kernel_rfl) (by kernel_rfl) (by kernel_rfl) (fun _ _ _ h => h) (by rfl) ?y95 (by assumption) ?r95
              case y95 => (intro w hSw; (try dsimp only at hSw); simp only [List.getElem_cons_succ, List.getElem_cons_zero]; go_simp; (try with_reducible rfl))
              try simp only [List.getElem_cons_succ, List.getElem_cons_zero, Act.put, List.setIfInBounds_toArray, List.set_cons_zero, List.set_cons_succ]
              refine take_at 14 (by kernel_rfl) (v := ?v96) (by kernel_rfl) (by kernel_rfl) (by kernel_rfl) (fun _ _ _ h => h) (by rfl) ?y96 (by assumption) ?r96
              case y96 => (intro w hSw; (try dsimp only at hSw); simp only [List.getElem_cons_succ, List.getElem_cons_zero]; go_simp; (try rw [if_pos (by omega)]); (try with_reducible rfl))
              try simp only [List.getElem_cons_succ, List.getElem_cons_zero, Act.put, List.setIfInBounds_toArray, List.set_cons_zero, List.set_cons_succ]
              refine take_at 16 (by kernel_rfl) (v := ?v97) (by kernel_rfl) (by kernel_rfl) (by kernel_rfl) (fun _ _ _ h => h) (by rfl) ?y97 (by assumption) ?r97
              case y97 => (intro w hSw; (try dsimp only at hSw); simp only [List.getElem_cons_succ, List.getElem_cons_zero]; go_simp; (try with_reducible rfl))
              try simp only [List.getElem_cons_succ, List.getElem_cons_zero, Act.put, List.setIfInBounds_toArray, List.set_cons_zero, List.set_cons_succ]
              refine ready_at 15 (by kernel_rfl) (by kernel_rfl) (fun K hK => ?_)
              simp only [List.getElem_cons_succ, List.getElem_cons_zero]
              go_simp
              go_at_call 15
              refine (same_any (bx.take na) (by_.take na) na na qa qb _ _ _ HMA.out HMB.out (front_at (GA.out _ (D12.out.trans (hb13.mono D12.out.size))).at_ na) (front_at (GB.out _ (E12.out.trans (hb13.mono E12.out.size))).at_ na) (fun j hj => HBX.out j (List.mem_of_mem_take hj)) (fun j hj => HBY.out j (List.mem_of_mem_take hj))).mono ?_
              rw [HV.out.2.1]
              rintro e14 w14 ⟨rfl, rfl⟩
              (try go_wp2_with fail)
              refine hK.out _ _ (ES.out _ hb13) (fun hHeld => ?_)
              clear hK K
              try simp only [List.getElem_cons_succ, List.getElem_cons_zero, Act.put, List.setIfInBounds_toArray, List.set_cons_zero, List.set_cons_succ]
              refine take_at 17 (by kernel_rfl) (v := ?v98) (by kernel_rfl) (by kernel_rfl) (by kernel_rfl) (fun _ _ _ h => h) (by rfl) ?y98 (by assumption) ?r98
              case y98 => (intro w hSw; (try dsimp only at hSw); simp only [List.getElem_cons_succ, List.getElem_cons_zero]; go_simp; (try with_reducible rfl))
              try simp only [List.getElem_cons_succ, List.getElem_cons_zero, Act.put, List.setIfInBounds_toArray, List.set_cons_zero, List.set_cons_succ]
              refine take_at 18 (by kernel_rfl) (v := ?v99) (by kernel_rfl) (by kernel_rfl) (by kernel_rfl) (fun _ _ _ h => h) (by rfl) ?y99 (by assumption) ?r99
              case y99 => (intro w hSw; (try dsimp only at hSw); simp only [List.getElem_cons_succ, List.getElem_cons_zero]; go_simp; (try with_reducible rfl))
              try simp only [List.getElem_cons_succ, List.getElem_cons_zero, Act.put, List.setIfInBounds_toArray, List.set_cons_zero, List.set_cons_succ]
              refine take_at 19 (by kernel_rfl) (v := ?v100) (by kernel_rfl) (by kernel_rfl) (by kernel_rfl) (fun _ _ _ h => h) (by rfl) ?y100 (by assumption) ?r100
              case y100 => (intro w hSw; (try dsimp only at hSw); simp only [List.getElem_cons_succ, List.getElem_cons_zero]; go_simp; (try with_reducible rfl))
              try simp only [List.getElem_cons_succ, List.getElem_cons_zero, Act.put, List.setIfInBounds_toArray, List.set_cons_zero, List.set_cons_succ]
              refine take_at 20 (by kernel_rfl) (v := ?v101) (by kernel_rfl) (by kernel_rfl) (by kernel_rfl) (fun _ _ _ h => h) (by rfl) ?y101 (by assumption) ?r101
              case y101 => (intro w hSw; (try dsimp only at hSw); simp only [List.getElem_cons_succ, List.getElem_cons_zero]; go_simp; (try with_reducible rfl))
              try simp only [List.getElem_cons_succ, List.getElem_cons_zero, Act.put, List.setIfInBounds_toArray, List.set_cons_zero, List.set_cons_succ]
              refine take_at 21 (by kernel_rfl) (v := ?v102) (by kernel_rfl) (by kernel_rfl) (by kernel_rfl) (fun _ _ _ h => h) (by rfl) ?y102 (by assumption) ?r102
              case y102 => (intro w hSw; (try dsimp only at hSw); simp only [List.getElem_cons_succ, List.getElem_cons_zero]; go_simp; (try with_reducible rfl))
              try simp only [List.getElem_cons_succ, List.getElem_cons_zero, Act.put, List.setIfInBounds_toArray, List.set_cons_zero, List.set_cons_succ]
              refine take_at 22 (by kernel_rfl) (v := ?v103) (by kernel_rfl) (by kernel_rfl) (by kernel_rfl) (fun _ _ _ h => h) (by rfl) ?y103 (by assumption) ?r103
              case y103 => (intro w hSw; (try dsimp only at hSw); simp only [List.getElem_cons_succ, List.getElem_cons_zero]; go_simp; (try with_reducible rfl))
              try simp only [List.getElem_cons_succ, List.getElem_cons_zero, Act.put, List.setIfInBounds_toArray, List.set_cons_zero, List.set_cons_succ]
              refine pass_at 23 (by kernel_rfl) (by kernel_rfl) (by kernel_rfl) (by kernel_rfl) (fun _ _ _ h => h) (by rfl) (by assumption) ?_
              try simp only [List.getElem_cons_succ, List.getElem_cons_zero, Act.put, List.setIfInBounds_toArray, List.set_cons_zero, List.set_cons_succ]
              refine pass_at 24 (by kernel_rfl) (by kernel_rfl) (by kernel_rfl) (by kernel_rfl) (fun _ _ _ h => h) (by rfl) (by assumption) ?_
              try simp only [List.getElem_cons_succ, List.getElem_cons_zero, Act.put, List.setIfInBounds_toArray, List.set_cons_zero, List.set_cons_succ]
              refine pass_at 25 (by kernel_rfl) (by kernel_rfl) (by kernel_rfl) (by kernel_rfl) (fun _ _ _ h => h) (by rfl) (by assumption) ?_
              try simp only [List.getElem_cons_succ, List.getElem_cons_zero, Act.put, List.setIfInBounds_toArray, List.set_cons_zero, List.set_cons_succ]
              refine pass_at 26 (by kernel_rfl) (by kernel_rfl) (by kernel_rfl) (by kernel_rfl) (fun _ _ _ h => h) (by rfl) (by assumption) ?_
              try simp only [List.getElem_cons_succ, List.getElem_cons_zero, Act.put, List.setIfInBounds_toArray, List.set_cons_zero, List.set_cons_succ]
              refine pass_at 27 (by kernel_rfl) (by kernel_rfl) (by kernel_rfl) (by kernel_rfl) (fun _ _ _ h => h) (by rfl) (by assumption) ?_
              try simp only [List.getElem_cons_succ, List.getElem_cons_zero, Act.put, List.setIfInBounds_toArray, List.set_cons_zero, List.set_cons_succ]
              refine take_at 28 (by kernel_rfl) (v := ?v104) (by kernel_rfl) (by kernel_rfl) (by kernel_rfl) (fun _ _ _ h => h) (by rfl) ?y104 (by assumption) ?r104
              case y104 => (intro w hSw; (try dsimp only at hSw); simp only [List.getElem_cons_succ, List.getElem_cons_zero]; go_simp; (try with_reducible rfl))
              try simp only [List.getElem_cons_succ, List.getElem_cons_zero, Act.put, List.setIfInBounds_toArray, List.set_cons_zero, List.set_cons_succ]
              refine take_at 29 (by kernel_rfl) (v := ?v105) (by kernel_rfl) (by kernel_rfl) (by kernel_rfl) (fun _ _ _ h => h) (by rfl) ?y105 (by assumption) ?r105
              case y105 => (intro w hSw; (try dsimp only at hSw); simp only [List.getElem_cons_succ, List.getElem_cons_zero]; go_simp; (try with_reducible rfl))
              try simp only [List.getElem_cons_succ, List.getElem_cons_zero, Act.put, List.setIfInBounds_toArray, List.set_cons_zero, List.set_cons_succ]
              refine take_at 30 (by kernel_rfl) (v := ?v106) (by kernel_rfl) (by kernel_rfl) (by kernel_rfl) (fun _ _ _ h => h) (by rfl) ?y106 (by assumption) ?r106
              case y106 => (intro w hSw; (try dsimp only at hSw); simp only [List.getElem_cons_succ, List.getElem_cons_zero]; go_simp; (try with_reducible rfl))
              try simp only [List.getElem_cons_succ, List.getElem_cons_zero, Act.put, List.setIfInBounds_toArray, List.set_cons_zero, List.set_cons_succ]
              refine wpAnyH_done (by kernel_rfl) ?_ _
              go_wp2_with fail
              go_ret
              exact ⟨rfl, B0.out.trans ((C12.out.trans (hb13.mono C12.out.size)).mono B0.out.size)⟩
        · rw [put_no hcy]
          rintro e11 w11 ⟨v11, rfl, ho11, hb11⟩
          have hcy0 : (check y != 0) = true := by rw [bne_iff_ne]; exact hcy
          have C11 := Lib.hid (C10.out.trans (hb11.mono C10.out.size))
          generalize check y = cy at *
          dsimp only
          clear ho11 hb11 l10
          go_wp2_with fail
          go_ret
          exact ⟨rfl, B0.out.trans (C11.out.mono B0.out.size)⟩
      · rw [put_no hcx]
        rintro e6 w6 ⟨v6, rfl, ho6, hb6⟩
        obtain ⟨qa, ca, rfl, _, _, _, _, _⟩ := own_at ho6.row
        have hcx0 : (check x != 0) = true := by rw [bne_iff_ne]; exact hcx
        have C6 := Lib.hid (C5.out.trans (hb6.mono C5.out.size))
        have HC := Lib.hid (Wr.check x h w6 (GX.out w6 C6.out) FX.out)
        have l6 := LX.out w6 C6.out
        generalize check x = cx at *
        have tcc : (cx != cx) = false := by simp
        dsimp only
        clear ho6 hb6 l5 hcx
        go_wp2_with fail
        refine HC.out.mono ?_
        rintro e7 w7 ⟨rfl, hb7⟩
        have C7 := Lib.hid (C6.out.trans (hb7.mono C6.out.size))
        clear hb7 HC
        go_wp2_with fail
        go_ret
        exact ⟨rfl, B0.out.trans (C7.out.mono B0.out.size)⟩
    · rw [show (!decide (Few y)) = true by simp [hfy]]
      rintro e5 w5 ⟨rfl, hb5⟩
      have C5 := Lib.hid (C4.out.trans (hb5.mono C4.out.size))
      clear hb5 l4
      go_wp2_with fail
      go_ret
      exact ⟨rfl, B0.out.trans (C5.out.mono B0.out.size)⟩
  · rw [show (!decide (Few x)) = true by simp [hfx]]
    rintro e4 w4 ⟨rfl, hb4⟩
    have C4 := Lib.hid (C3.out.trans (hb4.mono C3.out.size))
    clear hb4 l3
    go_wp2_with fail
    go_ret
    exact ⟨rfl, B0.out.trans (C4.out.mono B0.out.size)⟩
end
end
end Go.Proofs.Yteepaoklibflpaa
