/-
  The law DiskFirm, over what disks are asked to do: the walk. (Made by scripts/mkfirm7.py.)
-/
import Derived.Test.YtooljhdfmfkpeaaDkK
import Derived.Deep.CutRange
namespace Go.Proofs.Ytooljhdfmfkpeaa
set_option linter.unusedSimpArgs false
set_option linter.unusedVariables false
open Go.RowKit Sha Dsk
set_option maxRecDepth 100000 in
set_option maxHeartbeats 8000000 in
theorem firm_any {R : DiskRep} (F : DisksOK R) (r : Int) (acts : List ActD) (n : Nat) (p : Option Addr) (cap : Nat) (w : World) (hr : fit64 r) (hn : acts.length = n) (ha : GoodD w acts p cap) :
    Calls Try.prog 6 #[i64v r, .slice p n cap] w fun e w' => e = .returned (.bool true) ∧ Below w.heap.size w w' := by
  have K := Lib.hid F.ok.held
  have GA := Lib.hid ha
  have HN := Lib.hid hn
  have HR := Lib.hid hr
  have hc1 := ha.le
  have hc2 := ha.max
  rw [hn] at hc1
  clear ha hn hr
  go_enter Try.func6, Try.ntmps6
  go_wp2_with fail
  refine (known_any F w).mono ?_
  rintro e w1 ⟨rfl, hb1⟩
  have B1 := Lib.hid hb1
  clear hb1
  go_wp2_with fail
  refine (pick_any r 3000 w1 (by omega) (by omega) HR.out).mono ?_
  rintro e w1' ⟨rfl, rfl⟩
  obtain ⟨hp1, hp2⟩ := pickOf_bd r 3000 (by omega)
  generalize pickOf r 3000 = rm at *
  go_wp2_with fail
  refine (F.ok.new rm w1 ⟨by omega, by omega⟩).mono ?_
  rintro e w2 ⟨hb2, ⟨_, b, fp, rfl, hrr, hnew⟩ | ⟨hz2, _⟩⟩
  · have S2 := Lib.hid (show Solo R w w2 b fp (fresh rm.toNat) from ⟨hrr, fun k hk => Nat.le_trans B1.out.size (hnew k hk), B1.out.trans (hb2.mono B1.out.size)⟩)
    clear hb2 hrr hnew
    go_wp2_with fail
    refine (long_any acts n p cap w2 HN.out (GA.out.below S2.out.below)).mono ?_
    rintro e w3 ⟨lb, rfl, hsh, rfl⟩
    cases lb with
    | true =>
      clear hsh
      have B3 := Lib.hid S2.out.below
      go_wp2_with fail
      go_ret
      exact ⟨rfl, B3.out⟩
    | false =>
      have HSH := Lib.hid (hsh rfl)
      have HN60 := Lib.hid (show n ≤ 60 by rw [← HN.out]; exact (hsh rfl).1)
      have S2' := Lib.hid (show ∃ s, KeptD R w w2 b fp s w.heap.size (.slice none 0 0) s.log ∧ s.steps ≤ 0 ∧ s.firm = 0 from ⟨_, ⟨S2.out, World.ownsRow_nil _ _ _ _, fun g hg => by cases hg⟩, Nat.le_refl _, rfl⟩)
      clear hsh S2
      go_wp2_with fail
      go_loopw [8, 9, 10] (fun vl vf i wr => ∃ (k f : Nat) (fp : List Nat), i = .int .i64 k ∧ vf = .int .i64 f ∧ k ≤ n ∧ Hid (∃ s, KeptD R w wr b fp s w.heap.size vl s.log ∧ s.steps ≤ k ∧ s.firm = f)) (fun _ _ i _ => n - (intOf i).toNat)
      case atStart => exact ⟨0, 0, fp, rfl, rfl, by omega, S2'⟩
      case round =>
        clear S2'
        obtain ⟨k, f0, fp, rfl, rfl, hk, S0⟩ := hrel
        by_cases hlt : k < n
        · have hkz : k < acts.length := by rw [HN.out]; exact hlt
          obtain ⟨s, hs, hst, hsf⟩ := S0.out
          obtain ⟨p0, d0, hv0, hl0, hm0, _, _, _⟩ := own_at hs.row
          have S := Lib.hid hs
          have HST := Lib.hid hst
          have HSF := Lib.hid hsf
          have hk60 := HN60.out
          have HOK := Lib.hid (F.ok.ok hs.solo.one)
          have hsm := (F.ok.ok hs.solo.one).small
          obtain ⟨g, off, rfl, hcell⟩ := GA.out.cells (by omega)
          obtain ⟨a, haa⟩ : ∃ a, a = acts[k] := ⟨_, rfl⟩
          have hcl : wr.cell? ⟨g, off + k * 3, none⟩ = some (i64v a.kind) ∧ wr.cell? ⟨g, off + k * 3 + 1, none⟩ = some (i64v a.num) ∧ wr.cell? ⟨g, off + k * 3 + 2, none⟩ = some (.slice a.p a.b.length a.c) := by
            obtain ⟨g', off', e, h2⟩ := (GA.out.below hs.solo.below).cells (by omega)
            cases e
            rw [haa]
            exact h2 k hkz
          have HFT := Lib.hid (show fit64 a.num by rw [haa]; exact (GA.out.nums _ (List.getElem_mem hkz)).2)
          have HGB := Lib.hid (show GoodC w a.b a.p a.c by rw [haa]; exact GA.out.bytes _ (List.getElem_mem hkz))
          have HML := Lib.hid (show a.b.length ≤ 200 by rw [haa]; exact HSH.out.2 _ (List.getElem_mem hkz))
          obtain ⟨kd, num, zs, q, c⟩ := a
          simp only at hcl HFT HGB HML
          obtain ⟨m, hm⟩ : ∃ m, zs.length = m := ⟨_, rfl⟩
          rw [hm] at hcl HML
          have HM := Lib.hid hm
          have hmc : m ≤ c := by have := HGB.out.le; rw [hm] at this; exact this
          have hm200 := HML.out
          obtain ⟨c0, c1, c2⟩ := hcl
          obtain ⟨sl, hsl⟩ : ∃ y, y = s.log.length := ⟨_, rfl⟩
          have HSL := Lib.hid hsl
          rw [← hsl] at hv0 hl0 hsm
          subst hv0
          have HAP := Lib.hid (fun (f' : List Nat) (hf : ∀ k ∈ f', w.heap.size ≤ k) => show ApartC zs q f' from fun hne a ha e => by have h1 := HGB.out.block_lt hne a ha; have h2 := hf _ e; omega)
          have KB0 := Lib.hid (show KeptB R w (wr.alloc (.cells #[i64v kd, i64v num, .slice q m c] 34)) b fp s w.heap.size _ s.log wr.heap.size [i64v kd, i64v num, .slice q m c] from ⟨hs.on K.out ((Below.refl _ _).alloc (Nat.le_refl _) _), Blk.new wr #[i64v kd, i64v num, .slice q m c] _, fun e => by have := K.out.low hs.solo.one _ e; omega, fun e => by have := (hs.row.lt _ e).2; omega⟩)
          clear hs hst hsf hcell hkz haa hm S0 S
          clear hsl
          generalize hgx : wr.heap.size = gx at *
          by_cases hskip : kd = 4 ∨ kd = 8 ∨ kd = 9
          · rcases hskip with rfl | rfl | rfl
            · go_wp2_with fail
              go_roundw
              case rel => exact ⟨k + 1, f0, fp, by go_num, rfl, by omega, Lib.hid ⟨s, KB0.out.kept, by have := HST.out; omega, HSF.out⟩⟩
              case measure => simp [intOf]; omega
            · go_wp2_with fail
              go_roundw
              case rel => exact ⟨k + 1, f0, fp, by go_num, rfl, by omega, Lib.hid ⟨s, KB0.out.kept, by have := HST.out; omega, HSF.out⟩⟩
              case measure => simp [intOf]; omega
            · go_wp2_with fail
              go_roundw
              case rel => exact ⟨k + 1, f0, fp, by go_num, rfl, by omega, Lib.hid ⟨s, KB0.out.kept, by have := HST.out; omega, HSF.out⟩⟩
              case measure => simp [intOf]; omega
          have z4 : (kd == 4) = false := by rw [beq_eq_false_iff_ne]; omega
          have z8 : (kd == 8) = false := by rw [beq_eq_false_iff_ne]; omega
          have z9 : (kd == 9) = false := by rw [beq_eq_false_iff_ne]; omega
          have HK := Lib.hid (firm_act HOK.out kd num zs (by omega) (by omega))
          have HOK' := Lib.hid (act_ok HOK.out kd num zs HGB.out.bytes HFT.out)
          have HS1 := Lib.hid (show (actS s kd num zs).steps ≤ k + 1 from by have := steps_act s kd num zs; have := HST.out; omega)
          have HACT := Lib.hid (fun W (h : KeptB R w W b fp s w.heap.size (.slice p0 sl d0) s.log gx [i64v kd, i64v num, .slice q m c]) => show Calls Try.prog 31 #[optr b, .agg #[i64v kd, i64v num, .slice q m c]] W (fun e w' => ∃ fp', e = .returned (.tuple #[]) ∧ KeptB R w w' b fp' (actS s kd num zs) w.heap.size (.slice p0 sl d0) s.log gx [i64v kd, i64v num, .slice q m c]) from (act_any F b fp s kd num zs m q c W h.kept.solo.one HFT.out HM.out HML.out (HGB.out.below h.kept.solo.below) (HAP.out fp h.kept.solo.new) (by have := HST.out; omega)).mono (by rintro e w' ⟨rfl, fp', hr, ht, hf⟩; exact ⟨fp', rfl, h.step hr ht hf⟩))
          obtain ⟨s', hs'⟩ : ∃ y, y = actS s kd num zs := ⟨_, rfl⟩
          rw [← hs'] at HK HOK' HS1 HACT
          obtain ⟨L, hL⟩ : ∃ y, y = s'.log.length := ⟨_, rfl⟩
          have HL := Lib.hid hL
          clear hs' hL
          have HQ := Lib.hid (show Calls Try.prog 17 #[optr b] (wr.alloc (Obj.cells #[i64v kd, i64v num, .slice q m c] 34)) (QDone (i64v sl) _) from by have h1 := F.sees.len b fp s _ KB0.out.kept.solo.one; rw [← HSL.out] at h1; exact h1)
          go_wp2_with fail
          try rw [hgx]
          clear hgx
          refine (KB0.out.see K.out HQ.out).mono ?_
          rintro e wa ⟨rfl, hk'⟩
          have KA := Lib.hid hk'
          clear hk' KB0 c0 c1 c2 HQ
          have x0 : wa.cell? ⟨gx, 0, none⟩ = some (i64v kd) := KA.out.box.cell 0
          have x1 : wa.cell? ⟨gx, 1, none⟩ = some (i64v num) := KA.out.box.cell 1
          have x2 : wa.cell? ⟨gx, 2, none⟩ = some (.slice q m c) := KA.out.box.cell 2
          go_wp2_with fail
          refine (HACT.out wa KA.out).mono ?_
          rintro e wb ⟨fpb, rfl, hk'⟩
          have KB := Lib.hid hk'
          clear hk' KA HACT x0 x1 x2
          have y0 : wb.cell? ⟨gx, 0, none⟩ = some (i64v kd) := KB.out.box.cell 0
          have y1 : wb.cell? ⟨gx, 1, none⟩ = some (i64v num) := KB.out.box.cell 1
          have HQ := Lib.hid (show Calls Try.prog 17 #[optr b] wb (QDone (i64v L) wb) from by have h1 := F.sees.len b fpb s' wb KB.out.kept.solo.one; rw [← HL.out] at h1; exact h1)
          go_upto_region 16 with fail
          go_cut [72] from 31 to 144 (fun cb wx => ∃ gb : Bool, cb = .bool gb ∧ Hid (gb = decide ((kd = 0 ∨ kd = 1) ∧ sl < L)) ∧ Hid (KeptB R w wx b fpb s' w.heap.size (.slice p0 sl d0) s.log gx [i64v kd, i64v num, .slice q m c]))
          case first =>
            by_cases h0 : kd = 0
            · have z0 : (kd == 0) = true := by rw [beq_iff_eq]; exact h0
              have HG := Lib.hid (show decide (sl < L) = decide ((kd = 0 ∨ kd = 1) ∧ sl < L) from by simp [h0])
              go_wp2_with fail
              refine (KB.out.see K.out HQ.out).mono ?_
              rintro e wc ⟨rfl, hk'⟩
              have KC := Lib.hid hk'
              clear hk' HQ KB y0 y1 h0
              go_wp2_with fail
              go_meet
              case rel => exact ⟨_, rfl, HG, KC⟩
            · have z0 : (kd == 0) = false := by rw [beq_eq_false_iff_ne]; exact h0
              by_cases h1 : kd = 1
              · have z1 : (kd == 1) = true := by rw [beq_iff_eq]; exact h1
                have HG := Lib.hid (show decide (sl < L) = decide ((kd = 0 ∨ kd = 1) ∧ sl < L) from by simp [h1])
                go_wp2_with fail
                refine (KB.out.see K.out HQ.out).mono ?_
                rintro e wc ⟨rfl, hk'⟩
                have KC := Lib.hid hk'
                clear hk' HQ KB y0 y1 h1 h0
                go_wp2_with fail
                go_meet
                case rel => exact ⟨_, rfl, HG, KC⟩
              · have z1 : (kd == 1) = false := by rw [beq_eq_false_iff_ne]; exact h1
                have HG := Lib.hid (show false = decide ((kd = 0 ∨ kd = 1) ∧ sl < L) from by simp [h0, h1])
                clear h0 h1
                go_wp2_with fail
                go_meet
                case rel => exact ⟨false, rfl, HG, KB⟩
          case rest =>
          obtain ⟨gb, rfl, HGD, KW⟩ := hcut
          clear KB HQ y0 y1
          cases gb with
          | true =>
            have HGT := Lib.hid (of_decide_eq_true HGD.out.symm)
            have hgr : sl < L := HGT.out.2
            have z7 : (kd == 7) = false := by rw [beq_eq_false_iff_ne]; have := HGT.out.1; omega
            have x2 : wc.cell? ⟨gx, 2, none⟩ = some (.slice q m c) := KW.out.box.cell 2
            have HZA := Lib.hid (HGB.out.below KW.out.kept.solo.below)
            go_wp2_with (at_builtin; refine wpList_app_at rfl (.tmp 73) (.tmp 75) 32 rfl w.heap.size 5 Try.underlying32 kbyte_info rfl _ sl _ rfl (by have h1 := KW.out.kept.row; rw [← HSL.out] at h1; exact h1) q m c (zs.map v8) rfl HZA.out.at_ (by rw [List.length_map]; exact HM.out) HZA.out.nil hmc (kone8 _) (by omega) (by unfold maxLen; omega) KW.out.kept.solo.below.size ?_; intro v5 w5 hown5 hg5 hp5; obtain ⟨pv, dv, rfl, _, _, _, _, _⟩ := own_at hown5; have KC := Lib.hid (KW.out.grow K.out (by rw [← HSL.out, HM.out]) hown5 hg5 hp5 (Nat.le_refl _)); clear hown5 hg5 hp5)
            have HGE := Lib.hid (show ghost s s' kd zs = s.log ++ zs from if_pos ⟨HGT.out.1, by rw [← HSL.out, ← HL.out]; exact hgr⟩)
            have HGLN := Lib.hid (show (s.log ++ zs).length = sl + m by rw [List.length_append, HM.out, HSL.out])
            obtain ⟨gl, hgl⟩ : ∃ y, y = s.log ++ zs := ⟨_, rfl⟩
            rw [← hgl] at HGE HGLN KC
            obtain ⟨G, hG⟩ : ∃ y, y = sl + m := ⟨_, rfl⟩
            rw [← hG] at HGLN KC ⊢
            have hGG : G ≤ 2000000 := by omega
            have HKN := Lib.hid (show ¬ (kd = 7 ∧ 0 ≤ num) by have := HGT.out.1; omega)
            clear hgl hG HZA x2 KW
            have HK2 := Lib.hid (by have h1 := HK.out; rw [HGE.out] at h1; exact h1)
            obtain ⟨f1, hf1⟩ : ∃ y, y = s'.firm := ⟨_, rfl⟩
            have HF1 := Lib.hid hf1
            have n1 : f0 ≤ f1 := by have := HK2.out.1; rw [HSF.out, ← hf1] at this; exact this
            have n2 : f0 ≤ L := by have := HK2.out.2.1; rw [HSF.out, ← HL.out] at this; exact this
            have n3 : L ≤ G := by have := HK2.out.2.2.1; rw [HGLN.out, ← HL.out] at this; exact this
            have n4 : f1 ≤ L := by have := HOK'.out.firm; rw [← hf1, ← HL.out] at this; exact this
            have nL : L ≤ 1000000 := by have := HOK'.out.small; rw [← HL.out] at this; omega
            clear hf1
            have m1 : decide ((L : Int) < (f0 : Int)) = false := decide_eq_false (by omega)
            have m2 : decide ((G : Int) < (L : Int)) = false := decide_eq_false (by omega)
            have m3 : decide ((f1 : Int) < (f0 : Int)) = false := decide_eq_false (by omega)
            have m4 : decide ((L : Int) < (f1 : Int)) = false := decide_eq_false (by omega)
            have HQ := Lib.hid (show Calls Try.prog 17 #[optr b] w5 (QDone (i64v L) w5) from by have h1 := F.sees.len b fpb s' w5 KC.out.kept.solo.one; rw [← HL.out] at h1; exact h1)
            go_wp2_with fail
            refine (KC.out.see K.out HQ.out).mono ?_
            rintro e wt1 ⟨rfl, hk'⟩
            have KT1 := Lib.hid hk'
            clear hk' HQ KC
            have HQ := Lib.hid (show Calls Try.prog 17 #[optr b] wt1 (QDone (i64v L) wt1) from by have h1 := F.sees.len b fpb s' wt1 KT1.out.kept.solo.one; rw [← HL.out] at h1; exact h1)
            go_wp2_with fail
            refine (KT1.out.see K.out HQ.out).mono ?_
            rintro e wt2 ⟨rfl, hk'⟩
            have KT2 := Lib.hid hk'
            clear hk' HQ KT1
            have HQ := Lib.hid (show Calls Try.prog 18 #[optr b] wt2 (QDone (i64v f1) wt2) from by have h1 := F.sees.firm b fpb s' wt2 KT2.out.kept.solo.one; rw [← HF1.out] at h1; exact h1)
            go_wp2_with fail
            refine (KT2.out.see K.out HQ.out).mono ?_
            rintro e wt3 ⟨rfl, hk'⟩
            have KT3 := Lib.hid hk'
            clear hk' HQ KT2
            have HQ := Lib.hid (show Calls Try.prog 18 #[optr b] wt3 (QDone (i64v f1) wt3) from by have h1 := F.sees.firm b fpb s' wt3 KT3.out.kept.solo.one; rw [← HF1.out] at h1; exact h1)
            go_wp2_with fail
            refine (KT3.out.see K.out HQ.out).mono ?_
            rintro e wt4 ⟨rfl, hk'⟩
            have KT4 := Lib.hid hk'
            clear hk' HQ KT3
            have HQ := Lib.hid (show Calls Try.prog 17 #[optr b] wt4 (QDone (i64v L) wt4) from by have h1 := F.sees.len b fpb s' wt4 KT4.out.kept.solo.one; rw [← HL.out] at h1; exact h1)
            go_wp2_with fail
            refine (KT4.out.see K.out HQ.out).mono ?_
            rintro e wt5 ⟨rfl, hk'⟩
            have KT5 := Lib.hid hk'
            clear hk' HQ KT4
            have x0 : wt5.cell? ⟨gx, 0, none⟩ = some (i64v kd) := KT5.out.box.cell 0
            have x1 : wt5.cell? ⟨gx, 1, none⟩ = some (i64v num) := KT5.out.box.cell 1
            have HQ := Lib.hid (show Calls Try.prog 18 #[optr b] wt5 (QDone (i64v f1) wt5) from by have h1 := F.sees.firm b fpb s' wt5 KT5.out.kept.solo.one; rw [← HF1.out] at h1; exact h1)
            go_wp2_with fail
            refine (KT5.out.see K.out HQ.out).mono ?_
            rintro e wt6 ⟨rfl, hk'⟩
            have KT6 := Lib.hid hk'
            clear hk' HQ KT5
            have HRD := Lib.hid (show Calls Try.prog 16 #[optr b] wt6 (fun e w' => ∃ qr cr fp', e = .returned (.tuple #[.slice qr (readV s').length cr, i64v (readE s')]) ∧ At w' qr ((readV s').map v8) ∧ KeptB R w w' b fp' s' w.heap.size (.slice pv G dv) gl gx [i64v kd, i64v num, .slice q m c]) from (F.ok.read b fpb s' wt6 KT6.out.kept.solo.one).mono (by
              rintro e w' ⟨v, fp', rfl, ho, hr, ht, hf, _⟩
              obtain ⟨qr, cr, rfl, _, _, hA, _, _⟩ := own_at ho.row
              exact ⟨qr, cr, fp', rfl, hA, KT6.out.step hr ht hf⟩))
            go_wp2_with fail
            refine HRD.out.mono ?_
            rintro e wy ⟨qr, cr, fpy, rfl, hA, hk'⟩
            have AY := Lib.hid hA
            have KY := Lib.hid hk'
            clear hA hk' HRD KT6
            have HLG := Lib.hid (show s'.log = gl from HK2.out.2.2.2.2.1 HKN.out)
            have HUP := Lib.hid (F.sees.up b fpy s' wy KY.out.kept.solo.one)
            have HREL := Lib.hid (fun W fp (h : KeptB R w W b fp s' w.heap.size (.slice pv G dv) gl gx [i64v kd, i64v num, .slice q m c]) => show ∃ s, KeptD R w W b fp s w.heap.size (.slice pv G dv) s.log ∧ s.steps ≤ k + 1 ∧ s.firm = f1 from ⟨s', by rw [HLG.out]; exact h.kept, HS1.out, HF1.out.symm⟩)
            cases ho : s'.out with
            | true =>
              have HE := Lib.hid (show readE s' = 11 from if_pos ho)
              rw [ho] at HUP
              rw [HE.out]
              clear ho
              go_wp2_with fail
              refine (KY.out.see K.out HUP.out).mono ?_
              rintro e wz ⟨rfl, hk'⟩
              have KZ := Lib.hid hk'
              clear hk' KY HUP
              go_wp2_with fail
              go_roundw
              case rel => exact ⟨k + 1, f1, fpy, by go_num, rfl, by omega, Lib.hid (HREL.out _ _ KZ.out)⟩
              case measure => simp [intOf]; omega
            | false =>
              have HE := Lib.hid (show readE s' = 0 from if_neg (by rw [ho]; decide))
              have HV := Lib.hid (show readV s' = gl by rw [← HLG.out]; exact if_neg (by rw [ho]; decide))
              rw [ho] at HUP
              rw [HE.out]
              rw [HV.out] at AY
              have HLN := Lib.hid (show (readV s').length = G by rw [HV.out]; exact HGLN.out)
              rw [HLN.out]
              have HBY := Lib.hid (show ∀ x ∈ gl, IsByte x by rw [← HLG.out]; exact HOK'.out.log)
              have HSM := Lib.hid (same_true gl G G qr pv cr dv wy (HGLN.out) (HGLN.out) AY.out (by obtain ⟨_, _, e, _, _, hA, _, _⟩ := own_at KY.out.kept.row; cases e; exact hA) HBY.out)
              clear ho
              go_wp2_with fail
              refine HSM.out.mono ?_
              rintro e wz ⟨rfl, rfl⟩
              go_wp2_with fail
              refine (KY.out.see K.out HUP.out).mono ?_
              rintro e wz ⟨rfl, hk'⟩
              have KZ := Lib.hid hk'
              clear hk' KY HUP
              go_wp2_with fail
              go_roundw
              case rel => exact ⟨k + 1, f1, fpy, by go_num, rfl, by omega, Lib.hid (HREL.out _ _ KZ.out)⟩
              case measure => simp [intOf]; omega
          | false =>
            have HGF := Lib.hid (of_decide_eq_false HGD.out.symm)
            have KK := KW
            clear KW
            have HGE := Lib.hid (show ghost s s' kd zs = s.log from if_neg (by intro hh; exact HGF.out ⟨hh.1, by rw [HSL.out, HL.out]; exact hh.2⟩))
            obtain ⟨gl, hgl⟩ : ∃ y, y = s.log := ⟨_, rfl⟩
            rw [← hgl] at HGE
            have KC := Lib.hid (show KeptB R w wc b fpb s' w.heap.size (.slice p0 sl d0) gl gx [i64v kd, i64v num, .slice q m c] by rw [hgl]; exact KK.out)
            have HGLN := Lib.hid (show gl.length = sl by rw [hgl]; exact HSL.out.symm)
            clear hgl
            clear KK
            by_cases hcr : kd = 7 ∧ 0 ≤ num
            · obtain ⟨h7, hnum⟩ := hcr
              subst h7
              have HK2 := Lib.hid (by have h1 := HK.out; rw [HGE.out] at h1; exact h1)
              obtain ⟨f1, hf1⟩ : ∃ y, y = s'.firm := ⟨_, rfl⟩
              have HF1 := Lib.hid hf1
              have n1 : f0 ≤ f1 := by have := HK2.out.1; rw [HSF.out, ← hf1] at this; exact this
              have n2 : f0 ≤ L := by have := HK2.out.2.1; rw [HSF.out, ← HL.out] at this; exact this
              have n3 : L ≤ sl := by have := HK2.out.2.2.1; rw [HGLN.out, ← HL.out] at this; exact this
              have n4 : f1 ≤ L := by have := HOK'.out.firm; rw [← hf1, ← HL.out] at this; exact this
              have nL : L ≤ 1000000 := by have := HOK'.out.small; rw [← HL.out] at this; omega
              clear hf1
              have HC := Lib.hid (HK2.out.2.2.2.2.2 (by first | exact rfl | exact trivial) (by omega))
              have hfl : L = f1 := by have := HC.out.1; rw [← HF1.out, ← HL.out] at this; exact this.symm
              subst hfl
              have m1 : decide ((L : Int) < (f0 : Int)) = false := decide_eq_false (by omega)
              have m2 : decide ((sl : Int) < (L : Int)) = false := decide_eq_false (by omega)
              have m3 : decide ((L : Int) < (f0 : Int)) = false := decide_eq_false (by omega)
              have m4 : decide ((L : Int) < (L : Int)) = false := decide_eq_false (by omega)
              have HQ := Lib.hid (show Calls Try.prog 17 #[optr b] wc (QDone (i64v L) wc) from by have h1 := F.sees.len b fpb s' wc KC.out.kept.solo.one; rw [← HL.out] at h1; exact h1)
              go_wp2_with fail
              refine (KC.out.see K.out HQ.out).mono ?_
              rintro e wt1 ⟨rfl, hk'⟩
              have KT1 := Lib.hid hk'
              clear hk' HQ KC
              have HQ := Lib.hid (show Calls Try.prog 17 #[optr b] wt1 (QDone (i64v L) wt1) from by have h1 := F.sees.len b fpb s' wt1 KT1.out.kept.solo.one; rw [← HL.out] at h1; exact h1)
              go_wp2_with fail
              refine (KT1.out.see K.out HQ.out).mono ?_
              rintro e wt2 ⟨rfl, hk'⟩
              have KT2 := Lib.hid hk'
              clear hk' HQ KT1
              have HQ := Lib.hid (show Calls Try.prog 18 #[optr b] wt2 (QDone (i64v L) wt2) from by have h1 := F.sees.firm b fpb s' wt2 KT2.out.kept.solo.one; rw [← HF1.out] at h1; exact h1)
              go_wp2_with fail
              refine (KT2.out.see K.out HQ.out).mono ?_
              rintro e wt3 ⟨rfl, hk'⟩
              have KT3 := Lib.hid hk'
              clear hk' HQ KT2
              have HQ := Lib.hid (show Calls Try.prog 18 #[optr b] wt3 (QDone (i64v L) wt3) from by have h1 := F.sees.firm b fpb s' wt3 KT3.out.kept.solo.one; rw [← HF1.out] at h1; exact h1)
              go_wp2_with fail
              refine (KT3.out.see K.out HQ.out).mono ?_
              rintro e wt4 ⟨rfl, hk'⟩
              have KT4 := Lib.hid hk'
              clear hk' HQ KT3
              have HQ := Lib.hid (show Calls Try.prog 17 #[optr b] wt4 (QDone (i64v L) wt4) from by have h1 := F.sees.len b fpb s' wt4 KT4.out.kept.solo.one; rw [← HL.out] at h1; exact h1)
              go_wp2_with fail
              refine (KT4.out.see K.out HQ.out).mono ?_
              rintro e wt5 ⟨rfl, hk'⟩
              have KT5 := Lib.hid hk'
              clear hk' HQ KT4
              have x0 : wt5.cell? ⟨gx, 0, none⟩ = some (i64v 7) := KT5.out.box.cell 0
              have x1 : wt5.cell? ⟨gx, 1, none⟩ = some (i64v num) := KT5.out.box.cell 1
              have HQ := Lib.hid (show Calls Try.prog 17 #[optr b] wt5 (QDone (i64v L) wt5) from by have h1 := F.sees.len b fpb s' wt5 KT5.out.kept.solo.one; rw [← HL.out] at h1; exact h1)
              go_wp2_with fail
              refine (KT5.out.see K.out HQ.out).mono ?_
              rintro e wt6 ⟨rfl, hk'⟩
              have KT6 := Lib.hid hk'
              clear hk' HQ KT5
              obtain ⟨V, hVr, hVo, hVb⟩ := run_cut_row (by have h1 := KT6.out.kept.row; rw [HGLN.out] at h1; exact h1) L n3
              have HVR := Lib.hid hVr
              have HLOG := Lib.hid (show s'.log = gl.take L by have := HK2.out.2.2.2.1; rwa [← HL.out] at this)
              obtain ⟨pV, dV, hV, _, _, _, _, _⟩ := own_at hVo
              subst hV
              have KV := Lib.hid (show KeptB R w wt6 b fpb s' w.heap.size (.slice pV L dV) s'.log gx [i64v 7, i64v num, .slice q m c] from ⟨⟨KT6.out.kept.solo, by rw [← HL.out, HLOG.out, List.map_take]; exact hVo, by rw [hVb]; exact KT6.out.kept.out⟩, KT6.out.box, KT6.out.o1, by rw [hVb]; exact KT6.out.o2⟩)
              clear hVr hVo hVb KT6
              go_wp2_with (refine wpList_slice rfl 32 _ _ _ _ rfl _ HVR.out ?_; clear HVR)
              have HQ := Lib.hid (show Calls Try.prog 18 #[optr b] wt6 (QDone (i64v L) wt6) from by have h1 := F.sees.firm b fpb s' wt6 KV.out.kept.solo.one; rw [← HF1.out] at h1; exact h1)
              go_wp2_with fail
              refine (KV.out.see K.out HQ.out).mono ?_
              rintro e wt7 ⟨rfl, hk'⟩
              have KT7 := Lib.hid hk'
              clear hk' HQ KV
              have HQ := Lib.hid (show Calls Try.prog 17 #[optr b] wt7 (QDone (i64v L) wt7) from by have h1 := F.sees.len b fpb s' wt7 KT7.out.kept.solo.one; rw [← HL.out] at h1; exact h1)
              go_wp2_with fail
              refine (KT7.out.see K.out HQ.out).mono ?_
              rintro e wt8 ⟨rfl, hk'⟩
              have KT8 := Lib.hid hk'
              clear hk' HQ KT7
              have HQ := Lib.hid (show Calls Try.prog 20 #[optr b] wt8 (QDone (.bool true) wt8) from by have h1 := F.sees.up b fpb s' wt8 KT8.out.kept.solo.one; rw [HC.out.2] at h1; exact h1)
              go_wp2_with fail
              refine (KT8.out.see K.out HQ.out).mono ?_
              rintro e wt9 ⟨rfl, hk'⟩
              have KT9 := Lib.hid hk'
              clear hk' HQ KT8
              have HQ := Lib.hid (show Calls Try.prog 18 #[optr b] wt9 (QDone (i64v L) wt9) from by have h1 := F.sees.firm b fpb s' wt9 KT9.out.kept.solo.one; rw [← HF1.out] at h1; exact h1)
              go_wp2_with fail
              refine (KT9.out.see K.out HQ.out).mono ?_
              rintro e wt10 ⟨rfl, hk'⟩
              have KT10 := Lib.hid hk'
              clear hk' HQ KT9
              have HRD := Lib.hid (show Calls Try.prog 16 #[optr b] wt10 (fun e w' => ∃ qr cr fp', e = .returned (.tuple #[.slice qr (readV s').length cr, i64v (readE s')]) ∧ At w' qr ((readV s').map v8) ∧ KeptB R w w' b fp' s' w.heap.size (.slice pV L dV) s'.log gx [i64v 7, i64v num, .slice q m c]) from (F.ok.read b fpb s' wt10 KT10.out.kept.solo.one).mono (by
                rintro e w' ⟨v, fp', rfl, ho, hr, ht, hf, _⟩
                obtain ⟨qr, cr, rfl, _, _, hA, _, _⟩ := own_at ho.row
                exact ⟨qr, cr, fp', rfl, hA, KT10.out.step hr ht hf⟩))
              go_wp2_with fail
              refine HRD.out.mono ?_
              rintro e wy ⟨qr, cr, fpy, rfl, hA, hk'⟩
              have AY := Lib.hid hA
              have KY := Lib.hid hk'
              clear hA hk' HRD KT10
              have HLG := Lib.hid (show s'.log = s'.log from rfl)
              have HUP := Lib.hid (F.sees.up b fpy s' wy KY.out.kept.solo.one)
              have HREL := Lib.hid (fun W fp (h : KeptB R w W b fp s' w.heap.size (.slice pV L dV) s'.log gx [i64v 7, i64v num, .slice q m c]) => show ∃ s, KeptD R w W b fp s w.heap.size (.slice pV L dV) s.log ∧ s.steps ≤ k + 1 ∧ s.firm = L from ⟨s', by rw [HLG.out]; exact h.kept, HS1.out, HF1.out.symm⟩)
              cases ho : s'.out with
              | true =>
                have HE := Lib.hid (show readE s' = 11 from if_pos ho)
                rw [ho] at HUP
                rw [HE.out]
                clear ho
                go_wp2_with fail
                refine (KY.out.see K.out HUP.out).mono ?_
                rintro e wz ⟨rfl, hk'⟩
                have KZ := Lib.hid hk'
                clear hk' KY HUP
                go_wp2_with fail
                go_roundw
                case rel => exact ⟨k + 1, L, fpy, by go_num, rfl, by omega, Lib.hid (HREL.out _ _ KZ.out)⟩
                case measure => simp [intOf]; omega
              | false =>
                have HE := Lib.hid (show readE s' = 0 from if_neg (by rw [ho]; decide))
                have HV := Lib.hid (show readV s' = s'.log by rw [← HLG.out]; exact if_neg (by rw [ho]; decide))
                rw [ho] at HUP
                rw [HE.out]
                rw [HV.out] at AY
                have HLN := Lib.hid (show (readV s').length = L by rw [HV.out]; exact HL.out.symm)
                rw [HLN.out]
                have HBY := Lib.hid (show ∀ x ∈ s'.log, IsByte x by rw [← HLG.out]; exact HOK'.out.log)
                have HSM := Lib.hid (same_true s'.log L L qr pV cr dV wy (HL.out.symm) (HL.out.symm) AY.out (by obtain ⟨_, _, e, _, _, hA, _, _⟩ := own_at KY.out.kept.row; cases e; exact hA) HBY.out)
                clear ho
                go_wp2_with fail
                refine HSM.out.mono ?_
                rintro e wz ⟨rfl, rfl⟩
                go_wp2_with fail
                refine (KY.out.see K.out HUP.out).mono ?_
                rintro e wz ⟨rfl, hk'⟩
                have KZ := Lib.hid hk'
                clear hk' KY HUP
                go_wp2_with fail
                go_roundw
                case rel => exact ⟨k + 1, L, fpy, by go_num, rfl, by omega, Lib.hid (HREL.out _ _ KZ.out)⟩
                case measure => simp [intOf]; omega
            · have HKN := Lib.hid hcr
              have hcr2 : (kd == 7) = false ∨ ((kd == 7) = true ∧ num < 0) := by
                by_cases h7 : kd = 7
                · right; exact ⟨by rw [beq_iff_eq]; exact h7, by omega⟩
                · left; rw [beq_eq_false_iff_ne]; exact h7
              clear hcr
              rcases hcr2 with z7 | ⟨z7, hneg⟩
              · skip
                have HK2 := Lib.hid (by have h1 := HK.out; rw [HGE.out] at h1; exact h1)
                obtain ⟨f1, hf1⟩ : ∃ y, y = s'.firm := ⟨_, rfl⟩
                have HF1 := Lib.hid hf1
                have n1 : f0 ≤ f1 := by have := HK2.out.1; rw [HSF.out, ← hf1] at this; exact this
                have n2 : f0 ≤ L := by have := HK2.out.2.1; rw [HSF.out, ← HL.out] at this; exact this
                have n3 : L ≤ sl := by have := HK2.out.2.2.1; rw [HGLN.out, ← HL.out] at this; exact this
                have n4 : f1 ≤ L := by have := HOK'.out.firm; rw [← hf1, ← HL.out] at this; exact this
                have nL : L ≤ 1000000 := by have := HOK'.out.small; rw [← HL.out] at this; omega
                clear hf1
                have m1 : decide ((L : Int) < (f0 : Int)) = false := decide_eq_false (by omega)
                have m2 : decide ((sl : Int) < (L : Int)) = false := decide_eq_false (by omega)
                have m3 : decide ((f1 : Int) < (f0 : Int)) = false := decide_eq_false (by omega)
                have m4 : decide ((L : Int) < (f1 : Int)) = false := decide_eq_false (by omega)
                have HQ := Lib.hid (show Calls Try.prog 17 #[optr b] wc (QDone (i64v L) wc) from by have h1 := F.sees.len b fpb s' wc KC.out.kept.solo.one; rw [← HL.out] at h1; exact h1)
                go_wp2_with fail
                refine (KC.out.see K.out HQ.out).mono ?_
                rintro e wt1 ⟨rfl, hk'⟩
                have KT1 := Lib.hid hk'
                clear hk' HQ KC
                have HQ := Lib.hid (show Calls Try.prog 17 #[optr b] wt1 (QDone (i64v L) wt1) from by have h1 := F.sees.len b fpb s' wt1 KT1.out.kept.solo.one; rw [← HL.out] at h1; exact h1)
                go_wp2_with fail
                refine (KT1.out.see K.out HQ.out).mono ?_
                rintro e wt2 ⟨rfl, hk'⟩
                have KT2 := Lib.hid hk'
                clear hk' HQ KT1
                have HQ := Lib.hid (show Calls Try.prog 18 #[optr b] wt2 (QDone (i64v f1) wt2) from by have h1 := F.sees.firm b fpb s' wt2 KT2.out.kept.solo.one; rw [← HF1.out] at h1; exact h1)
                go_wp2_with fail
                refine (KT2.out.see K.out HQ.out).mono ?_
                rintro e wt3 ⟨rfl, hk'⟩
                have KT3 := Lib.hid hk'
                clear hk' HQ KT2
                have HQ := Lib.hid (show Calls Try.prog 18 #[optr b] wt3 (QDone (i64v f1) wt3) from by have h1 := F.sees.firm b fpb s' wt3 KT3.out.kept.solo.one; rw [← HF1.out] at h1; exact h1)
                go_wp2_with fail
                refine (KT3.out.see K.out HQ.out).mono ?_
                rintro e wt4 ⟨rfl, hk'⟩
                have KT4 := Lib.hid hk'
                clear hk' HQ KT3
                have HQ := Lib.hid (show Calls Try.prog 17 #[optr b] wt4 (QDone (i64v L) wt4) from by have h1 := F.sees.len b fpb s' wt4 KT4.out.kept.solo.one; rw [← HL.out] at h1; exact h1)
                go_wp2_with fail
                refine (KT4.out.see K.out HQ.out).mono ?_
                rintro e wt5 ⟨rfl, hk'⟩
                have KT5 := Lib.hid hk'
                clear hk' HQ KT4
                have x0 : wt5.cell? ⟨gx, 0, none⟩ = some (i64v kd) := KT5.out.box.cell 0
                have x1 : wt5.cell? ⟨gx, 1, none⟩ = some (i64v num) := KT5.out.box.cell 1
                have HQ := Lib.hid (show Calls Try.prog 18 #[optr b] wt5 (QDone (i64v f1) wt5) from by have h1 := F.sees.firm b fpb s' wt5 KT5.out.kept.solo.one; rw [← HF1.out] at h1; exact h1)
                go_wp2_with fail
                refine (KT5.out.see K.out HQ.out).mono ?_
                rintro e wt6 ⟨rfl, hk'⟩
                have KT6 := Lib.hid hk'
                clear hk' HQ KT5
                have HRD := Lib.hid (show Calls Try.prog 16 #[optr b] wt6 (fun e w' => ∃ qr cr fp', e = .returned (.tuple #[.slice qr (readV s').length cr, i64v (readE s')]) ∧ At w' qr ((readV s').map v8) ∧ KeptB R w w' b fp' s' w.heap.size (.slice p0 sl d0) gl gx [i64v kd, i64v num, .slice q m c]) from (F.ok.read b fpb s' wt6 KT6.out.kept.solo.one).mono (by
                  rintro e w' ⟨v, fp', rfl, ho, hr, ht, hf, _⟩
                  obtain ⟨qr, cr, rfl, _, _, hA, _, _⟩ := own_at ho.row
                  exact ⟨qr, cr, fp', rfl, hA, KT6.out.step hr ht hf⟩))
                go_wp2_with fail
                refine HRD.out.mono ?_
                rintro e wy ⟨qr, cr, fpy, rfl, hA, hk'⟩
                have AY := Lib.hid hA
                have KY := Lib.hid hk'
                clear hA hk' HRD KT6
                have HLG := Lib.hid (show s'.log = gl from HK2.out.2.2.2.2.1 HKN.out)
                have HUP := Lib.hid (F.sees.up b fpy s' wy KY.out.kept.solo.one)
                have HREL := Lib.hid (fun W fp (h : KeptB R w W b fp s' w.heap.size (.slice p0 sl d0) gl gx [i64v kd, i64v num, .slice q m c]) => show ∃ s, KeptD R w W b fp s w.heap.size (.slice p0 sl d0) s.log ∧ s.steps ≤ k + 1 ∧ s.firm = f1 from ⟨s', by rw [HLG.out]; exact h.kept, HS1.out, HF1.out.symm⟩)
                cases ho : s'.out with
                | true =>
                  have HE := Lib.hid (show readE s' = 11 from if_pos ho)
                  rw [ho] at HUP
                  rw [HE.out]
                  clear ho
                  go_wp2_with fail
                  refine (KY.out.see K.out HUP.out).mono ?_
                  rintro e wz ⟨rfl, hk'⟩
                  have KZ := Lib.hid hk'
                  clear hk' KY HUP
                  go_wp2_with fail
                  go_roundw
                  case rel => exact ⟨k + 1, f1, fpy, by go_num, rfl, by omega, Lib.hid (HREL.out _ _ KZ.out)⟩
                  case measure => simp [intOf]; omega
                | false =>
                  have HE := Lib.hid (show readE s' = 0 from if_neg (by rw [ho]; decide))
                  have HV := Lib.hid (show readV s' = gl by rw [← HLG.out]; exact if_neg (by rw [ho]; decide))
                  rw [ho] at HUP
                  rw [HE.out]
                  rw [HV.out] at AY
                  have HLN := Lib.hid (show (readV s').length = sl by rw [HV.out]; exact HGLN.out)
                  rw [HLN.out]
                  have HBY := Lib.hid (show ∀ x ∈ gl, IsByte x by rw [← HLG.out]; exact HOK'.out.log)
                  have HSM := Lib.hid (same_true gl sl sl qr p0 cr d0 wy (HGLN.out) (HGLN.out) AY.out (by obtain ⟨_, _, e, _, _, hA, _, _⟩ := own_at KY.out.kept.row; cases e; exact hA) HBY.out)
                  clear ho
                  go_wp2_with fail
                  refine HSM.out.mono ?_
                  rintro e wz ⟨rfl, rfl⟩
                  go_wp2_with fail
                  refine (KY.out.see K.out HUP.out).mono ?_
                  rintro e wz ⟨rfl, hk'⟩
                  have KZ := Lib.hid hk'
                  clear hk' KY HUP
                  go_wp2_with fail
                  go_roundw
                  case rel => exact ⟨k + 1, f1, fpy, by go_num, rfl, by omega, Lib.hid (HREL.out _ _ KZ.out)⟩
                  case measure => simp [intOf]; omega
              · skip
                have HK2 := Lib.hid (by have h1 := HK.out; rw [HGE.out] at h1; exact h1)
                obtain ⟨f1, hf1⟩ : ∃ y, y = s'.firm := ⟨_, rfl⟩
                have HF1 := Lib.hid hf1
                have n1 : f0 ≤ f1 := by have := HK2.out.1; rw [HSF.out, ← hf1] at this; exact this
                have n2 : f0 ≤ L := by have := HK2.out.2.1; rw [HSF.out, ← HL.out] at this; exact this
                have n3 : L ≤ sl := by have := HK2.out.2.2.1; rw [HGLN.out, ← HL.out] at this; exact this
                have n4 : f1 ≤ L := by have := HOK'.out.firm; rw [← hf1, ← HL.out] at this; exact this
                have nL : L ≤ 1000000 := by have := HOK'.out.small; rw [← HL.out] at this; omega
                clear hf1
                have m1 : decide ((L : Int) < (f0 : Int)) = false := decide_eq_false (by omega)
                have m2 : decide ((sl : Int) < (L : Int)) = false := decide_eq_false (by omega)
                have m3 : decide ((f1 : Int) < (f0 : Int)) = false := decide_eq_false (by omega)
                have m4 : decide ((L : Int) < (f1 : Int)) = false := decide_eq_false (by omega)
                have HQ := Lib.hid (show Calls Try.prog 17 #[optr b] wc (QDone (i64v L) wc) from by have h1 := F.sees.len b fpb s' wc KC.out.kept.solo.one; rw [← HL.out] at h1; exact h1)
                go_wp2_with fail
                refine (KC.out.see K.out HQ.out).mono ?_
                rintro e wt1 ⟨rfl, hk'⟩
                have KT1 := Lib.hid hk'
                clear hk' HQ KC
                have HQ := Lib.hid (show Calls Try.prog 17 #[optr b] wt1 (QDone (i64v L) wt1) from by have h1 := F.sees.len b fpb s' wt1 KT1.out.kept.solo.one; rw [← HL.out] at h1; exact h1)
                go_wp2_with fail
                refine (KT1.out.see K.out HQ.out).mono ?_
                rintro e wt2 ⟨rfl, hk'⟩
                have KT2 := Lib.hid hk'
                clear hk' HQ KT1
                have HQ := Lib.hid (show Calls Try.prog 18 #[optr b] wt2 (QDone (i64v f1) wt2) from by have h1 := F.sees.firm b fpb s' wt2 KT2.out.kept.solo.one; rw [← HF1.out] at h1; exact h1)
                go_wp2_with fail
                refine (KT2.out.see K.out HQ.out).mono ?_
                rintro e wt3 ⟨rfl, hk'⟩
                have KT3 := Lib.hid hk'
                clear hk' HQ KT2
                have HQ := Lib.hid (show Calls Try.prog 18 #[optr b] wt3 (QDone (i64v f1) wt3) from by have h1 := F.sees.firm b fpb s' wt3 KT3.out.kept.solo.one; rw [← HF1.out] at h1; exact h1)
                go_wp2_with fail
                refine (KT3.out.see K.out HQ.out).mono ?_
                rintro e wt4 ⟨rfl, hk'⟩
                have KT4 := Lib.hid hk'
                clear hk' HQ KT3
                have HQ := Lib.hid (show Calls Try.prog 17 #[optr b] wt4 (QDone (i64v L) wt4) from by have h1 := F.sees.len b fpb s' wt4 KT4.out.kept.solo.one; rw [← HL.out] at h1; exact h1)
                go_wp2_with fail
                refine (KT4.out.see K.out HQ.out).mono ?_
                rintro e wt5 ⟨rfl, hk'⟩
                have KT5 := Lib.hid hk'
                clear hk' HQ KT4
                have x0 : wt5.cell? ⟨gx, 0, none⟩ = some (i64v kd) := KT5.out.box.cell 0
                have x1 : wt5.cell? ⟨gx, 1, none⟩ = some (i64v num) := KT5.out.box.cell 1
                have HQ := Lib.hid (show Calls Try.prog 18 #[optr b] wt5 (QDone (i64v f1) wt5) from by have h1 := F.sees.firm b fpb s' wt5 KT5.out.kept.solo.one; rw [← HF1.out] at h1; exact h1)
                go_wp2_with fail
                refine (KT5.out.see K.out HQ.out).mono ?_
                rintro e wt6 ⟨rfl, hk'⟩
                have KT6 := Lib.hid hk'
                clear hk' HQ KT5
                have HRD := Lib.hid (show Calls Try.prog 16 #[optr b] wt6 (fun e w' => ∃ qr cr fp', e = .returned (.tuple #[.slice qr (readV s').length cr, i64v (readE s')]) ∧ At w' qr ((readV s').map v8) ∧ KeptB R w w' b fp' s' w.heap.size (.slice p0 sl d0) gl gx [i64v kd, i64v num, .slice q m c]) from (F.ok.read b fpb s' wt6 KT6.out.kept.solo.one).mono (by
                  rintro e w' ⟨v, fp', rfl, ho, hr, ht, hf, _⟩
                  obtain ⟨qr, cr, rfl, _, _, hA, _, _⟩ := own_at ho.row
                  exact ⟨qr, cr, fp', rfl, hA, KT6.out.step hr ht hf⟩))
                go_wp2_with fail
                refine HRD.out.mono ?_
                rintro e wy ⟨qr, cr, fpy, rfl, hA, hk'⟩
                have AY := Lib.hid hA
                have KY := Lib.hid hk'
                clear hA hk' HRD KT6
                have HLG := Lib.hid (show s'.log = gl from HK2.out.2.2.2.2.1 HKN.out)
                have HUP := Lib.hid (F.sees.up b fpy s' wy KY.out.kept.solo.one)
                have HREL := Lib.hid (fun W fp (h : KeptB R w W b fp s' w.heap.size (.slice p0 sl d0) gl gx [i64v kd, i64v num, .slice q m c]) => show ∃ s, KeptD R w W b fp s w.heap.size (.slice p0 sl d0) s.log ∧ s.steps ≤ k + 1 ∧ s.firm = f1 from ⟨s', by rw [HLG.out]; exact h.kept, HS1.out, HF1.out.symm⟩)
                cases ho : s'.out with
                | true =>
                  have HE := Lib.hid (show readE s' = 11 from if_pos ho)
                  rw [ho] at HUP
                  rw [HE.out]
                  clear ho
                  go_wp2_with fail
                  refine (KY.out.see K.out HUP.out).mono ?_
                  rintro e wz ⟨rfl, hk'⟩
                  have KZ := Lib.hid hk'
                  clear hk' KY HUP
                  go_wp2_with fail
                  go_roundw
                  case rel => exact ⟨k + 1, f1, fpy, by go_num, rfl, by omega, Lib.hid (HREL.out _ _ KZ.out)⟩
                  case measure => simp [intOf]; omega
                | false =>
                  have HE := Lib.hid (show readE s' = 0 from if_neg (by rw [ho]; decide))
                  have HV := Lib.hid (show readV s' = gl by rw [← HLG.out]; exact if_neg (by rw [ho]; decide))
                  rw [ho] at HUP
                  rw [HE.out]
                  rw [HV.out] at AY
                  have HLN := Lib.hid (show (readV s').length = sl by rw [HV.out]; exact HGLN.out)
                  rw [HLN.out]
                  have HBY := Lib.hid (show ∀ x ∈ gl, IsByte x by rw [← HLG.out]; exact HOK'.out.log)
                  have HSM := Lib.hid (same_true gl sl sl qr p0 cr d0 wy (HGLN.out) (HGLN.out) AY.out (by obtain ⟨_, _, e, _, _, hA, _, _⟩ := own_at KY.out.kept.row; cases e; exact hA) HBY.out)
                  clear ho
                  go_wp2_with fail
                  refine HSM.out.mono ?_
                  rintro e wz ⟨rfl, rfl⟩
                  go_wp2_with fail
                  refine (KY.out.see K.out HUP.out).mono ?_
                  rintro e wz ⟨rfl, hk'⟩
                  have KZ := Lib.hid hk'
                  clear hk' KY HUP
                  go_wp2_with fail
                  go_roundw
                  case rel => exact ⟨k + 1, f1, fpy, by go_num, rfl, by omega, Lib.hid (HREL.out _ _ KZ.out)⟩
                  case measure => simp [intOf]; omega
        · obtain rfl : k = n := by omega
          obtain ⟨s, hs, _⟩ := S0.out
          have B3 := Lib.hid hs.solo.below
          clear S0 hs
          go_wp2_with fail
          go_ret
          exact ⟨rfl, B3.out⟩
  · exact absurd ((newE_in (by omega)).symm.trans hz2) (by decide)
end Go.Proofs.Ytooljhdfmfkpeaa
