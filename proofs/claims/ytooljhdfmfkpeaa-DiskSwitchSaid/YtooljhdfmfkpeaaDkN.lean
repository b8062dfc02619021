/-
  The law DiskSwitch, over what disks are asked to do: the walk.
-/
import Derived.Test.YtooljhdfmfkpeaaDkM
import Derived.Test.YtooljhdfmfkpeaaPick
namespace Go.Proofs.Ytooljhdfmfkpeaa
set_option linter.unusedSimpArgs false
set_option linter.unusedVariables false
open Go.RowKit Sha Dsk
section
variable {R : DiskRep} (F : DisksOK R) {w0 w : World} {b : Nat} {fp : List Nat} {s s' : DState}
include F
theorem app_mem (S : Solo R w0 w b fp s) (zs : List Int) (n : Nat) (p : Option Addr) (c : Nat) (z : Int) (hn : zs.length = n) (hs : n ≤ 1000) (hz : GoodC w0 zs p c) (hst : s.steps ≤ 1000) (h1 : appS s zs = s') (h2 : appE s zs.length = z) :
    Calls Try.prog 21 #[optr b, .slice p n c] w (SDone R w0 b s' (i64v z)) := by
  have h := F.ok.append b fp s zs n p c w S.one (by omega) hn (by omega) (hz.below S.below) (apart_old hz S.new)
  rw [h1, ← hn, h2] at h
  rw [← hn]
  exact S.call h
theorem next_mem (S : Solo R w0 w b fp s) (zs : List Int) (n : Nat) (p : Option Addr) (c : Nat) (z : Int) (hn : zs.length = n) (hs : n ≤ 1000) (hz : GoodC w0 zs p c) (hst : s.steps ≤ 1000) (h1 : nextS s zs = s') (h2 : appE s zs.length = z) :
    Calls Try.prog 23 #[optr b, .slice p n c] w (SDone R w0 b s' (i64v z)) := by
  have h := F.ok.next b fp s zs n p c w S.one (by omega) hn (by omega) (hz.below S.below) (apart_old hz S.new)
  rw [h1, ← hn, h2] at h
  rw [← hn]
  exact S.call h
theorem reads_mem (S : Solo R w0 w b fp s) (zs : List Int) (n : Nat) (p : Option Addr) (c : Nat) (hn : zs.length = n) (hz : GoodC w0 zs p c) (h1 : readE s = 0) (h2 : readV s = zs) :
    Calls Try.prog 29 #[optr b, .slice p n c] w (SDone R w0 b s (.bool true)) :=
  S.call (reads_any F b fp s zs n p c w S.one hn (hz.below S.below) (apart_old hz S.new) h1 h2)
end
set_option maxRecDepth 100000 in
set_option maxHeartbeats 8000000 in
theorem switch_any {R : DiskRep} (F : DisksOK R) (a : List Int) (na : Nat) (pa : Option Addr) (ca : Nat) (l : List Int) (nl : Nat) (pl : Option Addr) (cl : Nat) (x : List Int) (nx : Nat) (px : Option Addr) (cx : Nat) (q0 k0 : Int) (w : World)
    (ha : a.length = na) (Ga : GoodC w a pa ca) (hl : l.length = nl) (Gl : GoodC w l pl cl) (hx : x.length = nx) (Gx : GoodC w x px cx) (hq : fit64 q0) (hk : fit64 k0) :
    Calls Try.prog 7 #[.slice pa na ca, .slice pl nl cl, .slice px nx cx, i64v q0, i64v k0] w fun e w' => e = .returned (.bool true) ∧ Below w.heap.size w w' := by
  have K := Lib.hid F.ok.held
  have GA := Lib.hid Ga
  have GL := Lib.hid Gl
  have GX := Lib.hid Gx
  have HA := Lib.hid ha
  have HL := Lib.hid hl
  have HX := Lib.hid hx
  have HQ := Lib.hid hq
  have HK := Lib.hid hk
  have hna : na ≤ 9223372036854775807 := by have := Ga.le; have := Ga.max; omega
  have hnl : nl ≤ 9223372036854775807 := by have := Gl.le; have := Gl.max; omega
  have hnx : nx ≤ 9223372036854775807 := by have := Gx.le; have := Gx.max; omega
  have hcx : nx ≤ cx := by have := Gx.le; omega
  clear ha hl hx hq hk Ga Gl Gx
  go_enter Try.func7, Try.ntmps7
  go_wp2_with fail
  refine (awake_any F w).mono ?_
  rintro e w1 ⟨rfl, hb1⟩
  have B1 := Lib.hid hb1
  clear hb1
  go_wp2_with fail
  refine (F.ok.new 1000 w1 (fit_litD (by omega))).mono ?_
  rintro e w2 ⟨hb2, ⟨_, b, fp, rfl, hrr, hnew⟩ | ⟨hz2, _⟩⟩
  · have S2 := Lib.hid (show Solo R w w2 b fp (fresh 1000) from ⟨hrr, fun k hk => Nat.le_trans B1.out.size (hnew k hk), B1.out.trans (hb2.mono B1.out.size)⟩)
    have B2 := Lib.hid S2.out.below
    clear hb2 hrr hnew
    by_cases h1 : 100 < na
    · have d1 : decide (100 < (na : Int)) = true := decide_eq_true (by omega)
      go_wp2_with fail
      go_ret
      exact ⟨rfl, B2.out⟩
    have d1 : decide (100 < (na : Int)) = false := decide_eq_false (by omega)
    by_cases h2 : 100 < nl
    · have d2 : decide (100 < (nl : Int)) = true := decide_eq_true (by omega)
      go_wp2_with fail
      go_ret
      exact ⟨rfl, B2.out⟩
    have d2 : decide (100 < (nl : Int)) = false := decide_eq_false (by omega)
    by_cases h3 : 100 < nx
    · have d3 : decide (100 < (nx : Int)) = true := decide_eq_true (by omega)
      go_wp2_with fail
      go_ret
      exact ⟨rfl, B2.out⟩
    have d3 : decide (100 < (nx : Int)) = false := decide_eq_false (by omega)
    have HA1 := Lib.hid (base_app1 a (by rw [HA.out]; omega))
    go_wp2_with fail
    refine (app_mem F S2.out a na pa ca 0 HA.out (by omega) GA.out (by simp [fresh]) HA1.out.1 HA1.out.2).mono ?_
    rintro e w3 ⟨rfl, fp3, hs⟩
    have S3 := Lib.hid hs
    clear hs S2 B2
    go_wp2_with fail
    refine (sync_of F S3.out 0 (by simp) (base_sync a).1 (base_sync a).2).mono ?_
    rintro e w4 ⟨rfl, fp4, hs⟩
    have S4 := Lib.hid hs
    clear hs S3
    have HA2 := Lib.hid (base_app2 a l (by rw [HA.out]; omega) (by rw [HL.out]; omega))
    go_wp2_with fail
    refine (app_mem F S4.out l nl pl cl 0 HL.out (by omega) GL.out (by simp) HA2.out.1 HA2.out.2).mono ?_
    rintro e w5 ⟨rfl, fp5, hs⟩
    have S5 := Lib.hid hs
    clear hs S4
    go_wp2_with fail
    refine (pick_any q0 6 w5 (by omega) (by omega) HQ.out).mono ?_
    rintro e w6 ⟨rfl, rfl⟩
    obtain ⟨hq1, hq2⟩ := pickOf_bd q0 6 (by omega)
    obtain ⟨q, hqq⟩ : ∃ q, q = pickOf q0 6 := ⟨_, rfl⟩
    rw [← hqq] at hq1 hq2 ⊢
    clear hqq
    have HFU := Lib.hid (base_fuse a l q hq1)
    go_wp2_with fail
    refine (fuse_of F S5.out q 0 ⟨by omega, by omega⟩ HFU.out.1 HFU.out.2).mono ?_
    rintro e w7 ⟨rfl, fp7, hs⟩
    have S7 := Lib.hid hs
    clear hs S5 HFU HA1 HA2
    go_wp2_with fail
    obtain ⟨hf, hhf⟩ : ∃ y, y = nx / 2 := ⟨_, rfl⟩
    have hfle : hf ≤ nx := by omega
    have hfd : ((nx : Int) / 2) = (hf : Int) := by omega
    have P1 := Lib.hid (show GoodC w (x.take hf) px cx from ⟨fun n hn => GX.out.bytes n (List.mem_of_mem_take hn), by have h1 := GX.out.at_; rw [← List.take_append_drop hf x, List.map_append] at h1; exact h1.front, by rw [List.length_take, HX.out]; omega, GX.out.max, GX.out.nil⟩)
    have P2 := Lib.hid (show GoodC w (x.drop hf) (if cx = hf then px else px.map (·.add hf)) (cx - hf) from by have h1 := (GX.out.part hf nx (by rw [HX.out]; exact Nat.le_refl _) hfle).1; rwa [List.take_of_length_le (by rw [HX.out]; exact Nat.le_refl _)] at h1)
    have hcut2 : ∀ w, (Instr.sliceAt 32 (.slice px nx cx) (some (.int .i64 (hf : Int))) none none).run Try.prog w = .ok (.slice (if cx = hf then px else px.map (·.add hf)) (nx - hf) (cx - hf)) w := fun w => by
      rw [run_cut_l 32 5 px nx cx Try.underlying32 kslice1 .i64 (hf : Int) (by omega) (by omega)]
      rfl
    have hcut1 : ∀ w, (Instr.sliceAt 32 (.slice px nx cx) none (some (.int .i64 (hf : Int))) none).run Try.prog w = .ok (.slice px hf cx) w := fun w => by
      rw [run_cut_h 32 5 px nx cx Try.underlying32 kslice1 .i64 (hf : Int) (by omega) (by omega)]
      unfold cutV
      cases px with
      | none => simp
      | some a =>
        have e : a.add 0 = a := by simp [Addr.add]
        simp [e]
    obtain ⟨q2, hq2'⟩ : ∃ y, y = (if cx = hf then px else px.map (·.add hf)) := ⟨_, rfl⟩
    rw [← hq2'] at P2 hcut2
    have HC1 := Lib.hid hcut1
    have HC2 := Lib.hid hcut2
    have HL1 := Lib.hid (show (x.take hf).length = hf by rw [List.length_take, HX.out]; omega)
    have HL2 := Lib.hid (show (x.drop hf).length = nx - hf by rw [List.length_drop, HX.out])
    have HN1 := Lib.hid (next_st (a ++ l) a.length [] 3 q (x.take hf) (by rw [List.length_append, HA.out, HL.out, HL1.out]; simp only [List.length_nil]; omega))
    have HN2 := Lib.hid (next_st (a ++ l) a.length ([] ++ x.take hf) 4 (q - 1) (x.drop hf) (by rw [List.length_append, List.length_append, HA.out, HL.out, HL1.out, HL2.out]; simp only [List.length_nil]; omega))
    have HSW := Lib.hid (sw_st (a ++ l) a.length ([] ++ x.take hf ++ x.drop hf) 5 (q - 1 - 1))
    have HXX := Lib.hid (show [] ++ x.take hf ++ x.drop hf = x by rw [List.nil_append, List.take_append_drop])
    obtain ⟨hk1, hk2⟩ := pickOf_bd k0 120 (by omega)
    obtain ⟨k, hkk⟩ : ∃ k : Nat, pickOf k0 120 = k := ⟨(pickOf k0 120).toNat, by omega⟩
    have HPK := Lib.hid (fun W => show Calls Try.prog 30 #[i64v k0, .int .i64 120] W (fun e w' => e = .returned (i64v (k : Int)) ∧ W = w') from by have h1 := pick_any k0 120 W (by omega) (by omega) HK.out; rw [hkk] at h1; exact h1)
    rw [hkk] at hk1 hk2
    clear hcut1 hcut2 hq2' hkk
    rw [hfd, ← hhf]
    have HHF := Lib.hid hhf
    clear hhf hfd
    by_cases q0' : q = 0
    · subst q0'
      refine (next_mem F S7.out (x.take hf) hf px cx 11 HL1.out (by omega) P1.out (by simp [baseS]) (s' := ⟨a ++ l, a.length, [] ++ x.take hf, 1000, 4, 0, true⟩) (HN1.out.1) (HN1.out.2)).mono ?_
      rintro e w8 ⟨rfl, fp8, hs⟩
      have S8 := Lib.hid hs
      clear hs S7
      have HCR := Lib.hid (crash_read ⟨a ++ l, a.length, [] ++ x.take hf, 1000, 4, 0, true⟩ (k : Int) hk1)
      have HCT := Lib.hid (show cut ⟨a ++ l, a.length, [] ++ x.take hf, 1000, 4, 0, true⟩ ((k : Int).toNat) = (a ++ l).take (na + k) by unfold cut; simp only [HA.out, Int.toNat_natCast])
      go_wp2_with fail
      refine (HPK.out _).mono ?_
      rintro e wp ⟨rfl, rfl⟩
      go_wp2_with fail
      refine (crash_of F S8.out (k : Int) 0 ⟨by omega, by omega⟩ rfl HCR.out.2.2).mono ?_
      rintro e wc ⟨rfl, fpc, hs⟩
      have SC := Lib.hid hs
      clear hs S8
      go_wp2_with fail
      refine (F.ok.read b fpc _ wc SC.out.one).mono ?_
      rintro e wd ⟨vr, fpd, rfl, ho, hr, ht, hf', _⟩
      rw [HCR.out.1]
      rw [HCR.out.2.1, HCT.out] at ho
      have BD := Lib.hid (SC.out.step hr ht hf').below
      obtain ⟨qr, cr, rfl, _, _, hAr, hxl, _⟩ := own_at ho.row
      have AR := Lib.hid (show At wd qr (((a ++ l).take (na + k)).map v8) from hAr)
      obtain ⟨mr, hmr⟩ : ∃ y, y = ((a ++ l).take (na + k)).length := ⟨_, rfl⟩
      have HMR := Lib.hid hmr.symm
      have HMIN := Lib.hid (show mr = min (na + k) (na + nl) by rw [hmr, List.length_take, List.length_append, HA.out, HL.out])
      rw [← hmr]
      clear ho hr ht hf' SC hAr hxl hmr
      go_wp2_with fail
      refine (copy_any a na pa ca wd HA.out (GA.out.below BD.out).at_ (by have := GA.out.le; rw [HA.out] at this; exact this) GA.out.nil (by omega)).mono ?_
      rintro e we ⟨vw, rfl, hown, hbe⟩
      have OE := Lib.hid hown
      have HBE := Lib.hid hbe
      have BE := Lib.hid (BD.out.trans (hbe.mono BD.out.size))
      have GLE := Lib.hid (GL.out.below BE.out)
      have hlc : nl ≤ cl := by have := GL.out.le; rw [HL.out] at this; exact this
      clear hown hbe
      go_wp2_with (at_builtin; refine wpList_app rfl (.tmp 107) (.tmp 108) 32 rfl wd.heap.size 5 Try.underlying32 kbyte_info rfl vw na _ rfl OE.out pl nl cl (l.map v8) rfl GLE.out.at_ (by rw [List.length_map]; exact HL.out) GLE.out.nil hlc (kone8 _) (by omega) (by unfold maxLen; omega) HBE.out.size ?_; intro v9 w9 hown9 hg9 hb9 hs9 _; obtain ⟨p9, c9, rfl, _, _, _, _, _⟩ := own_at hown9; have O9 := Lib.hid hown9; have B9 := Lib.hid (HBE.out.trans hb9); clear hown9 hg9 hb9)
      refine (HPK.out _).mono ?_
      rintro e wp ⟨rfl, rfl⟩
      have A9 := Lib.hid (show At w9 p9 (((a ++ l).take (na + k)).map v8) from by
        obtain ⟨_, _, e, _, _, hA, _, _⟩ := own_at O9.out
        cases e
        rw [← List.map_append, ← List.take_append_drop (na + k) (a ++ l), List.map_append] at hA
        exact hA.front)
      have AR9 := Lib.hid (AR.out.below B9.out)
      have HBY := Lib.hid (show ∀ y ∈ (a ++ l).take (na + k), IsByte y from fun y hy => by rcases List.mem_append.1 (List.mem_of_mem_take hy) with h | h; exact GA.out.bytes y h; exact GL.out.bytes y h)
      have BF := Lib.hid (BD.out.trans (B9.out.mono BD.out.size))
      have HMR2 := Lib.hid (show ((a ++ l).take (na + k)).length = mr from HMR.out)
      by_cases hnk : nl ≤ k
      · have HM3 := Lib.hid (show mr = na + nl by rw [HMIN.out]; omega)
        rw [HM3.out] at HMR2 ⊢
        have hle : (na : Int) + (nl : Int) ≤ (na : Int) + (k : Int) := by omega
        have HSM := Lib.hid (same_true _ (na + nl) (na + nl) qr p9 cr c9 w9 HMR2.out HMR2.out AR9.out A9.out HBY.out)
        go_wp2_with fail
        refine HSM.out.mono ?_
        rintro e wz ⟨rfl, rfl⟩
        go_wp2_with fail
        go_ret
        exact ⟨rfl, BF.out⟩
      · have HM3 := Lib.hid (show mr = na + k by rw [HMIN.out]; omega)
        rw [HM3.out] at HMR2 ⊢
        have hle : ¬ (na : Int) + (nl : Int) ≤ (na : Int) + (k : Int) := by omega
        have HSM := Lib.hid (same_true _ (na + k) (na + k) qr p9 cr c9 w9 HMR2.out HMR2.out AR9.out A9.out HBY.out)
        go_wp2_with fail
        refine HSM.out.mono ?_
        rintro e wz ⟨rfl, rfl⟩
        go_wp2_with fail
        go_ret
        exact ⟨rfl, BF.out⟩
    have HN1' := Lib.hid (show nextS (baseS a l q) (x.take hf) = ⟨a ++ l, a.length, [] ++ x.take hf, 1000, 4, q - 1, false⟩ ∧ appE (baseS a l q) (x.take hf).length = 0 from by have h1 := HN1.out; rw [if_pos (show 0 < q by omega), if_neg q0', decide_eq_false q0'] at h1; exact h1)
    refine (next_mem F S7.out (x.take hf) hf px cx 0 HL1.out (by omega) P1.out (by simp [baseS]) (s' := ⟨a ++ l, a.length, [] ++ x.take hf, 1000, 4, q - 1, false⟩) (HN1'.out.1) (HN1'.out.2)).mono ?_
    rintro e w8 ⟨rfl, fp8, hs⟩
    have S8 := Lib.hid hs
    clear hs S7
    go_wp2_with (refine wpList_slice_want (by rfl) 32 _ _ _ _ rfl _ HC2.out ?_)
    by_cases q1' : q = 1
    · subst q1'
      refine (next_mem F S8.out (x.drop hf) (nx - hf) q2 (cx - hf) 11 HL2.out (by omega) P2.out (by simp [baseS]) (s' := ⟨a ++ l, a.length, [] ++ x.take hf ++ x.drop hf, 1000, 5, 0, true⟩) (HN2.out.1) (HN2.out.2)).mono ?_
      rintro e w9 ⟨rfl, fp9, hs⟩
      have S9 := Lib.hid hs
      clear hs S8
      have HCR := Lib.hid (crash_read ⟨a ++ l, a.length, [] ++ x.take hf ++ x.drop hf, 1000, 5, 0, true⟩ (k : Int) hk1)
      have HCT := Lib.hid (show cut ⟨a ++ l, a.length, [] ++ x.take hf ++ x.drop hf, 1000, 5, 0, true⟩ ((k : Int).toNat) = (a ++ l).take (na + k) by unfold cut; simp only [HA.out, Int.toNat_natCast])
      go_wp2_with fail
      refine (HPK.out _).mono ?_
      rintro e wp ⟨rfl, rfl⟩
      go_wp2_with fail
      refine (crash_of F S9.out (k : Int) 0 ⟨by omega, by omega⟩ rfl HCR.out.2.2).mono ?_
      rintro e wc ⟨rfl, fpc, hs⟩
      have SC := Lib.hid hs
      clear hs S9
      go_wp2_with fail
      refine (F.ok.read b fpc _ wc SC.out.one).mono ?_
      rintro e wd ⟨vr, fpd, rfl, ho, hr, ht, hf', _⟩
      rw [HCR.out.1]
      rw [HCR.out.2.1, HCT.out] at ho
      have BD := Lib.hid (SC.out.step hr ht hf').below
      obtain ⟨qr, cr, rfl, _, _, hAr, hxl, _⟩ := own_at ho.row
      have AR := Lib.hid (show At wd qr (((a ++ l).take (na + k)).map v8) from hAr)
      obtain ⟨mr, hmr⟩ : ∃ y, y = ((a ++ l).take (na + k)).length := ⟨_, rfl⟩
      have HMR := Lib.hid hmr.symm
      have HMIN := Lib.hid (show mr = min (na + k) (na + nl) by rw [hmr, List.length_take, List.length_append, HA.out, HL.out])
      rw [← hmr]
      clear ho hr ht hf' SC hAr hxl hmr
      go_wp2_with fail
      refine (copy_any a na pa ca wd HA.out (GA.out.below BD.out).at_ (by have := GA.out.le; rw [HA.out] at this; exact this) GA.out.nil (by omega)).mono ?_
      rintro e we ⟨vw, rfl, hown, hbe⟩
      have OE := Lib.hid hown
      have HBE := Lib.hid hbe
      have BE := Lib.hid (BD.out.trans (hbe.mono BD.out.size))
      have GLE := Lib.hid (GL.out.below BE.out)
      have hlc : nl ≤ cl := by have := GL.out.le; rw [HL.out] at this; exact this
      clear hown hbe
      go_wp2_with (at_builtin; refine wpList_app rfl (.tmp 107) (.tmp 108) 32 rfl wd.heap.size 5 Try.underlying32 kbyte_info rfl vw na _ rfl OE.out pl nl cl (l.map v8) rfl GLE.out.at_ (by rw [List.length_map]; exact HL.out) GLE.out.nil hlc (kone8 _) (by omega) (by unfold maxLen; omega) HBE.out.size ?_; intro v9 w9 hown9 hg9 hb9 hs9 _; obtain ⟨p9, c9, rfl, _, _, _, _, _⟩ := own_at hown9; have O9 := Lib.hid hown9; have B9 := Lib.hid (HBE.out.trans hb9); clear hown9 hg9 hb9)
      refine (HPK.out _).mono ?_
      rintro e wp ⟨rfl, rfl⟩
      have A9 := Lib.hid (show At w9 p9 (((a ++ l).take (na + k)).map v8) from by
        obtain ⟨_, _, e, _, _, hA, _, _⟩ := own_at O9.out
        cases e
        rw [← List.map_append, ← List.take_append_drop (na + k) (a ++ l), List.map_append] at hA
        exact hA.front)
      have AR9 := Lib.hid (AR.out.below B9.out)
      have HBY := Lib.hid (show ∀ y ∈ (a ++ l).take (na + k), IsByte y from fun y hy => by rcases List.mem_append.1 (List.mem_of_mem_take hy) with h | h; exact GA.out.bytes y h; exact GL.out.bytes y h)
      have BF := Lib.hid (BD.out.trans (B9.out.mono BD.out.size))
      have HMR2 := Lib.hid (show ((a ++ l).take (na + k)).length = mr from HMR.out)
      by_cases hnk : nl ≤ k
      · have HM3 := Lib.hid (show mr = na + nl by rw [HMIN.out]; omega)
        rw [HM3.out] at HMR2 ⊢
        have hle : (na : Int) + (nl : Int) ≤ (na : Int) + (k : Int) := by omega
        have HSM := Lib.hid (same_true _ (na + nl) (na + nl) qr p9 cr c9 w9 HMR2.out HMR2.out AR9.out A9.out HBY.out)
        go_wp2_with fail
        refine HSM.out.mono ?_
        rintro e wz ⟨rfl, rfl⟩
        go_wp2_with fail
        go_ret
        exact ⟨rfl, BF.out⟩
      · have HM3 := Lib.hid (show mr = na + k by rw [HMIN.out]; omega)
        rw [HM3.out] at HMR2 ⊢
        have hle : ¬ (na : Int) + (nl : Int) ≤ (na : Int) + (k : Int) := by omega
        have HSM := Lib.hid (same_true _ (na + k) (na + k) qr p9 cr c9 w9 HMR2.out HMR2.out AR9.out A9.out HBY.out)
        go_wp2_with fail
        refine HSM.out.mono ?_
        rintro e wz ⟨rfl, rfl⟩
        go_wp2_with fail
        go_ret
        exact ⟨rfl, BF.out⟩
    have HN2' := Lib.hid (show nextS ⟨a ++ l, a.length, [] ++ x.take hf, 1000, 4, q - 1, false⟩ (x.drop hf) = ⟨a ++ l, a.length, [] ++ x.take hf ++ x.drop hf, 1000, 5, q - 1 - 1, false⟩ ∧ appE ⟨a ++ l, a.length, [] ++ x.take hf, 1000, 4, q - 1, false⟩ (x.drop hf).length = 0 from by have h1 := HN2.out; rw [if_pos (show 0 < q - 1 by omega), if_neg (show ¬ q - 1 = 0 by omega), decide_eq_false (show ¬ q - 1 = 0 by omega)] at h1; exact h1)
    refine (next_mem F S8.out (x.drop hf) (nx - hf) q2 (cx - hf) 0 HL2.out (by omega) P2.out (by simp [baseS]) (s' := ⟨a ++ l, a.length, [] ++ x.take hf ++ x.drop hf, 1000, 5, q - 1 - 1, false⟩) (HN2'.out.1) (HN2'.out.2)).mono ?_
    rintro e w9 ⟨rfl, fp9, hs⟩
    have S9 := Lib.hid hs
    clear hs S8
    go_wp2_with fail
    by_cases q2'' : q = 2
    · subst q2''
      refine (sw_of F S9.out 11 (by simp) (s' := ⟨a ++ l, a.length, [] ++ x.take hf ++ x.drop hf, 1000, 6, 0, true⟩) HSW.out.1 HSW.out.2).mono ?_
      rintro e wa ⟨rfl, fpa, hs⟩
      have SA := Lib.hid hs
      clear hs S9
      have HCR := Lib.hid (crash_read ⟨a ++ l, a.length, [] ++ x.take hf ++ x.drop hf, 1000, 6, 0, true⟩ (k : Int) hk1)
      have HCT := Lib.hid (show cut ⟨a ++ l, a.length, [] ++ x.take hf ++ x.drop hf, 1000, 6, 0, true⟩ ((k : Int).toNat) = (a ++ l).take (na + k) by unfold cut; simp only [HA.out, Int.toNat_natCast])
      go_wp2_with fail
      refine (HPK.out _).mono ?_
      rintro e wp ⟨rfl, rfl⟩
      go_wp2_with fail
      refine (crash_of F SA.out (k : Int) 0 ⟨by omega, by omega⟩ rfl HCR.out.2.2).mono ?_
      rintro e wc ⟨rfl, fpc, hs⟩
      have SC := Lib.hid hs
      clear hs SA
      go_wp2_with fail
      refine (F.ok.read b fpc _ wc SC.out.one).mono ?_
      rintro e wd ⟨vr, fpd, rfl, ho, hr, ht, hf', _⟩
      rw [HCR.out.1]
      rw [HCR.out.2.1, HCT.out] at ho
      have BD := Lib.hid (SC.out.step hr ht hf').below
      obtain ⟨qr, cr, rfl, _, _, hAr, hxl, _⟩ := own_at ho.row
      have AR := Lib.hid (show At wd qr (((a ++ l).take (na + k)).map v8) from hAr)
      obtain ⟨mr, hmr⟩ : ∃ y, y = ((a ++ l).take (na + k)).length := ⟨_, rfl⟩
      have HMR := Lib.hid hmr.symm
      have HMIN := Lib.hid (show mr = min (na + k) (na + nl) by rw [hmr, List.length_take, List.length_append, HA.out, HL.out])
      rw [← hmr]
      clear ho hr ht hf' SC hAr hxl hmr
      go_wp2_with fail
      refine (copy_any a na pa ca wd HA.out (GA.out.below BD.out).at_ (by have := GA.out.le; rw [HA.out] at this; exact this) GA.out.nil (by omega)).mono ?_
      rintro e we ⟨vw, rfl, hown, hbe⟩
      have OE := Lib.hid hown
      have HBE := Lib.hid hbe
      have BE := Lib.hid (BD.out.trans (hbe.mono BD.out.size))
      have GLE := Lib.hid (GL.out.below BE.out)
      have hlc : nl ≤ cl := by have := GL.out.le; rw [HL.out] at this; exact this
      clear hown hbe
      go_wp2_with (at_builtin; refine wpList_app rfl (.tmp 107) (.tmp 108) 32 rfl wd.heap.size 5 Try.underlying32 kbyte_info rfl vw na _ rfl OE.out pl nl cl (l.map v8) rfl GLE.out.at_ (by rw [List.length_map]; exact HL.out) GLE.out.nil hlc (kone8 _) (by omega) (by unfold maxLen; omega) HBE.out.size ?_; intro v9 w9 hown9 hg9 hb9 hs9 _; obtain ⟨p9, c9, rfl, _, _, _, _, _⟩ := own_at hown9; have O9 := Lib.hid hown9; have B9 := Lib.hid (HBE.out.trans hb9); clear hown9 hg9 hb9)
      refine (HPK.out _).mono ?_
      rintro e wp ⟨rfl, rfl⟩
      have A9 := Lib.hid (show At w9 p9 (((a ++ l).take (na + k)).map v8) from by
        obtain ⟨_, _, e, _, _, hA, _, _⟩ := own_at O9.out
        cases e
        rw [← List.map_append, ← List.take_append_drop (na + k) (a ++ l), List.map_append] at hA
        exact hA.front)
      have AR9 := Lib.hid (AR.out.below B9.out)
      have HBY := Lib.hid (show ∀ y ∈ (a ++ l).take (na + k), IsByte y from fun y hy => by rcases List.mem_append.1 (List.mem_of_mem_take hy) with h | h; exact GA.out.bytes y h; exact GL.out.bytes y h)
      have BF := Lib.hid (BD.out.trans (B9.out.mono BD.out.size))
      have HMR2 := Lib.hid (show ((a ++ l).take (na + k)).length = mr from HMR.out)
      by_cases hnk : nl ≤ k
      · have HM3 := Lib.hid (show mr = na + nl by rw [HMIN.out]; omega)
        rw [HM3.out] at HMR2 ⊢
        have hle : (na : Int) + (nl : Int) ≤ (na : Int) + (k : Int) := by omega
        have HSM := Lib.hid (same_true _ (na + nl) (na + nl) qr p9 cr c9 w9 HMR2.out HMR2.out AR9.out A9.out HBY.out)
        go_wp2_with fail
        refine HSM.out.mono ?_
        rintro e wz ⟨rfl, rfl⟩
        go_wp2_with fail
        go_ret
        exact ⟨rfl, BF.out⟩
      · have HM3 := Lib.hid (show mr = na + k by rw [HMIN.out]; omega)
        rw [HM3.out] at HMR2 ⊢
        have hle : ¬ (na : Int) + (nl : Int) ≤ (na : Int) + (k : Int) := by omega
        have HSM := Lib.hid (same_true _ (na + k) (na + k) qr p9 cr c9 w9 HMR2.out HMR2.out AR9.out A9.out HBY.out)
        go_wp2_with fail
        refine HSM.out.mono ?_
        rintro e wz ⟨rfl, rfl⟩
        go_wp2_with fail
        go_ret
        exact ⟨rfl, BF.out⟩
    have HSW' := Lib.hid (show swS ⟨a ++ l, a.length, [] ++ x.take hf ++ x.drop hf, 1000, 5, q - 1 - 1, false⟩ = ⟨[] ++ x.take hf ++ x.drop hf, ([] ++ x.take hf ++ x.drop hf).length, [], 1000, 6, q - 1 - 1 - 1, false⟩ ∧ syncE ⟨a ++ l, a.length, [] ++ x.take hf ++ x.drop hf, 1000, 5, q - 1 - 1, false⟩ = 0 from by have h1 := HSW.out; rw [if_neg (show ¬ q - 1 - 1 = 0 by omega), if_pos (show 0 < q - 1 - 1 by omega), if_neg (show ¬ q - 1 - 1 = 0 by omega)] at h1; exact h1)
    refine (sw_of F S9.out 0 (by simp) (s' := ⟨[] ++ x.take hf ++ x.drop hf, ([] ++ x.take hf ++ x.drop hf).length, [], 1000, 6, q - 1 - 1 - 1, false⟩) HSW'.out.1 HSW'.out.2).mono ?_
    rintro e wa ⟨rfl, fpa, hs⟩
    have SA := Lib.hid hs
    clear hs S9
    have HCR := Lib.hid (crash_read ⟨[] ++ x.take hf ++ x.drop hf, ([] ++ x.take hf ++ x.drop hf).length, [], 1000, 6, q - 1 - 1 - 1, false⟩ (k : Int) hk1)
    have HCT := Lib.hid (show cut ⟨[] ++ x.take hf ++ x.drop hf, ([] ++ x.take hf ++ x.drop hf).length, [], 1000, 6, q - 1 - 1 - 1, false⟩ ((k : Int).toNat) = x by unfold cut; simp only [HXX.out]; exact List.take_of_length_le (by omega))
    go_wp2_with fail
    refine (HPK.out _).mono ?_
    rintro e wp ⟨rfl, rfl⟩
    go_wp2_with fail
    refine (crash_of F SA.out (k : Int) 0 ⟨by omega, by omega⟩ rfl HCR.out.2.2).mono ?_
    rintro e wc ⟨rfl, fpc, hs⟩
    have SC := Lib.hid hs
    clear hs SA
    go_wp2_with fail
    refine (reads_mem F SC.out x nx px cx HX.out GX.out HCR.out.1 (by rw [HCR.out.2.1, HCT.out])).mono ?_
    rintro e wd ⟨rfl, fpd, hs⟩
    have BD := Lib.hid hs.below
    clear hs SC
    go_wp2_with fail
    go_ret
    exact ⟨rfl, BD.out⟩
  · exact absurd hz2 (by decide)
end Go.Proofs.Ytooljhdfmfkpeaa
