/-
  The law ProbeComes.
-/
import Derived.Test.YtfoomffbjjcjjaaPlT
import Derived.Test.YtfoomffbjjcjjaaRdC
namespace Go.Proofs.Ytfoomffbjjcjjaa
set_option linter.unusedSimpArgs false
set_option linter.unusedVariables false
open Go.RowKit Sha Lot
theorem Own64.onB {w w' : World} {B n : Nat} {e : TypeId} {v : Value} {xs : List Value} (h : Own64 w B e v n xs) (hb : Below w.heap.size w w') : Own64 w' B e v n xs := h.touch (fp := []) (Touch.of_below hb) (fun g _ => by simp)
theorem qc_lots {w : World} {b bl : Nat} {fp : List Nat} {s : Rd.St} {Ls : List Int} {N : Nat} (h : QC bl w b fp (s, (Ls, N))) : ∀ x ∈ Ls, 0 ≤ x := by obtain ⟨fr, fl, _, _, _, hl⟩ := h; exact (lotsOK.ok.lots hl).2.1
theorem Own64.cell_at {w : World} {B n : Nat} {q : Option Addr} {c : Nat} {xs : List Int} (h : Own64 w B it (.slice q n c) n (xs.map v64)) (hn : xs.length = n) {i : Nat} {x : Int} (hi : xs[i]? = some x) : ∃ g off, q = some ⟨g, off, none⟩ ∧ ∀ W, Below w.heap.size w W → W.cell? ⟨g, off + i, none⟩ = some (v64 x) := by
  obtain ⟨p, cap, hv, _, _, hA, _, _⟩ := own_at_s h.row
  injection hv with v1 v2 v3
  subst v1
  have hlt := (List.getElem?_eq_some_iff.1 hi).1
  obtain ⟨g, off, hq, hc⟩ := hA.addr (by rw [List.length_map]; omega)
  refine ⟨g, off, hq, fun W hb => ?_⟩
  have h1 := hc i (v64 x) (by rw [List.getElem?_map, hi]; rfl)
  exact (hb.cell (World.block_lt_of_cell? w _ h1)).trans h1
set_option maxRecDepth 100000 in
set_option maxHeartbeats 16000000 in
theorem pcomes_any (nd : Int) (ls : List Int) (m0 : Nat) (p : Option Addr) (d : Nat) (ah go : Int) (w : World) (hnd : -9223372036854775808 ≤ nd ∧ nd ≤ 9223372036854775807) (hm0 : ls.length = m0) (hl : GoodN w ls p d) (hah : -9223372036854775808 ≤ ah ∧ ah ≤ 9223372036854775807) (hgo : -9223372036854775808 ≤ go ∧ go ≤ 9223372036854775807) :
    Calls Try.prog 7 #[v64 nd, .slice p m0 d, v64 ah, v64 go] w (PlTrue w) := by
  obtain ⟨m1, hm1⟩ : ∃ m : Nat, pickOf nd 60 = (m : Int) := ⟨(pickOf nd 60).toNat, by have := pickOf_bd nd 60 (by omega); omega⟩
  have hm64 : m1 ≤ 59 := by have := pickOf_bd nd 60 (by omega); omega
  have HP1 := Lib.hid (fun W => (show Calls Try.prog 23 #[v64 nd, .int .i64 60] W fun e w' => e = .returned (.int .i64 (m1 : Int)) ∧ W = w' from by rw [← hm1]; exact pick_any nd 60 W (by omega) (by omega) hnd))
  have GL := Lib.hid hl
  have HM0 := Lib.hid hm0
  have HAH := Lib.hid hah
  have HGO := Lib.hid hgo
  clear hm1 hnd hl hm0 hah hgo
  go_enter Try.func7, Try.ntmps7
  go_wp2_with fail
  refine (pawake_any probeOK w).mono ?_
  rintro e Wk ⟨rfl, hbk⟩
  have BK := Lib.hid hbk
  clear hbk
  have i1 : IntKind.i64.wrap (1 + (m1 : Int)) = ((m1 + 1 : Nat) : Int) := by rw [IntWalk.i64_in _ (by omega)]; omega
  go_wp2_with (go_at_call 23; refine (HP1.out _).mono ?_; rintro e w' ⟨rfl, rfl⟩)
  obtain ⟨m, hm⟩ : ∃ m, m = m1 + 1 := ⟨_, rfl⟩
  refine (lotsOK.ok.new ls m0 p d Wk HM0.out (GL.out.below BK.out)).mono ?_
  rintro e W1 ⟨hb1, ⟨hz, bl, fl, rfl, hrl, hnl⟩ | ⟨hz, rfl⟩⟩
  · have B1 := Lib.hid (below_next BK.out hb1)
    have HRL := Lib.hid hrl
    have HNL := Lib.hid (show ∀ k ∈ fl, w.heap.size ≤ k from fun k hk => Nat.le_trans BK.out.size (hnl k hk))
    clear hb1 hrl hnl hz HP1 i1
    go_wp2_with fail
    rw [show ((m1 : Int) + 1) = ((m : Nat) : Int) from by omega]
    have hm1 : 1 ≤ m := by omega
    have hm2 : m ≤ 60 := by omega
    clear hm hm64
    refine (first_any m W1 (by omega)).mono ?_
    rintro e W2 ⟨vu, rfl, ho, hb2⟩
    obtain ⟨qu, cu, hv, _, hgu⟩ := ho.good (bd_of (ups_new (show m ≤ 64 by omega)).2)
    subst hv
    have B2 := Lib.hid (below_next B1.out hb2)
    have GU := Lib.hid hgu
    have HR2 := Lib.hid (lotsOK.ok.rep.on HRL.out hb2)
    have HQU := Lib.hid (show ∀ a, qu = some a → a.block ∉ fl from fun a e h => by
      have h1 := (ho.row.lt a.block (by rw [e]; rfl)).1
      have h2 := lotsOK.ok.rep.low HRL.out _ h
      omega)
    clear ho hb2 hgu HRL
    go_wp2_with fail
    refine (pnewR_any (ups m) m qu cu (lptr bl) fl ls 0 W2 (ups_length m) GU.out (by omega) (Or.inr ⟨bl, rfl, HR2.out⟩) (by omega) HQU.out).mono ?_
    rintro e W3 (⟨_, b, fp, fl3, rfl, hr3, hl3, ha3, ht3, hf3, hk3⟩ | ⟨h4, _⟩)
    rotate_left
    · exact absurd (ups_new (show m ≤ 64 by omega)) h4
    have S3 := Lib.hid (show Solo (QC bl) w W3 b (fp ++ fl3) (⟨Rd.ordered (ups m) ls 0, 0⟩, (ls, 0 + shufN m)) from ⟨⟨fp, fl3, rfl, ha3, hr3, hl3.obj⟩, fun i h5 => by
      rcases List.mem_append.1 h5 with h9 | h9
      · exact Nat.le_trans B2.out.size (hk3 i h9)
      · rcases hf3 i h9 with h10 | h10
        · exact HNL.out i h10
        · exact Nat.le_trans B2.out.size h10, B2.out.trans (ht3.below HNL.out B2.out.size)⟩)
    have HSX := Lib.hid (show Rd.Sixty m 0 (Rd.ordered (ups m) ls 0) from ⟨hr3.2, by rw [Rd.ordered_len (by rw [ups_length]; omega), ups_length], fun x hx => (ups_mem (Rd.ordered_mem (by rw [ups_length]; omega) hx)).2, hm2⟩)
    have hsh : shufN (m : Int) ≤ 63 := by unfold shufN; split <;> omega
    obtain ⟨N, hN0⟩ : ∃ N0, N0 = 0 + shufN m := ⟨_, rfl⟩
    rw [← hN0] at S3
    have hN63 : N ≤ 63 := by omega
    clear hr3 hl3 ha3 ht3 hf3 hk3 HR2 HQU GU B1 B2 HNL hsh hN0
    generalize Rd.ordered (ups m) ls 0 = L at *
    generalize fp ++ fl3 = f0 at *
    have iw : IntKind.i64.wrap ((m : Int) + 1) = (m : Int) + 1 := IntWalk.i64_in _ (by omega)
    obtain ⟨A, hA⟩ : ∃ A : Nat, pickOf ah ((m : Int) + 1) = (A : Int) := ⟨(pickOf ah ((m : Int) + 1)).toNat, by have := pickOf_bd ah ((m : Int) + 1) (by omega); omega⟩
    have hAm : A ≤ m := by have := pickOf_bd ah ((m : Int) + 1) (by omega); omega
    obtain ⟨G, hG⟩ : ∃ G : Nat, pickOf go (m : Int) = (G : Int) := ⟨(pickOf go (m : Int)).toNat, by have := pickOf_bd go (m : Int) (by omega); omega⟩
    have hGm : G < m := by have := pickOf_bd go (m : Int) (by omega); omega
    have HP2 := Lib.hid (fun W => (show Calls Try.prog 23 #[v64 ah, .int .i64 ((m : Int) + 1)] W fun e w' => e = .returned (.int .i64 (A : Int)) ∧ W = w' from by rw [← hA]; exact pick_any ah ((m : Int) + 1) W (by omega) (by omega) HAH.out))
    have HP3 := Lib.hid (fun W => (show Calls Try.prog 23 #[v64 go, .int .i64 (m : Int)] W fun e w' => e = .returned (.int .i64 (G : Int)) ∧ W = w' from by rw [← hG]; exact pick_any go (m : Int) W (by omega) (by omega) HGO.out))
    clear hA hG
    go_wp2_with (go_at_call 23; refine (HP2.out _).mono ?_; rintro e w' ⟨rfl, rfl⟩)
    go_loopw [14] (fun iv wr => ∃ (t : Nat) (f : List Nat), iv = .int .i64 t ∧ t ≤ A ∧ Hid (Rd.Sixty m t L) ∧ Hid (Solo (QC bl) w wr b f (⟨L, t⟩, (ls, N)))) (fun iv _ => A - (intOf iv).toNat)
    case atStart => exact ⟨0, f0, rfl, by omega, HSX, S3⟩
    case round =>
      clear HSX S3 HP2
      obtain ⟨t, f, rfl, ht, SX, S⟩ := hrel
      by_cases hlt : t < A
      · obtain ⟨n1, n2, n3, n4⟩ := SX.out.next (Ls := ls) (N := N) (show t < m by omega)
        have HX := Lib.hid ((progComp probeOK lotsOK.ok.rep bl).next b f ⟨L, t⟩ ls N wr S.out.one (by omega))
        rw [n1, n2, n3] at HX
        have SX2 := Lib.hid n4
        generalize L.getD t 0 = x at *
        clear n1 n2 n3 n4 SX
        go_wp2_with fail
        refine HX.out.mono ?_
        rintro e Wa ⟨rfl, f1, hr, ht2, hf⟩
        have S1 := Lib.hid (S.out.step hr ht2 hf)
        clear hr ht2 hf HX S
        go_wp2_with fail
        go_roundw
        case rel => exact ⟨t + 1, f1, by go_num, by omega, SX2, S1⟩
        case measure => simp [intOf]; omega
      · obtain rfl : t = A := by omega
        go_wp2_with fail
        refine (qc_order S.out.one).mono ?_
        rintro e Wb ⟨v1, rfl, ho1, hb1⟩
        obtain ⟨q1, c1, hv1, _⟩ := own_at_s ho1.row
        have hL : L.length = m := SX.out.len
        have O1 := Lib.hid (show Own64 Wb wr.heap.size it v1 m (L.map v64) from by have := ho1; dsimp only at this; rwa [hL] at this)
        have OUT1 := Lib.hid (show ∀ g, v1.ownBlock = some g → g ∉ f from fun g hg e => by
          have h1 := (ho1.row.lt g hg).1
          have h2 := (qcHeld bl).low S.out.one g e
          omega)
        have S1 := Lib.hid (S.out.on (qcHeld bl) hb1)
        dsimp only at hv1
        rw [hL] at hv1
        subst hv1
        have hpb := ppickV_bd (N := N) (qc_lots S.out.one) (show (1 : Int) ≤ (L.length : Int) - t + 1 by omega)
        have hE : Rd.addE L 64 = 0 := by unfold Rd.addE; rw [if_pos (by omega), if_neg SX.out.not64]
        obtain ⟨k, hk⟩ : ∃ k, k = Rd.addK ⟨L, t⟩ ls N := ⟨_, rfl⟩
        have hk2 : t ≤ k ∧ k ≤ m := by rw [hk]; unfold Rd.addK; dsimp only; omega
        have hS : Rd.addS ⟨L, t⟩ 64 ls N = ⟨Rd.putIn L k, t⟩ := by unfold Rd.addS; rw [if_pos hE, ← hk]
        have hN2 : Rd.addN ⟨L, t⟩ 64 N ≤ N + 1 := by
          unfold Rd.addN
          have : ∀ n, pickN n ≤ 1 := fun n => by unfold pickN; split <;> omega
          rw [if_pos hE]
          exact Nat.add_le_add_left (this _) _
        have HA := Lib.hid ((progComp probeOK lotsOK.ok.rep bl).add b f ⟨L, t⟩ 64 ls N Wb S1.out.one (by omega))
        rw [hS] at HA
        dsimp only at HA
        rw [hE] at HA
        generalize Rd.addN ⟨L, t⟩ 64 N = N2 at *
        have HKL := Lib.hid (show k ≤ L.length by omega)
        have HLL := Lib.hid hL
        have hkm := hk2.2
        have htk := hk2.1
        clear ho1 hb1 S hpb hE hk hk2 hS hL
        go_wp2_with fail
        refine HA.out.mono ?_
        rintro e Wc ⟨rfl, f2, hr, ht2, hf⟩
        have S2 := Lib.hid (S1.out.step hr ht2 hf)
        have O2 := Lib.hid (O1.out.touch ht2 OUT1.out)
        have HOK2 := Lib.hid (show Rd.OK ⟨Rd.putIn L k, t⟩ from qc_ok hr)
        clear hr ht2 hf HA S1 O1 OUT1
        go_wp2_with fail
        refine (qc_order S2.out.one).mono ?_
        rintro e Wd ⟨v2, rfl, ho2, hb2⟩
        obtain ⟨q2, c2, hv2, _⟩ := own_at_s ho2.row
        have hPL := Rd.putIn_len HKL.out
        rw [HLL.out] at hPL
        dsimp only at ho2 hv2
        rw [hPL] at ho2 hv2
        subst hv2
        have P2 := Lib.hid ho2
        have O3 := Lib.hid (O2.out.onB hb2)
        have S3 := Lib.hid (S2.out.on (qcHeld bl) hb2)
        have HPL := Lib.hid hPL
        clear ho2 hb2 S2 O2 hPL
        go_wp2_with fail
        go_loopw [17, 18] (fun kv iv wr => ∃ i : Nat, iv = .int .i64 i ∧ kv = .int .i64 ((if i ≤ k then i else i - 1 : Nat) : Int) ∧ i ≤ m + 1 ∧ Hid (Below Wd.heap.size Wd wr)) (fun _ iv _ => m + 1 - (intOf iv).toNat)
        case atStart => exact ⟨0, rfl, by rw [if_pos (Nat.zero_le _)]; rfl, by omega, Lib.hid (Below.refl _ _)⟩
        case round =>
          obtain ⟨i, rfl, rfl, hi, HB⟩ := hrel
          by_cases hlt : i < m + 1
          · have ii : (0 : Int) ≤ (i : Int) ∧ (i : Int) < (m : Int) + 1 := by omega
            by_cases hik : i = k
            · subst hik
              obtain ⟨g2, o2, rfl, hc2⟩ := P2.out.cell_at HPL.out (Rd.putIn_eq HKL.out)
              have d2 := hc2 wr HB.out
              rw [if_pos (Nat.le_refl _)]
              have t1 : decide (i < t) = false := decide_eq_false (by omega)
              clear hc2
              go_wp2_with fail
              go_roundw
              case rel => exact ⟨i + 1, by go_num, by rw [if_neg (by omega), Nat.add_sub_cancel], by omega, HB⟩
              case measure => simp [intOf]; omega
            · obtain ⟨j, hj⟩ : ∃ j, j = (if i ≤ k then i else i - 1) := ⟨_, rfl⟩
              rw [← hj]
              have hjm : j < m := by rw [hj]; split <;> omega
              have hjx : ∃ x, L[j]? = some x ∧ (Rd.putIn L k)[i]? = some x := by
                refine ⟨L[j]'(by rw [HLL.out]; exact hjm), by rw [List.getElem?_eq_getElem], ?_⟩
                by_cases hle : i ≤ k
                · rw [if_pos hle] at hj
                  subst hj
                  rw [Rd.putIn_lt HKL.out (by omega), List.getElem?_eq_getElem]
                · rw [if_neg hle] at hj
                  have hi1 : i = j + 1 := by omega
                  rw [hi1, Rd.putIn_gt HKL.out (by omega), List.getElem?_eq_getElem]
              obtain ⟨x, hx1, hx2⟩ := hjx
              have hj1 : j + 1 = (if i + 1 ≤ k then i + 1 else i + 1 - 1) := by
                rw [hj]
                split <;> split <;> omega
              have hx64 : (x == 64) = false := by
                rw [beq_eq_false_iff_ne]
                rintro rfl
                exact SX.out.not64 (List.mem_of_getElem? hx1)
              obtain ⟨g1, o1, rfl, hc1⟩ := O3.out.cell_at HLL.out hx1
              obtain ⟨g2, o2, rfl, hc2⟩ := P2.out.cell_at HPL.out hx2
              have d1 := hc1 wr HB.out
              have d2 := hc2 wr HB.out
              have jj : (0 : Int) ≤ (j : Int) ∧ (j : Int) < (m : Int) := by omega
              have t1 : decide (m ≤ j) = false := decide_eq_false (by omega)
              have HJ := Lib.hid hj1
              clear hc1 hc2 hx1 hx2 hj hj1 hik
              go_wp2_with fail
              go_quiet (fail)
              have HB2 := Lib.hid (below_drewN HB.out nq)
              generalize wr.drewN nq = wr2 at *
              go_wp2_with fail
              go_roundw
              case rel => exact ⟨i + 1, by go_num, by rw [← HJ.out]; go_num, by omega, HB2⟩
              case measure => simp [intOf]; omega
          · obtain rfl : i = m + 1 := by omega
            have S4 := Lib.hid (S3.out.on (qcHeld bl) HB.out)
            have i5 : IntKind.i64.wrap (1 + (G : Int)) = (G : Int) + 1 := by rw [IntWalk.i64_in _ (by omega)]; omega
            obtain ⟨Q, t', k', r1, r2, r3, r4, r5⟩ := Rd.gone_of (g := (G : Int) + 1) SX.out htk hkm (by omega) (by omega) HOK2.out
            have HR1 := Lib.hid (fun W f (h : QC bl W b f (⟨Rd.putIn L k, t⟩, (ls, N2))) => (progComp probeOK lotsOK.ok.rep bl).rem b f ⟨Rd.putIn L k, t⟩ ((G : Int) + 1) ls N2 W h)
            have HR2 := Lib.hid (fun W f (h : QC bl W b f (⟨Q, t'⟩, (ls, N2))) => (progComp probeOK lotsOK.ok.rep bl).rem b f ⟨Q, t'⟩ ((G : Int) + 1) ls N2 W h)
            rw [r1, r2] at HR1
            rw [r4, r5] at HR2
            have GN := Lib.hid r3
            have r3' := And.intro r3.lo r3.hi
            clear r1 r2 r3 r4 r5 S3 P2 O3 HB HOK2 HPL HKL HLL SX
            generalize (if m + 1 ≤ k then m + 1 else m + 1 - 1) = kk at *
            have HT' := Lib.hid (show t' ≤ k' ∧ k' < m from ⟨r3'.1, r3'.2⟩)
            go_wp2_with (first
              | (go_at_call 23; refine (HP3.out _).mono ?_; rintro e w' ⟨rfl, rfl⟩))
            refine (HR1.out _ _ S4.out.one).mono ?_
            rintro e We ⟨rfl, f3, hr, ht2, hf⟩
            have S5 := Lib.hid (S4.out.step hr ht2 hf)
            clear hr ht2 hf HR1 S4 HP3
            go_wp2_with fail
            refine (HR2.out _ _ S5.out.one).mono ?_
            rintro e Wf ⟨rfl, f4, hr, ht2, hf⟩
            have S6 := Lib.hid (S5.out.step hr ht2 hf)
            clear hr ht2 hf HR2 S5
            go_wp2_with fail
            refine (qc_told S6.out.one).mono ?_
            rintro e Wg ⟨rfl, hb⟩
            have S7 := Lib.hid (S6.out.on (qcHeld bl) hb)
            clear hb S6
            dsimp only
            go_wp2_with fail
            go_loopw [19, 20, 21] (fun tv iv xv wr => ∃ (i : Nat) (f : List Nat), iv = .int .i64 i ∧ tv = .bool (decide (k' < i)) ∧ t' ≤ i ∧ i ≤ m ∧ Hid (Solo (QC bl) w wr b f (⟨Q, i⟩, (ls, N2)))) (fun _ iv _ _ => m - (intOf iv).toNat)
            case atStart => exact ⟨t', f4, rfl, by rw [decide_eq_false (by have := HT'.out.1; omega)], Nat.le_refl _, by have := HT'.out; omega, S7⟩
            case round =>
              clear S7
              obtain ⟨i, f, rfl, rfl, hti, him, S⟩ := hrel
              by_cases hlt : i < m
              · obtain ⟨n1, n2, n3⟩ := GN.out.next (Ls := ls) (N := N2) hlt
                have HX := Lib.hid ((progComp probeOK lotsOK.ok.rep bl).next b f ⟨Q, i⟩ ls N2 wr S.out.one (by omega))
                rw [n1, n2, n3] at HX
                obtain ⟨e1, e2⟩ := GN.out.el hlt
                have x1 : (Q.getD i 0 == (G : Int) + 1) = false := by rw [beq_eq_false_iff_ne]; exact e1
                have x2 : (Q.getD i 0 == 0) = false := by rw [beq_eq_false_iff_ne]; exact e2
                have hti2 : t' ≤ i + 1 := by omega
                by_cases hki : k' < i
                · have hd : decide (k' < i) = true := decide_eq_true hki
                  rw [hd]
                  have HD := Lib.hid (show Value.bool true = .bool (decide (k' < i + 1)) from by rw [decide_eq_true (by omega)])
                  generalize Q.getD i 0 = x at *
                  clear n1 n2 n3 e1 e2 hd hki
                  go_wp2_with fail
                  refine HX.out.mono ?_
                  rintro e Wh ⟨rfl, f5, hr, ht2, hf⟩
                  have S8 := Lib.hid (S.out.step hr ht2 hf)
                  clear hr ht2 hf HX S
                  go_wp2_with fail
                  exact ⟨⟨i + 1, f5, by go_num, HD.out, hti2, by omega, S8⟩, by simp [intOf]; omega⟩
                · have hd : decide (k' < i) = false := decide_eq_false hki
                  rw [hd]
                  by_cases hik : i = k'
                  · have x3 : (Q.getD i 0 == 64) = true := by
                      have h6 := GN.out.at64
                      rw [← hik] at h6
                      rw [List.getD_eq_getElem?_getD, h6]; rfl
                    have HD := Lib.hid (show Value.bool true = .bool (decide (k' < i + 1)) from by rw [decide_eq_true (by omega)])
                    generalize Q.getD i 0 = x at *
                    clear n1 n2 n3 e1 e2 hd hki hik
                    go_wp2_with fail
                    refine HX.out.mono ?_
                    rintro e Wh ⟨rfl, f5, hr, ht2, hf⟩
                    have S8 := Lib.hid (S.out.step hr ht2 hf)
                    clear hr ht2 hf HX S
                    go_wp2_with fail
                    exact ⟨⟨i + 1, f5, by go_num, HD.out, hti2, by omega, S8⟩, by simp [intOf]; omega⟩
                  · have x3 : (Q.getD i 0 == 64) = false := by rw [beq_eq_false_iff_ne]; exact GN.out.ne64 hlt hik
                    have HD := Lib.hid (show Value.bool false = .bool (decide (k' < i + 1)) from by rw [decide_eq_false (by omega)])
                    generalize Q.getD i 0 = x at *
                    clear n1 n2 n3 e1 e2 hd hki hik
                    go_wp2_with fail
                    refine HX.out.mono ?_
                    rintro e Wh ⟨rfl, f5, hr, ht2, hf⟩
                    have S8 := Lib.hid (S.out.step hr ht2 hf)
                    clear hr ht2 hf HX S
                    go_wp2_with fail
                    exact ⟨⟨i + 1, f5, by go_num, HD.out, hti2, by omega, S8⟩, by simp [intOf]; omega⟩
              · obtain rfl : i = m := by omega
                rw [decide_eq_true HT'.out.2]
                go_wp2_with fail
                refine (qc_told S.out.one).mono ?_
                rintro e Wh ⟨rfl, hb⟩
                have BH := Lib.hid (below_next S.out.below hb)
                clear hb S
                dsimp only
                go_wp2_with fail
                go_ret
                exact ⟨rfl, BH.out⟩
  · have HZ := Lib.hid hz
    have B1 := Lib.hid (below_next BK.out hb1)
    obtain ⟨er, her⟩ : ∃ x, x = newErr ls := ⟨_, rfl⟩
    rw [← her]
    have hne : (er == 0) = false := by rw [beq_eq_false_iff_ne, her]; exact hz
    clear her hz hb1
    go_wp2_with fail
    go_ret
    exact ⟨rfl, B1.out⟩
end Go.Proofs.Ytfoomffbjjcjjaa
