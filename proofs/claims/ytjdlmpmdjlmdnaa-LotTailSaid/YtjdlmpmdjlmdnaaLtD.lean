/-
  The law LotScript, over what lots are asked to do.
-/
import Derived.Test.YtjdlmpmdjlmdnaaLtB
import Derived.Test.YtjdlmpmdjlmdnaaLtC
import Derived.Test.YtjdlmpmdjlmdnaaNumsC
import Derived.Test.YtjdlmpmdjlmdnaaObjN
import Derived.Test.YtjdlmpmdjlmdnaaPick
import Derived.StillTailTactics
import Derived.Deep.RegionHeld3
namespace Go.Proofs.Ytjdlmpmdjlmdnaa
set_option linter.unusedSimpArgs false
set_option linter.unusedVariables false
open Go.RowKit Sha Lot
theorem Side.over {R1 R2 : LotRep} (K1 : Rep R1) (K2 : Rep R2) {w0 w w' : World} {b1 b2 : Nat} {f1 f2 : List Nat} {L1 L2 : List Int} {N1 N2 : Nat} {v : Value} (h : Side R1 R2 w0 w b1 f1 L1 N1 b2 f2 L2 N2)
    (hk : ∀ k, some k ≠ v.ownBlock → w'.heap[k]? = w.heap[k]?) (hb : Below w0.heap.size w w') (hg : ∀ g, v.ownBlock = some g → g ∉ f1 ∧ g ∉ f2) : Side R1 R2 w0 w' b1 f1 L1 N1 b2 f2 L2 N2 :=
  ⟨K1.keep h.one fun k a => hk k fun e => (hg k e.symm).1 a, K2.keep h.two fun k a => hk k fun e => (hg k e.symm).2 a, h.apart, h.new1, h.new2, h.below.trans hb⟩
theorem refRep : Rep RefLot := refLotOK.rep
set_option maxRecDepth 100000 in
set_option maxHeartbeats 1000000 in
theorem script_any {R : LotRep} (F : LotsOK R) (l : List Int) (n : Nat) (p : Option Addr) (cap : Nat) (ks : List Int) (m : Nat) (q : Option Addr) (d : Nat) (w : World) (hn : l.length = n) (hl : GoodN w l p cap) (hm : ks.length = m) (hk : GoodN w ks q d) :
    Calls Try.prog 3 #[.slice p n cap, .slice q m d] w fun e w' => e = .returned (.bool true) ∧ Below w.heap.size w w' := by
  have GL := Lib.hid hl
  have GK := Lib.hid hk
  have HN := Lib.hid hn
  have HM := Lib.hid hm
  have c1 := hl.le
  have c2 := hl.max
  have c3 := hk.le
  have c4 := hk.max
  rw [hn] at c1
  rw [hm] at c3
  clear hl hk hn hm
  by_cases hbig : 1100 < n ∨ 60 < m
  · have hq : (decide ((1100 : Int) < n) || decide ((60 : Int) < m)) = true := by simp; omega
    by_cases h1 : 1100 < n
    · go_enter Try.func3, Try.ntmps3
      go_wp2_with (go_at_call 8; refine (awake_any F w).mono ?_; rintro e w' ⟨rfl, hb⟩)
      go_ret
      exact ⟨rfl, hb⟩
    · have h2 : 60 < m := by omega
      clear hbig hq
      go_enter Try.func3, Try.ntmps3
      go_wp2_with (go_at_call 8; refine (awake_any F w).mono ?_; rintro e w' ⟨rfl, hb⟩)
      go_ret
      exact ⟨rfl, hb⟩
  · have h1 : ¬ 1100 < n := by omega
    have h2 : ¬ 60 < m := by omega
    clear hbig
    have K := Lib.hid F.ok.rep
    go_enter Try.func3, Try.ntmps3
    go_wp2_with fail
    refine (copyN_any l n p cap w HN.out GL.out (by omega)).mono ?_
    rintro e W1 ⟨v, rfl, ho1, hb1⟩
    obtain ⟨q1, d1, rfl, hl1, hg1⟩ := ho1.good GL.out.nums
    have G1 := Lib.hid hg1
    have O1 := Lib.hid ho1
    have B1 := Lib.hid hb1
    clear ho1 hb1 hg1 hl1
    have HLT := Lib.hid (show ∀ g, (Value.slice q1 n d1).ownBlock = some g → g < W1.heap.size from fun g hg => by have h1 := O1.out; rw [HN.out] at h1; exact (h1.row.lt g hg).2)
    rw [HN.out]
    go_wp2_with fail
    refine (F.ok.new l n q1 d1 W1 HN.out G1.out).mono ?_
    rintro e W2 ⟨hb2, hx⟩
    have B2 := Lib.hid (B1.out.trans (hb2.mono B1.out.size))
    have O2 := Lib.hid (show Own64 W2 w.heap.size 3 (.slice q1 n d1) n (l.map v64) from by have h1 := O1.out; rw [HN.out] at h1; exact h1.touch (fp := []) (Touch.of_below hb2) (fun g _ => by simp))
    have G2 := Lib.hid (G1.out.below hb2)
    rcases hx with ⟨hz, bx, fx, rfl, hr, hnew⟩ | ⟨hz, rfl⟩
    · have HXR := Lib.hid hr
      have HXN := Lib.hid hnew
      have HZ := Lib.hid hz
      have BW := Lib.hid hb2
      clear hb2 hr hnew hz G1 O1
      go_wp2_with fail
      refine (refLotOK.new l n p cap W2 HN.out (GL.out.below B2.out)).mono ?_
      rintro e W3 ⟨hb3, ⟨_, bw, fw, rfl, hr3, hn3⟩ | ⟨hz3, _⟩⟩
      · have S3 := Lib.hid (Side.made K.out HXR.out (fun k hk => Nat.le_trans B1.out.size (HXN.out k hk)) B2.out hb3 hr3 hn3)
        have O3 := Lib.hid (show Own64 W3 w.heap.size 3 (.slice q1 n d1) n (l.map v64) from O2.out.touch (fp := []) (Touch.of_below hb3) (fun g _ => by simp))
        have G3 := Lib.hid (G2.out.below hb3)
        have NG := Lib.hid (show ∀ g, (Value.slice q1 n d1).ownBlock = some g → g ∉ fx ∧ g ∉ fw from fun g hg => by
          have hlt := (O2.out.row.lt g hg).2
          refine ⟨fun e => ?_, fun e => ?_⟩
          · have h1 := HXN.out g e; have h2 := HLT.out g hg; omega
          · have := hn3 g e; omega)
        clear hb3 hr3 hn3 HXR HXN G2 O2
        go_wp2_with fail
        refine (sameN_any l l n n q1 p d1 cap W3 HN.out HN.out G3.out (GL.out.below S3.out.below)).mono ?_
        rintro e W4 ⟨rfl, j, hw⟩
        have S4 := Lib.hid (show Side R RefLot w W4 bx fx l 0 bw fw l 0 by rw [hw]; exact S3.out.drewN K.out refRep j)
        have O4 := Lib.hid (show Own64 W4 w.heap.size 3 (.slice q1 n d1) n (l.map v64) by rw [hw]; exact O3.out.touch (fp := []) ((Touch.refl _ _).drewN j) (fun g _ => by simp))
        rw [show decide (l = l) = true from decide_eq_true rfl]
        clear hw O3 G3 S3
        go_wp2_with fail
        refine (overN_any w.heap.size _ n _ W4 O4.out).mono ?_
        rintro e W5 ⟨rfl, hb5, hk5⟩
        have S5 := Lib.hid (S4.out.over K.out refRep hk5 hb5 NG.out)
        clear hb5 hk5 O4 S4 NG
        go_wp2_with fail
        go_loopw [10] (fun i wr => ∃ (k N : Nat) (fx fw : List Nat), i = .int .i64 k ∧ k ≤ m ∧ N ≤ 70 * k ∧ Hid (Side R RefLot w wr bx fx l N bw fw l N)) (fun i _ => m - (intOf i).toNat)
        case atStart => exact ⟨0, 0, fx, fw, rfl, by omega, by omega, S5⟩
        case round =>
          clear S5
          obtain ⟨k, N, fx, fw, rfl, hk, hN, S⟩ := hrel
          by_cases hlt : k < m
          · have hkz : k < ks.length := by rw [HM.out]; exact hlt
            obtain ⟨b, off, rfl, hcell⟩ := (GK.out.below S.out.below).at_.addr (by rw [List.length_map]; omega)
            have c1 : wr.cell? ⟨b, off + k, none⟩ = some (v64 ks[k]) := hcell k _ (by rw [List.getElem?_map, List.getElem?_eq_getElem hkz]; rfl)
            have hxb := GK.out.nums ks[k] (List.getElem_mem hkz)
            generalize ks[k] = x at *
            obtain ⟨hx1, hx2⟩ := hxb
            clear hcell hkz
            by_cases hx0 : x < 0
            · obtain ⟨r, hr⟩ : ∃ r : Nat, pickOf x 70 = (r : Int) := ⟨(pickOf x 70).toNat, by have := pickOf_bd x 70 (by omega); omega⟩
              have hr70 : r < 70 := by have := pickOf_bd x 70 (by omega); omega
              have HPK := Lib.hid (show Calls Try.prog 14 #[.int .i64 x, .int .i64 70] wr fun e w' => e = .returned (.int .i64 (r : Int)) ∧ wr = w' by rw [← hr]; exact pick_any x 70 wr (by omega) (by omega) ⟨hx1, hx2⟩)
              have hsn := shufN_le (r : Int)
              have HNS := Lib.hid (shuf_nums l N (r : Int))
              have HPX := Lib.hid (F.ok.shuffle bx fx l N r wr S.out.one (by omega) (by omega))
              have HPR := Lib.hid (fun W (h : RefLot W bw fw l N) => refLotOK.shuffle bw fw l N r W h (by omega) (by omega))
              generalize shuf l N (r : Int) = xs at *
              generalize shufN (r : Int) = sn at *
              obtain ⟨xn, hxn⟩ : ∃ x, x = xs.length := ⟨_, rfl⟩
              have HXN := Lib.hid hxn
              have HBD := Lib.hid (show ∀ n ∈ xs, -9223372036854775808 ≤ n ∧ n ≤ 9223372036854775807 from fun n hn => by have := HNS.out n hn; omega)
              clear hr hxn HNS
              go_wp2_with fail
              refine HPK.out.mono ?_
              rintro e W6 ⟨rfl, rfl⟩
              go_wp2_with fail
              refine HPX.out.mono ?_
              rintro e W6 ⟨va, fx6, rfl, ho6, hr6, ht6, hf6, hn6⟩
              have S6 := Lib.hid (S.out.step1 K.out refRep hr6 ht6 hf6)
              have NA6 := Lib.hid (show ∀ g, va.ownBlock = some g → g ∉ fx6 ∧ g ∉ fw ∧ g < W6.heap.size from fun g hg => ⟨hn6 g hg, fun e => by have h1 := (ho6.row.lt g hg).1; have h2 := refRep.low S.out.two g e; omega, (ho6.row.lt g hg).2⟩)
              have OA6 := Lib.hid (show Own64 W6 w.heap.size 3 va xs.length (xs.map v64) from ho6.weak S.out.below.size)
              clear ho6 hr6 ht6 hf6 hn6 HPK HPX
              go_wp2_with fail
              refine (HPR.out W6 S6.out.two).mono ?_
              rintro e W7 ⟨vb, fw7, rfl, ho7, hr7, ht7, hf7, _⟩
              have S7 := Lib.hid (S6.out.step2 K.out refRep hr7 ht7 hf7)
              have oa7 := OA6.out.touch ht7 fun g hg => (NA6.out g hg).2.1
              have NA7 := Lib.hid (show ∀ g, va.ownBlock = some g → g ∉ fx6 ∧ g ∉ fw7 from fun g hg => ⟨(NA6.out g hg).1, fun e => by rcases hf7 g e with h' | h'; exact (NA6.out g hg).2.1 h'; have := (NA6.out g hg).2.2; omega⟩)
              obtain ⟨qa, ca, rfl, _, ga⟩ := oa7.good HBD.out
              obtain ⟨qb, cb, rfl, _, gb⟩ := ho7.good HBD.out
              have GA := Lib.hid ga
              have GB := Lib.hid gb
              have OA7 := Lib.hid oa7
              clear ho7 hr7 ht7 hf7 oa7 ga gb HPR OA6 NA6 S6
              rw [← HXN.out] at OA7 NA7 ⊢
              go_wp2_with fail
              refine (sameN_any xs xs xn xn qa qb ca cb W7 HXN.out.symm HXN.out.symm GA.out GB.out).mono ?_
              rintro e Wa ⟨rfl, j, hw⟩
              have Sa := Lib.hid (show Side R RefLot w Wa bx fx6 l (N + sn) bw fw7 l (N + sn) by rw [hw]; exact S7.out.drewN K.out refRep j)
              have Oa := Lib.hid (show Own64 Wa w.heap.size 3 (.slice qa xn ca) xn (xs.map v64) by rw [hw]; exact OA7.out.touch (fp := []) ((Touch.refl _ _).drewN j) (fun g _ => by simp))
              rw [show decide (xs = xs) = true from decide_eq_true rfl]
              clear hw S7 OA7 GA GB
              go_wp2_with fail
              refine (overN_any w.heap.size _ xn _ Wa Oa.out).mono ?_
              rintro e Wb ⟨rfl, hb5, hk5⟩
              have S7 := Lib.hid (Sa.out.over K.out refRep hk5 hb5 NA7.out)
              clear hb5 hk5 Sa Oa NA7
              obtain ⟨W8, hW8⟩ : ∃ x, x = Wb := ⟨_, rfl⟩
              obtain ⟨fx8, hf8⟩ : ∃ x, x = fx6 := ⟨_, rfl⟩
              obtain ⟨N8, hN8⟩ : ∃ x, x = N + sn := ⟨_, rfl⟩
              rw [← hW8, ← hf8, ← hN8] at S7
              rw [← hW8]
              have S8 := S7
              have hN8' : N8 ≤ 70 * (k + 1) := by omega
              have u8 : W8.drew.cell? ⟨bw, 1, none⟩ = some (.int .i64 N8) := by obtain ⟨_, _, _, hb, _⟩ := S8.out.two; exact hb.cell 1
              clear S7 S hW8 hf8 hN8
              go_wp2_with fail
              go_region_law (go_simp; go_at_call 21; refine (F.used.used bx fx8 l N8 _ (S8.out.drewN K.out refRep 1).one (by omega)).mono ?_; rintro e W9 ⟨rfl, fx9, hr, ht, hf⟩; have s9 := (S8.out.drewN K.out refRep 1).step1 K.out refRep hr ht hf; have u9 : W9.cell? ⟨bw, 1, none⟩ = some (.int .i64 N8) := (by obtain ⟨_, _, _, hb, _⟩ := s9.two; exact hb.cell 1); have S9 := Lib.hid s9; clear hr ht hf s9)
              all_goals go_wp2_with fail
              all_goals exact ⟨⟨k + 1, N8, _, _, by go_num, by omega, hN8', S9⟩, by simp [intOf]; omega⟩
            · by_cases hxz : x = 0
              · subst hxz
                go_wp2_with fail
                refine (F.ok.draw bx fx l N wr S.out.one (by omega)).mono ?_
                rintro e W6 ⟨rfl, fx6, hr, ht, hf⟩
                have S6 := Lib.hid (S.out.step1 K.out refRep hr ht hf)
                clear hr ht hf
                go_wp2_with fail
                refine (refLotOK.draw bw fw l N W6 S6.out.two (by omega)).mono ?_
                rintro e W7 ⟨rfl, fw7, hr, ht, hf⟩
                have S7 := Lib.hid (S6.out.step2 K.out refRep hr ht hf)
                clear hr ht hf S6
                generalize lotAt l N = y at *
                obtain ⟨W8, hW8⟩ : ∃ x, x = W7 := ⟨_, rfl⟩
                obtain ⟨fx8, hf8⟩ : ∃ x, x = fx6 := ⟨_, rfl⟩
                obtain ⟨N8, hN8⟩ : ∃ x, x = N + 1 := ⟨_, rfl⟩
                rw [← hW8, ← hf8, ← hN8] at S7
                rw [← hW8]
                have S8 := S7
                have hN8' : N8 ≤ 70 * (k + 1) := by omega
                have u8 : W8.drew.cell? ⟨bw, 1, none⟩ = some (.int .i64 N8) := by obtain ⟨_, _, _, hb, _⟩ := S8.out.two; exact hb.cell 1
                clear S7 S hW8 hf8 hN8
                go_wp2_with fail
                go_region_law (go_simp; go_at_call 21; refine (F.used.used bx fx8 l N8 _ (S8.out.drewN K.out refRep 1).one (by omega)).mono ?_; rintro e W9 ⟨rfl, fx9, hr, ht, hf⟩; have s9 := (S8.out.drewN K.out refRep 1).step1 K.out refRep hr ht hf; have u9 : W9.cell? ⟨bw, 1, none⟩ = some (.int .i64 N8) := (by obtain ⟨_, _, _, hb, _⟩ := s9.two; exact hb.cell 1); have S9 := Lib.hid s9; clear hr ht hf s9)
                all_goals go_wp2_with fail
                all_goals exact ⟨⟨k + 1, N8, _, _, by go_num, by omega, hN8', S9⟩, by simp [intOf]; omega⟩
              · have hpn := pickN_le x
                have hzz : ¬ x = 0 := hxz
                have hbz : (x == 0) = false := by rw [beq_eq_false_iff_ne]; exact hxz
                have HPX := Lib.hid (F.ok.pick bx fx l N x wr S.out.one (by omega) ⟨hx1, hx2⟩)
                have HPR := Lib.hid (fun W (h : RefLot W bw fw l N) => refLotOK.pick bw fw l N x W h (by omega) ⟨hx1, hx2⟩)
                generalize pickV l N x = y at *
                generalize pickN x = pn at *
                clear hxz hzz
                go_wp2_with fail
                refine HPX.out.mono ?_
                rintro e W6 ⟨rfl, fx6, hr, ht, hf⟩
                have S6 := Lib.hid (S.out.step1 K.out refRep hr ht hf)
                clear hr ht hf
                go_wp2_with fail
                refine (HPR.out W6 S6.out.two).mono ?_
                rintro e W7 ⟨rfl, fw7, hr, ht, hf⟩
                have S7 := Lib.hid (S6.out.step2 K.out refRep hr ht hf)
                clear hr ht hf S6 HPX HPR
                obtain ⟨W8, hW8⟩ : ∃ x, x = W7 := ⟨_, rfl⟩
                obtain ⟨fx8, hf8⟩ : ∃ x, x = fx6 := ⟨_, rfl⟩
                obtain ⟨N8, hN8⟩ : ∃ x, x = N + pn := ⟨_, rfl⟩
                rw [← hW8, ← hf8, ← hN8] at S7
                rw [← hW8]
                have S8 := S7
                have hN8' : N8 ≤ 70 * (k + 1) := by omega
                have u8 : W8.drew.cell? ⟨bw, 1, none⟩ = some (.int .i64 N8) := by obtain ⟨_, _, _, hb, _⟩ := S8.out.two; exact hb.cell 1
                clear S7 S hW8 hf8 hN8
                go_wp2_with fail
                go_region_law (go_simp; go_at_call 21; refine (F.used.used bx fx8 l N8 _ (S8.out.drewN K.out refRep 1).one (by omega)).mono ?_; rintro e W9 ⟨rfl, fx9, hr, ht, hf⟩; have s9 := (S8.out.drewN K.out refRep 1).step1 K.out refRep hr ht hf; have u9 : W9.cell? ⟨bw, 1, none⟩ = some (.int .i64 N8) := (by obtain ⟨_, _, _, hb, _⟩ := s9.two; exact hb.cell 1); have S9 := Lib.hid s9; clear hr ht hf s9)
                all_goals go_wp2_with fail
                all_goals exact ⟨⟨k + 1, N8, _, _, by go_num, by omega, hN8', S9⟩, by simp [intOf]; omega⟩
          · obtain rfl : k = m := by omega
            go_wp2_with fail
            refine (awake_any F wr).mono ?_
            rintro e W6 ⟨rfl, hb6⟩
            have B6 := Lib.hid (S.out.below.trans (hb6.mono S.out.below.size))
            clear hb6
            go_wp2_with fail
            go_ret
            exact ⟨rfl, B6.out⟩
      · exact absurd HZ.out hz3
    · have HZ := Lib.hid hz
      clear hb2 G1 O1
      obtain ⟨er, her⟩ : ∃ x, x = newErr l := ⟨_, rfl⟩
      rw [← her]
      have HER := Lib.hid her
      have hne : (er == 0) = false := by rw [beq_eq_false_iff_ne, her]; exact hz
      clear her hz
      go_wp2_with fail
      refine (refLotOK.new l n p cap W2 HN.out (GL.out.below B2.out)).mono ?_
      rintro e W3 ⟨hb3, ⟨hz3, _⟩ | ⟨_, rfl⟩⟩
      · exact absurd hz3 HZ.out
      · rw [← HER.out]
        have B3 := Lib.hid (B2.out.trans (hb3.mono B2.out.size))
        have O3 := Lib.hid (show Own64 W3 w.heap.size 3 (.slice q1 n d1) n (l.map v64) from O2.out.touch (fp := []) (Touch.of_below hb3) (fun g _ => by simp))
        have G3 := Lib.hid (G2.out.below hb3)
        clear hb3 G2 O2 B2
        go_wp2_with fail
        refine (sameN_any l l n n q1 p d1 cap W3 HN.out HN.out G3.out (GL.out.below B3.out)).mono ?_
        rintro e W4 ⟨rfl, j, hw⟩
        have B4 := Lib.hid (show Below w.heap.size w W4 by rw [hw]; exact below_drewN B3.out j)
        have O4 := Lib.hid (show Own64 W4 w.heap.size 3 (.slice q1 n d1) n (l.map v64) by rw [hw]; exact O3.out.touch (fp := []) ((Touch.refl _ _).drewN j) (fun g _ => by simp))
        rw [show decide (l = l) = true from decide_eq_true rfl]
        clear hw O3 G3 B3
        go_wp2_with fail
        refine (overN_any w.heap.size _ n _ W4 O4.out).mono ?_
        rintro e W5 ⟨rfl, hb5, _⟩
        have B5 := Lib.hid (B4.out.trans hb5)
        clear hb5 O4 B4
        go_wp2_with fail
        go_loopw [10] (fun i wr => i = .int .i64 0 ∧ W5 = wr) (fun i _ => (intOf i).toNat)
        case atStart => exact ⟨rfl, rfl⟩
        case round =>
          obtain ⟨rfl, rfl⟩ := hrel
          go_wp2_with fail
          refine (awake_any F W5).mono ?_
          rintro e W6 ⟨rfl, hb6⟩
          have B6 := Lib.hid (B5.out.trans (hb6.mono B5.out.size))
          clear hb6
          go_wp2_with fail
          go_ret
          exact ⟨rfl, B6.out⟩
end Go.Proofs.Ytjdlmpmdjlmdnaa
