/-
  The law LotTail, over what lots are asked to do.
-/
import Derived.Test.YtjdlmpmdjlmdnaaLtD
namespace Go.Proofs.Ytjdlmpmdjlmdnaa
set_option linter.unusedSimpArgs false
set_option linter.unusedVariables false
open Go.RowKit Sha Lot
theorem pickV_drop (L : List Int) (f c : Nat) (x : Int) : pickV (L.drop f) c x = pickV L (f + c) x := by unfold pickV; rw [lotAt_drop]
theorem pickV_bd {L : List Int} (N : Nat) (x : Int) : 0 ≤ pickV L N x ∧ (0 < x → pickV L N x < x) := by
  unfold pickV
  split
  · exact ⟨by omega, fun h => h⟩
  · exact ⟨Int.emod_nonneg _ (by omega), fun h => Int.emod_lt_of_pos _ h⟩
set_option maxHeartbeats 400000 in
theorem pick_no (x n : Int) (w : World) (h : n < 1) : Calls Try.prog 14 #[.int .i64 x, .int .i64 n] w fun e w' => e = .returned (.int .i64 0) ∧ w = w' := by
  go_enter Try.func14, Try.ntmps14
  go_wp2_with fail
  go_ret
  exact ⟨rfl, rfl⟩
/-- What Pick tells of how many lots are left off: a number from 0 to n, whatever n. -/
theorem pick_first (x : Int) (n : Nat) (hn : n ≤ 9223372036854775807) (hx : -9223372036854775808 ≤ x ∧ x ≤ 9223372036854775807) (w : World) : ∃ f : Nat, f ≤ n ∧ Calls Try.prog 14 #[.int .i64 x, .int .i64 (wrap64 ((n : Int) + 1))] w fun e w' => e = .returned (.int .i64 (f : Int)) ∧ w = w' := by
  by_cases h : n = 9223372036854775807
  · refine ⟨0, by omega, pick_no x _ w ?_⟩
    rw [h]; unfold wrap64; omega
  · have hw : wrap64 ((n : Int) + 1) = (n : Int) + 1 := IntWalk.wrap64_in _ (by omega)
    have hb := pickOf_bd x ((n : Int) + 1) (by omega)
    rw [hw]
    refine ⟨(pickOf x ((n : Int) + 1)).toNat, by omega, ?_⟩
    rw [show (((pickOf x ((n : Int) + 1)).toNat : Nat) : Int) = pickOf x ((n : Int) + 1) by omega]
    exact pick_any x _ w (by omega) (by omega) hx
theorem newErr_drop {L : List Int} (h : newErr L = 0) (f : Nat) : newErr (L.drop f) = 0 := by
  obtain ⟨h1, h2⟩ := newErr_ok h
  exact newErr_zero (by rw [List.length_drop]; omega) fun n hn => h2 n (List.mem_of_mem_drop hn)
/-- What New of lots answers: what is known of it, whichever it is. -/
structure Made (R : LotRep) (L : List Int) (w : World) (v : Value) (er : Int) (w' : World) : Prop where
  below : Below w.heap.size w w'
  ok : er = 0 → ∃ b fp, v = lptr b ∧ R w' b fp L 0 ∧ ∀ k ∈ fp, w.heap.size ≤ k
  no : er ≠ 0 → v = .pointer none
  err : er = newErr L
theorem made_of {R : LotRep} {L : List Int} {w w' : World} {e : Ending} (h : NewDone R L w e w') : ∃ v, e = .returned (.tuple #[v, .int .i64 (newErr L)]) ∧ Made R L w v (newErr L) w' := by
  obtain ⟨hb, ⟨hz, b, fp, rfl, hr, hn⟩ | ⟨hz, rfl⟩⟩ := h
  · exact ⟨_, by rw [hz], ⟨hb, fun _ => ⟨b, fp, rfl, hr, hn⟩, fun h => absurd hz h, rfl⟩⟩
  · exact ⟨_, rfl, ⟨hb, fun h => absurd h hz, fun _ => rfl, rfl⟩⟩
set_option maxRecDepth 100000 in
set_option maxHeartbeats 2000000 in
theorem tail_any {R : LotRep} (F : LotsOK R) (l : List Int) (n : Nat) (p : Option Addr) (cap : Nat) (x : Int) (ks : List Int) (m : Nat) (q : Option Addr) (d : Nat) (w : World) (hn : l.length = n) (hl : GoodN w l p cap) (hx : -9223372036854775808 ≤ x ∧ x ≤ 9223372036854775807) (hm : ks.length = m) (hk : GoodN w ks q d) :
    Calls Try.prog 7 #[.slice p n cap, .int .i64 x, .slice q m d] w fun e w' => e = .returned (.bool true) ∧ Below w.heap.size w w' := by
  have GL := Lib.hid hl
  have GK := Lib.hid hk
  have HN := Lib.hid hn
  have HM := Lib.hid hm
  have c1 := hl.le
  have c2 := hl.max
  have c3 := hk.le
  have c4 := hk.max
  rw [hn] at c1
  rw [hm] at c3
  have K := Lib.hid F.ok.rep
  have HPF := Lib.hid (fun w => pick_first x n (by omega) hx w)
  obtain ⟨hx1, hx2⟩ := hx
  clear hl hk hn hm
  go_enter Try.func7, Try.ntmps7
  go_wp2_with fail
  refine (awake_any F w).mono ?_
  rintro e W1 ⟨rfl, hb1⟩
  have B1 := Lib.hid hb1
  clear hb1
  go_wp2_with fail
  obtain ⟨f, hf, hpf⟩ := HPF.out W1
  refine hpf.mono ?_
  rintro e W1' ⟨rfl, rfl⟩
  clear hpf HPF
  go_wp2_with fail
  refine (F.ok.new l n p cap W1 HN.out (GL.out.below B1.out)).mono ?_
  intro e W2 hnd
  obtain ⟨vx, rfl, hmx⟩ := made_of hnd
  have MX := Lib.hid hmx
  have B2 := Lib.hid (B1.out.trans (hmx.below.mono B1.out.size))
  clear hnd hmx
  obtain ⟨ex, hex⟩ : ∃ y, y = newErr l := ⟨_, rfl⟩
  rw [← hex] at MX ⊢
  have HEX := Lib.hid hex
  clear hex
  have HCUT : Hid (∀ w, (Instr.sliceAt 22 (.slice p n cap) (some (.int .i64 (f : Int))) none none).run Try.prog w = .ok (cutV p f n cap) w) := fun w => by
    have := run_cut_l (P := Try.prog) 22 3 p n cap Try.underlying22 knum1 .i64 (f : Int) (by omega) (by omega) w
    rwa [Int.toNat_natCast] at this
  have A2 := Lib.hid (GL.out.below B2.out)
  go_wp2_with (refine wpList_cut_nil rfl 22 _ _ _ rfl p f n cap HCUT.out (l.map v64) A2.out.at_ (by rw [List.length_map, HN.out]; exact c1) A2.out.nil (fun p' hA' hp' => ?_); have G2 := Lib.hid (show GoodN W2 (l.drop f) p' (cap - f) from ⟨fun n hn => A2.out.nums n (List.mem_of_mem_drop hn), by rw [List.take_of_length_le (by rw [List.length_map, HN.out]; exact Nat.le_refl _), ← List.map_drop] at hA'; exact hA', by rw [List.length_drop, HN.out]; omega, by omega, hp'⟩); clear hA' hp')
  refine (F.ok.new (l.drop f) (n - f) p' (cap - f) W2 (by rw [List.length_drop, HN.out]) G2.out).mono ?_
  intro e W3 hnd
  obtain ⟨vy, rfl, hmy⟩ := made_of hnd
  have MY := Lib.hid hmy
  have B3 := Lib.hid (B2.out.trans (hmy.below.mono B2.out.size))
  clear hnd hmy
  obtain ⟨ey, hey⟩ : ∃ y, y = newErr (l.drop f) := ⟨_, rfl⟩
  rw [← hey] at MY ⊢
  have HEY := Lib.hid hey
  clear hey
  by_cases hx0 : ex = 0
  · obtain ⟨bx, fx, rfl, hrx, hnx⟩ := MX.out.ok hx0
    have HRX := Lib.hid hrx
    have HNX := Lib.hid hnx
    subst hx0
    clear hrx hnx
    by_cases hy0 : ey = 0
    · obtain ⟨by_, fy, rfl, hry, hny⟩ := MY.out.ok hy0
      have HRY := Lib.hid hry
      have HNY := Lib.hid hny
      subst hy0
      clear hry hny
      by_cases h100 : 100 < n
      · go_wp2_with fail
        go_ret
        exact ⟨rfl, B3.out⟩
      · by_cases h30 : 30 < m
        · go_wp2_with fail
          go_ret
          exact ⟨rfl, B3.out⟩
        · have S3 := Lib.hid (Side.made K.out HRX.out (fun k hk => Nat.le_trans B1.out.size (HNX.out k hk)) B2.out MY.out.below HRY.out HNY.out)
          clear HRX HNX HRY HNY MX MY B1 B2 B3 G2 A2 HEX HEY
          go_wp2_with fail
          go_loopw [12] (fun i wr => ∃ (k : Nat) (fx : List Nat), i = .int .i64 k ∧ k ≤ f ∧ Hid (Side R R w wr bx fx l k by_ fy (l.drop f) 0)) (fun i _ => f - (intOf i).toNat)
          case atStart => exact ⟨0, fx, rfl, by omega, S3⟩
          case round =>
            clear S3
            obtain ⟨k, fx, rfl, hk, S⟩ := hrel
            by_cases hlt : k < f
            · have hkl : k < l.length := by rw [HN.out]; omega
              obtain ⟨b, off, rfl, _⟩ := GL.out.at_.addr (by rw [List.length_map]; omega)
              have HCELL := Lib.hid (fun W (hb : Below w.heap.size w W) => show W.cell? ⟨b, off + k, none⟩ = some (v64 l[k]) from (GL.out.at_.below hb).range k _ (by rw [List.getElem?_map, List.getElem?_eq_getElem hkl]; rfl))
              have HD := Lib.hid (fun W (h : R W bx fx l k) => F.ok.draw bx fx l k W h (by omega))
              rw [lotAt_in hkl] at HD
              generalize l[k] = y at *
              have c0 : wr.drew.cell? ⟨b, off + k, none⟩ = some (v64 y) := HCELL.out _ (S.out.drewN K.out K.out 1).below
              have i1 : (0 : Int) ≤ (k : Int) := by omega
              have i2 : (k : Int) < (n : Int) := by omega
              clear hkl
              go_wp2_with fail
              go_region_law (go_simp; go_at_call 17; refine (HD.out _ (S.out.drewN K.out K.out 1).one).mono ?_; rintro e W6 ⟨rfl, fx6, hr, ht, hf⟩; have s6 := (S.out.drewN K.out K.out 1).step1 K.out K.out hr ht hf; have c6 := HCELL.out W6 s6.below; have S6 := Lib.hid s6; clear hr ht hf s6)
              all_goals go_wp2_with fail
              all_goals exact ⟨⟨k + 1, _, by go_num, by omega, S6⟩, by simp [intOf]; omega⟩
            · obtain rfl : k = f := by omega
              go_wp2_with fail
              go_loopw [13] (fun i wr => ∃ (j c : Nat) (fx fy : List Nat), i = .int .i64 j ∧ j ≤ m ∧ c ≤ j ∧ Hid (Side R R w wr bx fx l (k + c) by_ fy (l.drop k) c)) (fun i _ => m - (intOf i).toNat)
              case atStart => exact ⟨0, 0, fx, fy, rfl, by omega, by omega, S⟩
              case round =>
                clear S
                obtain ⟨j, c, fx, fy, rfl, hj, hcj, S⟩ := hrel
                by_cases hlt : j < m
                · have hjl : j < ks.length := by rw [HM.out]; exact hlt
                  obtain ⟨b, off, rfl, _⟩ := GK.out.at_.addr (by rw [List.length_map]; omega)
                  have HCELL := Lib.hid (fun W (hb : Below w.heap.size w W) => show W.cell? ⟨b, off + j, none⟩ = some (v64 ks[j]) from (GK.out.at_.below hb).range j _ (by rw [List.getElem?_map, List.getElem?_eq_getElem hjl]; rfl))
                  have hzb := GK.out.nums ks[j] (List.getElem_mem hjl)
                  generalize ks[j] = z at *
                  have hbd := pickV_bd (L := l) (k + c) z
                  have HP1 := Lib.hid (fun W (h : R W bx fx l (k + c)) => F.ok.pick bx fx l (k + c) z W h (by omega) hzb)
                  have HP2 := Lib.hid (fun W (h : R W by_ fy (l.drop k) c) => F.ok.pick by_ fy (l.drop k) c z W h (by omega) hzb)
                  rw [pickV_drop] at HP2
                  have hpn := pickN_le z
                  generalize pickV l (k + c) z = y at *
                  generalize pickN z = pn at *
                  obtain ⟨hy0, hyz⟩ := hbd
                  obtain ⟨hz1, hz2⟩ := hzb
                  have HYZ := Lib.hid hyz
                  have c0 : wr.drew.cell? ⟨b, off + j, none⟩ = some (v64 z) := HCELL.out _ (S.out.drewN K.out K.out 1).below
                  have i1 : (0 : Int) ≤ (j : Int) := by omega
                  have i2 : (j : Int) < (m : Int) := by omega
                  have d1 : decide (y < 0) = false := decide_eq_false (by omega)
                  clear hjl hyz
                  go_wp2_with fail
                  go_region_law (first
                    | (have _t := tk1; go_simp; go_at_call 19; clear tk1 _t; refine (HP2.out W6 S6.out.two).mono ?_; rintro e W7 ⟨rfl, fy7, hr, ht, hf⟩; have s7 := S6.out.step2 K.out K.out hr ht hf; have c7 := HCELL.out W7 s7.below; have S7 := Lib.hid s7; clear hr ht hf s7)
                    | (go_simp; go_at_call 19; refine (HP1.out _ (S.out.drewN K.out K.out 1).one).mono ?_; rintro e W6 ⟨rfl, fx6, hr, ht, hf⟩; have s6 := (S.out.drewN K.out K.out 1).step1 K.out K.out hr ht hf; have c6 := HCELL.out W6 s6.below; have S6 := Lib.hid s6; clear hr ht hf s6; have tk1 : True := trivial))
                  all_goals
                    by_cases hz0 : 0 < z
                    · have hyz := HYZ.out hz0
                      go_wp2_with fail
                      exact ⟨⟨j + 1, c + pn, _, _, by go_num, by omega, by omega, by have h1 := S7; rw [show k + c + pn = k + (c + pn) by omega] at h1; exact h1⟩, by simp [intOf]; omega⟩
                    · go_wp2_with fail
                      exact ⟨⟨j + 1, c + pn, _, _, by go_num, by omega, by omega, by have h1 := S7; rw [show k + c + pn = k + (c + pn) by omega] at h1; exact h1⟩, by simp [intOf]; omega⟩
                · obtain rfl : j = m := by omega
                  go_wp2_with fail
                  refine (F.used.used bx fx l (k + c) wr S.out.one (by omega)).mono ?_
                  rintro e W6 ⟨rfl, fx6, hr, ht, hf⟩
                  have S6 := Lib.hid (S.out.step1 K.out K.out hr ht hf)
                  clear hr ht hf
                  go_wp2_with fail
                  refine (F.used.used by_ fy (l.drop k) c W6 S6.out.two (by omega)).mono ?_
                  rintro e W7 ⟨rfl, fy7, hr, ht, hf⟩
                  have S7 := Lib.hid (S6.out.step2 K.out K.out hr ht hf)
                  clear hr ht hf
                  have hcc : (c : Int) + (k : Int) = ((k + c : Nat) : Int) := by push_cast; omega
                  go_wp2_with fail
                  go_ret
                  exact ⟨rfl, S7.out.below⟩
    · have hvy := MY.out.no hy0
      subst hvy
      have hne : (ey == 0) = false := by rw [beq_eq_false_iff_ne]; exact hy0
      have hne2 : (ey != 0) = true := by rw [bne, hne]; rfl
      have hd : decide (ey = 0) = false := decide_eq_false hy0
      clear hy0
      by_cases h100 : 100 < n
      · go_wp2_with fail
        go_ret
        exact ⟨rfl, B3.out⟩
      · by_cases h30 : 30 < m
        · go_wp2_with fail
          go_ret
          exact ⟨rfl, B3.out⟩
        · go_wp2_with fail
          go_ret
          exact ⟨rfl, B3.out⟩
  · have hvx := MX.out.no hx0
    subst hvx
    have hnx : (ex == 0) = false := by rw [beq_eq_false_iff_ne]; exact hx0
    have hnx2 : (ex != 0) = true := by rw [bne, hnx]; rfl
    clear hx0
    by_cases hy0 : ey = 0
    · obtain ⟨by_, fy, rfl, hry, hny⟩ := MY.out.ok hy0
      subst hy0
      clear hry hny
      by_cases h100 : 100 < n
      · go_wp2_with fail
        go_ret
        exact ⟨rfl, B3.out⟩
      · by_cases h30 : 30 < m
        · go_wp2_with fail
          go_ret
          exact ⟨rfl, B3.out⟩
        · go_wp2_with fail
          go_ret
          exact ⟨rfl, B3.out⟩
    · have hvy := MY.out.no hy0
      subst hvy
      have hne : (ey == 0) = false := by rw [beq_eq_false_iff_ne]; exact hy0
      have hne2 : (ey != 0) = true := by rw [bne, hne]; rfl
      clear hy0
      by_cases h100 : 100 < n
      · go_wp2_with fail
        go_ret
        exact ⟨rfl, B3.out⟩
      · by_cases h30 : 30 < m
        · go_wp2_with fail
          go_ret
          exact ⟨rfl, B3.out⟩
        · go_wp2_with fail
          go_ret
          exact ⟨rfl, B3.out⟩
end Go.Proofs.Ytjdlmpmdjlmdnaa
