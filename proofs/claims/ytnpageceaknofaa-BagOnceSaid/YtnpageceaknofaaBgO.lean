/-
  The law BagOrder, over what bags are asked to do.
-/
import Derived.Test.YtnpageceaknofaaBgT
import Derived.Test.YtnpageceaknofaaBgC
namespace Go.Proofs.Ytnpageceaknofaa
set_option linter.unusedSimpArgs false
set_option linter.unusedVariables false
open Go.RowKit Sha Bag
/-- Truths in memory. -/
structure GoodB (w : World) (xs : List Bool) (p : Option Addr) (cap : Nat) : Prop where
  at_ : At w p (xs.map Value.bool)
  le : xs.length ≤ cap
  max : cap ≤ 9223372036854775807
theorem GoodB.below {w w' : World} {xs : List Bool} {p : Option Addr} {cap : Nat} (h : GoodB w xs p cap) (hb : Below w.heap.size w w') : GoodB w' xs p cap := ⟨h.at_.below hb, h.le, h.max⟩
def mid (l : List ByteArray) (f t : Nat) : List ByteArray := (l.take t).drop f
theorem mid_len {l : List ByteArray} {f t : Nat} (h : t ≤ l.length) : (mid l f t).length = t - f := by unfold mid; rw [List.length_drop, List.length_take_of_le h]
theorem mid_get {l : List ByteArray} {f t i : Nat} (h : t ≤ l.length) (hi : f + i < t) : (mid l f t)[i]? = some (l[f + i]'(by omega)) := by
  unfold mid
  rw [List.getElem?_drop, List.getElem?_take, if_pos hi, List.getElem?_eq_getElem]
theorem mid_all (l : List ByteArray) : mid l 0 l.length = l := by unfold mid; simp
theorem mid_first {l : List ByteArray} {f t : Nat} (h : t ≤ l.length) (hf : f < t) : atE (mid l f t) ((0 : Nat) : Int) = 0 ∧ atV ByteArray.empty (mid l f t) ((0 : Nat) : Int) = l[f]'(by omega) ∧ takeL (mid l f t) ((0 : Nat) : Int) = mid l (f + 1) t := by
  have hk : 0 < (mid l f t).length := by rw [mid_len h]; omega
  obtain ⟨a, b, c⟩ := at_in (z := ByteArray.empty) hk
  refine ⟨a, ?_, ?_⟩
  · rw [b]
    have := mid_get (f := f) (i := 0) h (by omega)
    rw [List.getElem?_eq_getElem hk] at this
    simpa using this
  · rw [c]; unfold mid; simp [List.drop_drop]
theorem mid_last {l : List ByteArray} {f t : Nat} (h : t ≤ l.length) (hf : f < t) : atE (mid l f t) ((t - f - 1 : Nat) : Int) = 0 ∧ atV ByteArray.empty (mid l f t) ((t - f - 1 : Nat) : Int) = l[t - 1]'(by omega) ∧ takeL (mid l f t) ((t - f - 1 : Nat) : Int) = mid l f (t - 1) := by
  have hk : t - f - 1 < (mid l f t).length := by rw [mid_len h]; omega
  obtain ⟨a, b, c⟩ := at_in (z := ByteArray.empty) hk
  refine ⟨a, ?_, ?_⟩
  · rw [b]
    have := mid_get (f := f) (i := t - f - 1) h (by omega)
    rw [List.getElem?_eq_getElem hk] at this
    have h2 := Option.some.inj this
    rw [h2]
    congr 1
    omega
  · rw [c, List.drop_eq_nil_of_le (by rw [mid_len h]; omega), List.append_nil]
    apply List.ext_getElem?
    intro i
    unfold mid
    rw [List.getElem?_take, List.getElem?_drop, List.getElem?_drop, List.getElem?_take, List.getElem?_take]
    by_cases hi : i < t - f - 1
    · rw [if_pos hi, if_pos (by omega), if_pos (by omega)]
    · rw [if_neg hi, if_neg (by omega)]
set_option maxRecDepth 100000 in
set_option maxHeartbeats 4000000 in
theorem order_any {R : BagRep ByteArray} {R0 : BagRep Int} (F0 : NumBagOK R0) (F : TextBagOK R) (l : List ByteArray) (n : Nat) (p : Option Addr) (cap : Nat) (bs : List Bool) (m : Nat) (q : Option Addr) (d : Nat) (w : World)
    (hn : l.length = n) (hl : GoodT w l p cap) (hm : bs.length = m) (hb : GoodB w bs q d) :
    Calls Try.prog 6 #[.slice p n cap, .slice q m d] w fun e w' => e = .returned (.bool true) ∧ Below w.heap.size w w' := by
  have K := Lib.hid F.ok.held
  have GL := Lib.hid hl
  have GB := Lib.hid hb
  have HN := Lib.hid hn
  have HM := Lib.hid hm
  have hc1 := hl.le
  have hc2 := hl.max
  have hd1 := hb.le
  have hd2 := hb.max
  rw [hn] at hc1
  rw [hm] at hd1
  clear hl hb hn hm
  go_enter Try.func6, Try.ntmps6
  go_wp2_with fail
  refine (known_any F0 w).mono ?_
  rintro e w1 ⟨rfl, hb1⟩
  have B1 := Lib.hid hb1
  clear hb1
  by_cases hbig : 200 < n
  · go_wp2_with fail
    go_ret
    exact ⟨rfl, B1.out⟩
  · go_wp2_with fail
    have HCT := Lib.hid (fun W (hb : Below w.heap.size w W) (k : Nat) (hk : k < l.length) => show ∃ g off, p = some ⟨g, off, none⟩ ∧ W.cell? ⟨g, off + k, none⟩ = some (.string l[k]) from by
      obtain ⟨g, off, hp, hc⟩ := (GL.out.below hb).at_.addr (by rw [List.length_map]; omega)
      exact ⟨g, off, hp, hc k _ (by rw [List.getElem?_map, List.getElem?_eq_getElem hk]; rfl)⟩)
    go_loopw [6] (fun i wr => ∃ k : Nat, i = .int .i64 k ∧ k ≤ n ∧ w1 = wr) (fun i _ => n - (intOf i).toNat)
    case atStart => exact ⟨0, rfl, by omega, rfl⟩
    case round =>
      obtain ⟨k, rfl, hk, rfl⟩ := hrel
      by_cases hlt : k < n
      · obtain ⟨g, off, rfl, c1⟩ := HCT.out w1 B1.out k (by rw [HN.out]; exact hlt)
        obtain ⟨x, hx⟩ : ∃ x, x = l[k]'(by rw [HN.out]; exact hlt) := ⟨_, rfl⟩
        rw [← hx] at c1
        clear hx
        by_cases h40 : 40 < x.size
        · go_wp2_with fail
          go_ret
          exact ⟨rfl, B1.out⟩
        · go_wp2_with fail
          go_roundw
          case rel => exact ⟨k + 1, by go_num, by omega, trivial⟩
          case measure => simp [intOf]; omega
      · obtain rfl : k = n := by omega
        go_wp2_with fail
        refine (filled_any F l k p cap w1 HN.out (GL.out.below B1.out) (by omega)).mono ?_
        rintro e w2 ⟨b, fp, rfl, hs⟩
        have B2 := Lib.hid (B1.out.trans (hs.below.mono B1.out.size))
        have S2 := Lib.hid (show Solo R w w2 b fp (k, l) from ⟨hs.one, fun j hj => Nat.le_trans B1.out.size (hs.new j hj), B2.out⟩)
        clear hs
        have HRM := Lib.hid (show Calls Try.prog 22 #[optr b] w2 (QDone (v64 0) w2) from by
          have h1 := F.more.room b fp k l w2 S2.out.one
          rwa [HN.out, show (k : Int) - (k : Int) = 0 by omega] at h1)
        go_wp2_with fail
        refine HRM.out.mono ?_
        rintro e w3 ⟨rfl, j, hw3⟩
        have S3 := Lib.hid (show Solo R w w3 b fp (k, l) by rw [hw3]; exact S2.out.on K.out (below_drewN (Below.refl _ _) j))
        clear hw3 S2 HRM B2
        have HAL := Lib.hid (show Calls Try.prog 24 #[optr b] w3 (fun e w' => ∃ q6 c6 fp', e = .returned (.slice q6 k c6) ∧ GoodT w' l q6 c6 ∧ Solo R w w' b fp' (k, l)) from (F.more.all b fp k l w3 S3.out.one).mono (by
          rintro e w' ⟨v, fp', rfl, ⟨q6, c6, rfl, hg, _⟩, hr, ht, hf, _⟩
          exact ⟨q6, c6, fp', by rw [HN.out], hg, S3.out.step hr ht hf⟩))
        go_wp2_with fail
        refine HAL.out.mono ?_
        rintro e w4 ⟨q6, c6, fp4, rfl, hg, hs⟩
        have G4 := Lib.hid hg
        have S4 := Lib.hid hs
        clear hg hs HAL S3
        have HST := Lib.hid (show Calls Try.prog 23 #[.slice q6 k c6, .slice p k cap] w4 (SameTDone true w4) from by
          have h1 := sameT_any l l k k q6 p c6 cap w4 HN.out HN.out G4.out (GL.out.below S4.out.below)
          rwa [show decide (l = l) = true from decide_eq_true rfl] at h1)
        go_wp2_with fail
        refine HST.out.mono ?_
        rintro e w5 ⟨rfl, j, hw5⟩
        have S5 := Lib.hid (show Solo R w w5 b fp4 (k, mid l 0 k) by rw [hw5, ← HN.out, mid_all, HN.out]; exact S4.out.on K.out (below_drewN (Below.refl _ _) j))
        clear hw5 S4 HST G4
        go_wp2_with fail
        go_loopw [8, 9, 10] (fun vf vt vi wr => ∃ (f t i : Nat) (fp : List Nat), vf = .int .i64 f ∧ vt = .int .i64 t ∧ vi = .int .i64 i ∧ f ≤ t ∧ t ≤ k ∧ i ≤ k ∧ i + (t - f) = k ∧ Hid (Solo R w wr b fp (k, mid l f t))) (fun vf vt _ _ => (intOf vt).toNat - (intOf vf).toNat)
        case atStart => exact ⟨0, k, 0, fp4, rfl, rfl, rfl, by omega, by omega, by omega, by omega, S5⟩
        case round =>
          clear S5
          obtain ⟨f, t, i, fp, rfl, rfl, rfl, hft, htk, hik, hsum, S⟩ := hrel
          by_cases hlt2 : f < t
          · have htl : t ≤ l.length := by rw [HN.out]; exact htk
            have HML := Lib.hid (mid_len (f := f) htl)
            have i1 : IntKind.i64.wrap ((t : Int) - (f : Int)) = (t : Int) - (f : Int) := IntWalk.i64_in _ (by omega)
            have i2 : IntKind.i64.wrap ((t : Int) - (f : Int) - 1) = (t : Int) - (f : Int) - 1 := IntWalk.i64_in _ (by omega)
            have i3 : IntKind.i64.wrap ((t : Int) - 1) = (t : Int) - 1 := IntWalk.i64_in _ (by omega)
            by_cases him : i < m
            · obtain ⟨gq, oq, rfl, hcq⟩ := (GB.out.below S.out.below).at_.addr (by rw [List.length_map, HM.out]; omega)
              have hib : i < bs.length := by rw [HM.out]; exact him
              have cb : wr.cell? ⟨gq, oq + i, none⟩ = some (.bool bs[i]) := hcq i _ (by rw [List.getElem?_map, List.getElem?_eq_getElem hib]; rfl)
              generalize bs[i] = bb at *
              clear hcq hib
              cases bb with
              | false =>
                obtain ⟨hE, hV, hT⟩ := mid_first (f := f) htl hlt2
                have HTK := Lib.hid (show Calls Try.prog 25 #[optr b, .int .i64 ((0 : Nat) : Int)] wr (ODone R b fp (k, mid l (f + 1) t) (.tuple #[.string (l[f]'(by omega)), v64 0]) wr) from by
                  have h1 := F.ok.take b fp k (mid l f t) ((0 : Nat) : Int) wr S.out.one (by omega)
                  have h2 : atV textK.zero (mid l f t) ((0 : Nat) : Int) = l[f]'(by omega) := hV
                  rw [hE, h2, hT] at h1
                  exact h1)
                have HWC := Lib.hid (fun W hb => HCT.out W hb (f) (by omega))
                obtain ⟨x, hx⟩ : ∃ x, x = l[f]'(by omega) := ⟨_, rfl⟩
                rw [← hx] at HTK HWC
                clear hE hV hT hx
                go_wp2_with fail
                refine HTK.out.mono ?_
                rintro e wa ⟨rfl, fpa, hr, ht, hf⟩
                have SA := Lib.hid (S.out.step hr ht hf)
                obtain ⟨g, off, rfl, c1⟩ := HWC.out wa SA.out.below
                clear hr ht hf S HTK HWC
                have HLN := Lib.hid (show Calls Try.prog 26 #[optr b] wa (QDone (v64 ((t : Int) - (f : Int) - 1)) wa) from by
                  have h1 := F.more.len b fpa k _ wa SA.out.one
                  rwa [mid_len (by omega), show ((t - ((f + 1)) : Nat) : Int) = (t : Int) - (f : Int) - 1 by omega] at h1)
                go_wp2_with fail
                refine HLN.out.mono ?_
                rintro e wb ⟨rfl, j, hwb⟩
                have SB := Lib.hid (show Solo R w wb b fpa (k, mid l (f + 1) t) by rw [hwb]; exact SA.out.on K.out (below_drewN (Below.refl _ _) j))
                clear hwb SA HLN
                go_wp2_with fail
                go_roundw
                case rel => exact ⟨f + 1, t, i + 1, fpa, by go_num, rfl, by go_num, by omega, by omega, by omega, by omega, SB⟩
                case measure => simp [intOf]; omega
              | true =>
                obtain ⟨hE, hV, hT⟩ := mid_last (f := f) htl hlt2
                have HTK := Lib.hid (show Calls Try.prog 25 #[optr b, .int .i64 ((t - f - 1 : Nat) : Int)] wr (ODone R b fp (k, mid l f (t - 1)) (.tuple #[.string (l[t - 1]'(by omega)), v64 0]) wr) from by
                  have h1 := F.ok.take b fp k (mid l f t) ((t - f - 1 : Nat) : Int) wr S.out.one (by omega)
                  have h2 : atV textK.zero (mid l f t) ((t - f - 1 : Nat) : Int) = l[t - 1]'(by omega) := hV
                  rw [hE, h2, hT] at h1
                  exact h1)
                have HWC := Lib.hid (fun W hb => HCT.out W hb (t - 1) (by omega))
                obtain ⟨x, hx⟩ : ∃ x, x = l[t - 1]'(by omega) := ⟨_, rfl⟩
                rw [← hx] at HTK HWC
                clear hE hV hT hx
                have e1 : ((t - f - 1 : Nat) : Int) = (t : Int) - (f : Int) - 1 := by omega
                rw [e1] at HTK
                clear e1
                go_wp2_with fail
                refine HTK.out.mono ?_
                rintro e wa ⟨rfl, fpa, hr, ht, hf⟩
                have SA := Lib.hid (S.out.step hr ht hf)
                obtain ⟨g, off, rfl, c1⟩ := HWC.out wa SA.out.below
                clear hr ht hf S HTK HWC
                have HLN := Lib.hid (show Calls Try.prog 26 #[optr b] wa (QDone (v64 ((t : Int) - (f : Int) - 1)) wa) from by
                  have h1 := F.more.len b fpa k _ wa SA.out.one
                  rwa [mid_len (by omega), show (((t - 1) - (f) : Nat) : Int) = (t : Int) - (f : Int) - 1 by omega] at h1)
                have e2 : ((t : Int) - 1).toNat = t - 1 := by omega
                have e3 : (0 : Int) ≤ (t : Int) - 1 := by omega
                have e4 : (t : Int) - 1 < (k : Int) := by omega
                go_wp2_with fail
                refine HLN.out.mono ?_
                rintro e wb ⟨rfl, j, hwb⟩
                have SB := Lib.hid (show Solo R w wb b fpa (k, mid l f (t - 1)) by rw [hwb]; exact SA.out.on K.out (below_drewN (Below.refl _ _) j))
                clear hwb SA HLN
                by_cases h1 : t - 1 = f
                · have hq : ((t : Int) - 1 == (f : Int)) = true := by rw [beq_iff_eq]; omega
                  have SC := Lib.hid (show Solo R w wb b fpa (k, mid l (f + 1) t) from by
                    have h2 := SB.out
                    have h3 : mid l f (t - 1) = [] := by unfold mid; exact List.drop_eq_nil_of_le (by rw [List.length_take]; omega)
                    have h4 : mid l (f + 1) t = [] := by unfold mid; exact List.drop_eq_nil_of_le (by rw [List.length_take]; omega)
                    rw [h3] at h2
                    rw [h4]
                    exact h2)
                  clear h1 e2
                  go_wp2_with fail
                  go_roundw
                  case rel => exact ⟨f + 1, t, i + 1, fpa, by go_num, rfl, by go_num, by omega, by omega, by omega, by omega, SC⟩
                  case measure => simp [intOf]; omega
                · have hq : ((t : Int) - 1 == (f : Int)) = false := by rw [beq_eq_false_iff_ne]; omega
                  clear h1 e2
                  go_wp2_with fail
                  go_roundw
                  case rel => exact ⟨f, t - 1, i + 1, fpa, rfl, by go_num, by go_num, by omega, by omega, by omega, by omega, SB⟩
                  case measure => simp [intOf]; omega
            · skip
              obtain ⟨hE, hV, hT⟩ := mid_first (f := f) htl hlt2
              have HTK := Lib.hid (show Calls Try.prog 25 #[optr b, .int .i64 ((0 : Nat) : Int)] wr (ODone R b fp (k, mid l (f + 1) t) (.tuple #[.string (l[f]'(by omega)), v64 0]) wr) from by
                have h1 := F.ok.take b fp k (mid l f t) ((0 : Nat) : Int) wr S.out.one (by omega)
                have h2 : atV textK.zero (mid l f t) ((0 : Nat) : Int) = l[f]'(by omega) := hV
                rw [hE, h2, hT] at h1
                exact h1)
              have HWC := Lib.hid (fun W hb => HCT.out W hb (f) (by omega))
              obtain ⟨x, hx⟩ : ∃ x, x = l[f]'(by omega) := ⟨_, rfl⟩
              rw [← hx] at HTK HWC
              clear hE hV hT hx
              go_wp2_with fail
              refine HTK.out.mono ?_
              rintro e wa ⟨rfl, fpa, hr, ht, hf⟩
              have SA := Lib.hid (S.out.step hr ht hf)
              obtain ⟨g, off, rfl, c1⟩ := HWC.out wa SA.out.below
              clear hr ht hf S HTK HWC
              have HLN := Lib.hid (show Calls Try.prog 26 #[optr b] wa (QDone (v64 ((t : Int) - (f : Int) - 1)) wa) from by
                have h1 := F.more.len b fpa k _ wa SA.out.one
                rwa [mid_len (by omega), show ((t - ((f + 1)) : Nat) : Int) = (t : Int) - (f : Int) - 1 by omega] at h1)
              go_wp2_with fail
              refine HLN.out.mono ?_
              rintro e wb ⟨rfl, j, hwb⟩
              have SB := Lib.hid (show Solo R w wb b fpa (k, mid l (f + 1) t) by rw [hwb]; exact SA.out.on K.out (below_drewN (Below.refl _ _) j))
              clear hwb SA HLN
              go_wp2_with fail
              go_roundw
              case rel => exact ⟨f + 1, t, i + 1, fpa, by go_num, rfl, by go_num, by omega, by omega, by omega, by omega, SB⟩
              case measure => simp [intOf]; omega
          · obtain rfl : f = t := by omega
            have HE := Lib.hid (show mid l f f = [] from by unfold mid; exact List.drop_eq_nil_of_le (by rw [List.length_take]; omega))
            rw [HE.out] at S
            have HTK := Lib.hid (show Calls Try.prog 25 #[optr b, v64 0] wr (ODone R b fp (k, []) (.tuple #[.string .empty, v64 5]) wr) from F.ok.take b fp k [] 0 wr S.out.one (by omega))
            go_wp2_with fail
            refine HTK.out.mono ?_
            rintro e wa ⟨rfl, fpa, hr, ht, hf⟩
            have SA := Lib.hid (S.out.step hr ht hf)
            clear hr ht hf S HTK
            have HRM := Lib.hid (show Calls Try.prog 22 #[optr b] wa (QDone (v64 k) wa) from by
              have h1 := F.more.room b fpa k [] wa SA.out.one
              rwa [show (k : Int) - (([] : List ByteArray).length : Int) = (k : Int) by simp] at h1)
            go_wp2_with fail
            refine HRM.out.mono ?_
            rintro e wb ⟨rfl, j, hwb⟩
            have SB := Lib.hid (show Solo R w wb b fpa (k, []) by rw [hwb]; exact SA.out.on K.out (below_drewN (Below.refl _ _) j))
            clear hwb SA HRM
            go_wp2_with fail
            refine (F.more.all b fpa k [] wb SB.out.one).mono ?_
            rintro e wc ⟨v, fpc, rfl, ⟨q6, c6, rfl, _⟩, hr, ht, hf, _⟩
            have BC := Lib.hid (SB.out.step hr ht hf).below
            clear hr ht hf SB
            go_wp2_with fail
            go_ret
            exact ⟨rfl, BC.out⟩
end Go.Proofs.Ytnpageceaknofaa
