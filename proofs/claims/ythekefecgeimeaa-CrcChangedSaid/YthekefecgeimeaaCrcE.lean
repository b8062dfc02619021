/-
  The laws CrcSums, CrcJoins and CrcLong, walked.
-/
import Derived.Test.YthekefecgeimeaaCrcD
namespace Go.Proofs.Ythekefecgeimeaa
set_option linter.unusedSimpArgs false
set_option linter.unusedVariables false
open Go.RowKit Sha
theorem more_len (n : Int) (s : W) (hn : n = U s) (zs : List Int) (len : Nat) (p : Option Addr) (cap : Nat) (w : World) (hl : zs.length = len) (hz : ∀ n ∈ zs, 0 ≤ n ∧ n ≤ 255) (hA : At w p (zs.map v8)) (hc : len ≤ cap) (hm : cap ≤ 9223372036854775807) :
    Calls Try.prog 13 #[.int .u32 n, .slice p len cap] w fun e w' => e = .returned (v32 (Crc.more s zs)) ∧ Below w.heap.size w w' := by
  subst hl; exact more_any n s hn zs p cap w hz hA hc hm
theorem rmore_len (n : Int) (s : W) (hn : n = U s) (zs : List Int) (len : Nat) (p : Option Addr) (cap : Nat) (w : World) (hl : zs.length = len) (hz : ∀ n ∈ zs, 0 ≤ n ∧ n ≤ 255) (hA : At w p (zs.map v8)) (hc : len ≤ cap) (hm : cap ≤ 9223372036854775807) :
    Calls Try.prog 14 #[.int .u32 n, .slice p len cap] w fun e w' => e = .returned (v32 (Crc.more s zs)) ∧ w = w' := by
  subst hl; exact rmore_any n s hn zs p cap w hz hA hc hm
set_option maxRecDepth 100000 in
set_option maxHeartbeats 400000 in
theorem sums_any (s : W) (zs : List Int) (n : Nat) (p : Option Addr) (cap : Nat) (w : World) (hl : zs.length = n) (hA : At w p (zs.map v8)) (hc : n ≤ cap) (hm : cap ≤ maxLen) (hp : p = none → cap = 0) (hz : ∀ n ∈ zs, 0 ≤ n ∧ n ≤ 255) :
    Calls Try.prog 3 #[v32 s, .slice p n cap] w fun e w' => e = .returned (.bool true) ∧ Below w.heap.size w w' := by
  unfold maxLen at hm
  have HA := Lib.hid hA
  have HL := Lib.hid hl
  clear hA hl
  by_cases hlt : 4000 < n
  · go_enter Try.func3, Try.ntmps3
    go_wp2_with fail
    refine (awake_any _).mono ?_
    rintro e w1 ⟨rfl, hb1⟩
    go_wp2_with fail
    go_ret
    exact ⟨rfl, hb1⟩
  · go_enter Try.func3, Try.ntmps3
    go_wp2_with fail
    refine (lent_any zs n p cap _ HL.out HA.out hc hp (by omega)).mono ?_
    rintro e w1 ⟨g, rfl, hq, hb1⟩
    have Q1 := Lib.hid hq
    have hf := hq
    rw [List.map_append] at hf
    have F1 := Lib.hid hf.front
    have B1 := Lib.hid hb1
    have A1 := Lib.hid (HA.out.below hb1)
    clear hq hf hb1
    go_wp2_with fail
    refine (csum_any zs n _ _ _ HL.out.symm hz F1.out (by omega) (by omega)).mono ?_
    rintro e w2 ⟨rfl, hb2⟩
    have Q2 := Lib.hid (Q1.out.below hb2)
    have F2 := Lib.hid (F1.out.below hb2)
    have A2 := Lib.hid (A1.out.below hb2)
    have B2 := Lib.hid (below_on B1.out hb2)
    clear hb2
    go_wp2_with fail
    refine (rsum_any zs n _ _ _ HL.out.symm hz A2.out hc (by omega)).mono ?_
    rintro e w' ⟨rfl, rfl⟩
    go_wp2_with fail
    refine (more_len _ s rfl zs n _ _ _ HL.out hz F2.out (by omega) (by omega)).mono ?_
    rintro e w3 ⟨rfl, hb3⟩
    have Q3 := Lib.hid (Q2.out.below hb3)
    have A3 := Lib.hid (A2.out.below hb3)
    have B3 := Lib.hid (below_on B2.out hb3)
    clear hb3
    go_wp2_with fail
    refine (rmore_len _ s rfl zs n _ _ _ HL.out hz A3.out hc (by omega)).mono ?_
    rintro e w' ⟨rfl, rfl⟩
    go_wp2_with fail
    refine (kept_any zs n g p cap _ HL.out hz Q3.out A3.out (by omega)).mono ?_
    rintro e w4 ⟨rfl, hb4⟩
    have B4 := Lib.hid (below_on B3.out hb4)
    clear hb4
    go_wp2_with fail
    refine (awake_any _).mono ?_
    rintro e w5 ⟨rfl, hb5⟩
    go_wp2_with fail
    go_ret
    exact ⟨rfl, below_on B4.out hb5⟩
set_option maxRecDepth 100000 in
set_option maxHeartbeats 400000 in
theorem cjoins_any (a b : W) (n : Int) (w : World) (hn : -9223372036854775808 ≤ n ∧ n ≤ 9223372036854775807) :
    Calls Try.prog 4 #[v32 a, v32 b, .int .i64 n] w fun e w' => e = .returned (.bool true) ∧ Below w.heap.size w w' := by
  by_cases h1 : 5000 < n ∧ n ≤ 2147483647
  · obtain ⟨h1, h2⟩ := h1
    go_enter Try.func4, Try.ntmps4
    go_wp2_with fail
    refine (awake_any _).mono ?_
    rintro e w1 ⟨rfl, hb1⟩
    go_wp2_with fail
    go_ret
    exact ⟨rfl, hb1⟩
  · by_cases h2 : n < 0 ∨ 2147483647 < n
    · rcases h2 with h2 | h2
      · have h3 : ¬ 5000 < n := by omega
        clear h1
        go_enter Try.func4, Try.ntmps4
        go_wp2_with fail
        refine (join_no _ _ n _ (by omega)).mono ?_
        rintro e w' ⟨rfl, rfl⟩
        go_wp2_with fail
        refine (rjoin_no _ _ n _ (by omega)).mono ?_
        rintro e w' ⟨rfl, rfl⟩
        go_wp2_with fail
        refine (awake_any _).mono ?_
        rintro e w1 ⟨rfl, hb1⟩
        go_wp2_with fail
        go_ret
        exact ⟨rfl, hb1⟩
      · have h3 : 5000 < n := by omega
        have h4 : ¬ n ≤ 2147483647 := by omega
        clear h1
        go_enter Try.func4, Try.ntmps4
        go_wp2_with fail
        refine (join_no _ _ n _ (by omega)).mono ?_
        rintro e w' ⟨rfl, rfl⟩
        go_wp2_with fail
        refine (rjoin_no _ _ n _ (by omega)).mono ?_
        rintro e w' ⟨rfl, rfl⟩
        go_wp2_with fail
        refine (awake_any _).mono ?_
        rintro e w1 ⟨rfl, hb1⟩
        go_wp2_with fail
        go_ret
        exact ⟨rfl, hb1⟩
    · have h3 : n ≤ 5000 := by omega
      have h0 : 0 ≤ n := by omega
      obtain ⟨k, rfl⟩ := Int.eq_ofNat_of_zero_le h0
      have h4 : k ≤ 5000 := by omega
      clear h1 h2
      go_enter Try.func4, Try.ntmps4
      go_wp2_with fail
      refine (join_yes _ _ a b k _ rfl rfl (by omega) (by omega)).mono ?_
      rintro e w1 ⟨rfl, hb1⟩
      rw [Int.toNat_natCast]
      go_wp2_with fail
      refine (rjoin_yes a b k _ (by omega)).mono ?_
      rintro e w' ⟨rfl, rfl⟩
      go_wp2_with fail
      refine (awake_any _).mono ?_
      rintro e w2 ⟨rfl, hb2⟩
      go_wp2_with fail
      go_ret
      exact ⟨rfl, below_on hb1 hb2⟩
set_option maxRecDepth 100000 in
set_option maxHeartbeats 400000 in
theorem long_any (a b c : W) (m n : Int) (w : World) (hm : -9223372036854775808 ≤ m ∧ m ≤ 9223372036854775807) (hn : -9223372036854775808 ≤ n ∧ n ≤ 9223372036854775807) :
    Calls Try.prog 8 #[v32 a, v32 b, v32 c, .int .i64 m, .int .i64 n] w fun e w' => e = .returned (.bool true) ∧ Below w.heap.size w w' := by
  have pm := pickOf_bd m 1073741824 (by omega)
  have pn := pickOf_bd n 1073741824 (by omega)
  go_enter Try.func8, Try.ntmps8
  go_wp2_with fail
  refine (awake_any _).mono ?_
  rintro e w1 ⟨rfl, hb1⟩
  have B1 := Lib.hid hb1
  clear hb1
  go_wp2_with fail
  refine (pick_any m _ _ (by omega) (by omega) hm).mono ?_
  rintro e w' ⟨rfl, rfl⟩
  go_wp2_with fail
  refine (pick_any n _ _ (by omega) (by omega) hn).mono ?_
  rintro e w' ⟨rfl, rfl⟩
  generalize pickOf m 1073741824 = m at *
  generalize pickOf n 1073741824 = n at *
  clear hm hn
  obtain ⟨m, rfl⟩ := Int.eq_ofNat_of_zero_le pm.1
  obtain ⟨n, rfl⟩ := Int.eq_ofNat_of_zero_le pn.1
  have m1 : m < 1073741824 := by omega
  have n1 : n < 1073741824 := by omega
  clear pm pn
  go_wp2_with fail
  refine (join_yes _ _ a b m _ rfl rfl (by omega) (by omega)).mono ?_
  rintro e w2 ⟨rfl, hb2⟩
  rw [Int.toNat_natCast]
  have B2 := Lib.hid (below_on B1.out hb2)
  clear hb2
  go_wp2_with fail
  refine (join_yes _ _ (Crc.join a b m) c n _ rfl rfl (by omega) (by omega)).mono ?_
  rintro e w3 ⟨rfl, hb3⟩
  rw [Int.toNat_natCast]
  have B3 := Lib.hid (below_on B2.out hb3)
  clear hb3
  go_wp2_with fail
  refine (join_yes _ _ b c n _ rfl rfl (by omega) (by omega)).mono ?_
  rintro e w4 ⟨rfl, hb4⟩
  rw [Int.toNat_natCast]
  have B4 := Lib.hid (below_on B3.out hb4)
  clear hb4
  go_wp2_with fail
  refine (join_yes _ _ a (Crc.join b c n) (m + n) _ rfl rfl (by omega) (by omega)).mono ?_
  rintro e w5 ⟨rfl, hb5⟩
  rw [show ((m : Int) + (n : Int)).toNat = m + n by omega, ← Crc.join_join]
  have B5 := Lib.hid (below_on B4.out hb5)
  clear hb5
  go_wp2_with fail
  go_ret
  exact ⟨rfl, B5.out⟩
end Go.Proofs.Ythekefecgeimeaa
