/-
  The law DigestSums, walked.
-/
import Derived.Test.YtpbdajgbahnbjaaRefM
import Derived.Test.YtpbdajgbahnbjaaLaw1
import Derived.Test.YtpbdajgbahnbjaaKit
namespace Go.Proofs.Ytpbdajgbahnbjaa
set_option linter.unusedSimpArgs false
set_option linter.unusedVariables false
open Go.RowKit Sha
theorem ds_below {w w' w'' : World} (h : Below w.heap.size w w') (h2 : Below w'.heap.size w' w'') : Below w.heap.size w w'' := h.trans (h2.mono h.size)
set_option maxRecDepth 100000 in
set_option maxHeartbeats 400000 in
theorem dsums_any (zs : List Int) (n : Nat) (p : Option Addr) (cap : Nat) (w : World) (hl : zs.length = n) (hA : At w p (zs.map v8)) (hc : n ≤ cap) (hm : cap ≤ maxLen) (hp : p = none → cap = 0) (hz : ∀ n ∈ zs, 0 ≤ n ∧ n ≤ 255) :
    Calls Try.prog 3 #[.slice p n cap] w fun e w' => e = .returned (.bool true) ∧ Below w.heap.size w w' := by
  unfold maxLen at hm
  have HA := Lib.hid hA
  have HL := Lib.hid hl
  have HSL := Lib.hid (sum_length zs)
  clear hA hl
  by_cases hlt : 400 < n
  · go_enter Try.func3, Try.ntmps3
    go_wp2_with fail
    refine (awake_any _).mono ?_
    rintro e w1 ⟨rfl, hb1⟩
    go_wp2_with fail
    go_ret
    exact ⟨rfl, hb1⟩
  · go_enter Try.func3, Try.ntmps3
    go_wp2_with fail
    refine (lent_any zs n p cap _ HL.out HA.out hc hp (by omega)).mono ?_
    rintro e w1 ⟨g, rfl, hq, hb1⟩
    have Q1 := Lib.hid hq
    have hf := hq
    rw [List.map_append] at hf
    have F1 := Lib.hid hf.front
    have B1 := Lib.hid hb1
    have A1 := Lib.hid (HA.out.below hb1)
    clear hq hf hb1
    go_wp2_with fail
    refine (sum_len zs _ n (n + 4) _ HL.out.symm hz F1.out (by omega) (fun h => by cases h) (by omega)).mono ?_
    rintro e w2 ⟨rfl, hb2⟩
    have Q2 := Lib.hid (Q1.out.below hb2)
    have A2 := Lib.hid (A1.out.below hb2)
    have B2 := Lib.hid (ds_below B1.out hb2)
    clear hb2
    go_wp2_with fail
    refine (rdsum_any zs n p cap _ HL.out (by omega) hz A2.out hc hp).mono ?_
    rintro e w3 ⟨rfl, hb3⟩
    have Q3 := Lib.hid (Q2.out.below hb3)
    have A3 := Lib.hid (A2.out.below hb3)
    have B3 := Lib.hid (ds_below B2.out hb3)
    clear hb3
    go_wp2_with (refine wpList_eql_arr rfl 26 _ _ _ rfl 5 32 .u8 Try.underlying26 Try.underlying5 byte1 (Sha.sum zs) (Sha.sum zs) rfl rfl HSL.out HSL.out ?_; rw [decide_eq_true (rfl : Sha.sum zs = Sha.sum zs)])
    refine (kept_any zs n g p cap _ HL.out hz Q3.out A3.out (by omega)).mono ?_
    rintro e w4 ⟨rfl, hb4⟩
    have B4 := Lib.hid (ds_below B3.out hb4)
    clear hb4
    go_wp2_with fail
    refine (awake_any _).mono ?_
    rintro e w5 ⟨rfl, hb5⟩
    go_wp2_with fail
    go_ret
    exact ⟨rfl, ds_below B4.out hb5⟩
end Go.Proofs.Ytpbdajgbahnbjaa
