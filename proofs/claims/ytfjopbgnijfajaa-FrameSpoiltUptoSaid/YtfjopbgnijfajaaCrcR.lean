/-
  The reference's on, More, Sum.
-/
import Derived.Test.YtfjopbgnijfajaaCrcA
import Derived.IntWalk
namespace Go.Proofs.Ytfjopbgnijfajaa
set_option linter.unusedSimpArgs false
set_option linter.unusedVariables false
open Go.RowKit Sha
theorem bit_mod (x : W) : (U x % 2 == 1) = x.getLsbD 0 := by
  unfold U
  rw [Bool.eq_iff_iff, beq_iff_eq]
  have h : x.getLsbD 0 = decide (x.toNat % 2 = 1) := by
    rw [BitVec.getLsbD, Nat.testBit_zero]
  rw [h, decide_eq_true_iff]
  omega
set_option maxHeartbeats 400000 in
theorem ron_any (x : W) (n : Nat) (w : World) (hn : n ≤ 1000) :
    Calls Try.prog 45 #[v32 x, .int .i64 n] w fun e w' => e = .returned (v32 (Crc.on n x)) ∧ w = w' := by
  go_enter Try.func45, Try.ntmps45
  go_wp2
  go_loop [0, 1] (fun v i => ∃ (k : Nat) (y : W), k ≤ n ∧ i = .int .i64 k ∧ v = v32 y ∧ Hid (Crc.on k y = Crc.on n x)) (fun _ i => (intOf i).toNat)
  case atStart => exact ⟨n, x, by omega, rfl, rfl, rfl⟩
  case round =>
    obtain ⟨k, y, hk, rfl, rfl, HE⟩ := hrel
    by_cases hlt : 0 < k
    · have hb := bit_mod y
      obtain ⟨ub1, ub2⟩ := U_bd y
      have HF := Lib.hid (bitOn_if y)
      have HS : Hid (Crc.on (k - 1) (Crc.bitOn y) = Crc.on n x) := by
        show _ = _
        rw [← HE.out, ← Crc.on_succ, show k - 1 + 1 = k by omega]
      cases hc : y.getLsbD 0 with
      | true =>
        rw [hc] at hb
        have HC := Lib.hid hc
        clear hc
        go_wp2_with fail
        go_round
        case rel => exact ⟨k - 1, Crc.bitOn y, by omega, by go_num, by rw [HF.out, HC.out, bit_half, bit_poly]; rfl, HS⟩
        case measure => simp [intOf]; omega
      | false =>
        rw [hc] at hb
        have HC := Lib.hid hc
        clear hc
        go_wp2_with fail
        go_round
        case rel => exact ⟨k - 1, Crc.bitOn y, by omega, by go_num, by rw [HF.out, HC.out, bit_half]; rfl, HS⟩
        case measure => simp [intOf]; omega
    · obtain rfl : k = 0 := by omega
      rw [Crc.on_zero] at HE
      go_wp2_with fail
      go_ret
      exact ⟨ret_int (by rw [HE.out]), rfl⟩
theorem ron_int (n : Int) (w : World) (h : 0 ≤ n ∧ n < 4294967296) :
    Calls Try.prog 45 #[.int .u32 n, .int .i64 8] w fun e w' => e = .returned (v32 (Crc.on 8 (BitVec.ofInt 32 n))) ∧ w = w' := by
  have := ron_any (BitVec.ofInt 32 n) 8 w (by omega)
  rwa [show v32 (BitVec.ofInt 32 n) = .int .u32 n by show Value.int .u32 _ = _; rw [U_ofInt, Int.emod_eq_of_lt h.1 h.2]] at this
theorem xor_byte (x : W) (c : Int) (hc : 0 ≤ c ∧ c ≤ 255) : bits BinOp.xor IntKind.u32 (U x) c = U (x ^^^ BitVec.ofInt 32 c) := by
  have : c = U (BitVec.ofInt 32 c) := by rw [U_ofInt, Int.emod_eq_of_lt (by omega) (by omega)]
  conv => lhs; rw [this]
  rw [U_xor]
set_option maxRecDepth 100000 in
set_option maxHeartbeats 1000000 in
theorem rmore_any (n : Int) (s : W) (hn : n = U s) (zs : List Int) (p : Option Addr) (cap : Nat) (w : World) (hz : ∀ n ∈ zs, 0 ≤ n ∧ n ≤ 255) (hA : At w p (zs.map v8)) (hc : zs.length ≤ cap) (hm : cap ≤ 9223372036854775807) :
    Calls Try.prog 40 #[.int .u32 n, .slice p zs.length cap] w fun e w' => e = .returned (v32 (Crc.more s zs)) ∧ w = w' := by
  subst hn
  obtain ⟨len, hlen⟩ : ∃ n, n = zs.length := ⟨_, rfl⟩
  rw [← hlen] at hc ⊢
  have Hlen := Lib.hid hlen
  have HA := Lib.hid hA
  clear hlen hA
  go_enter Try.func40, Try.ntmps40
  go_wp2_with fail
  go_loop [5, 6] (fun v i => ∃ k : Nat, k ≤ len ∧ i = .int .i64 k ∧ v = v32 (Crc.run (~~~s) (zs.take k))) (fun _ i => len - (intOf i).toNat)
  case atStart => exact ⟨0, by omega, rfl, by rw [U_notmax, List.take_zero, Crc.run_nil]⟩
  case round =>
    obtain ⟨k, hk, rfl, rfl⟩ := hrel
    by_cases hlt : k < len
    · obtain ⟨c, hcc⟩ : ∃ c, c = zs.getD k 0 := ⟨_, rfl⟩
      have hlz : k < zs.length := by rw [← Hlen.out]; exact hlt
      have HT := Lib.hid (Crc.run_take (~~~s) zs k c hlz hcc)
      have hcb : 0 ≤ c ∧ c ≤ 255 := hz c (by rw [hcc, List.getD_eq_getElem?_getD, List.getElem?_eq_getElem hlz]; simp)
      obtain ⟨bb, off, rfl, hcell⟩ := HA.out.addr (by rw [List.length_map]; omega)
      have cc : w.cell? ⟨bb, off + k, none⟩ = some (v8 c) := hcell k _ (by rw [List.getElem?_map, List.getElem?_eq_getElem hlz, hcc, List.getD_eq_getElem?_getD, List.getElem?_eq_getElem hlz]; rfl)
      generalize Crc.run (~~~s) (zs.take k) = x at *
      have px := xor_byte x c hcb
      have HU := Lib.hid (Crc.upd_on x c)
      clear hcc hcell hlz
      obtain ⟨y, hy⟩ : ∃ y, y = x ^^^ BitVec.ofInt 32 c := ⟨_, rfl⟩
      rw [← hy] at px HU
      clear hy
      go_wp2_with (go_at_call 45; refine (ron_any _ 8 _ (by omega)).mono ?_; rintro e w' ⟨rfl, rfl⟩)
      go_round
      case rel => exact ⟨k + 1, by omega, by go_num, by rw [HT.out, HU.out]⟩
      case measure => simp [intOf]; omega
    · obtain rfl : k = len := by omega
      have HF : Hid (Crc.more s zs = ~~~(Crc.run (~~~s) (zs.take k))) := by show _ = _; rw [Hlen.out, List.take_length, Crc.more_eq]
      go_wp2_with fail
      go_ret
      exact ⟨ret_int (by rw [HF.out, U_notmax]), rfl⟩
set_option maxHeartbeats 400000 in
theorem rsum_any (zs : List Int) (len : Nat) (p : Option Addr) (cap : Nat) (w : World) (hl : len = zs.length) (hz : ∀ n ∈ zs, 0 ≤ n ∧ n ≤ 255) (hA : At w p (zs.map v8)) (hc : len ≤ cap) (hm : cap ≤ 9223372036854775807) :
    Calls Try.prog 32 #[.slice p len cap] w fun e w' => e = .returned (v32 (Crc.sum zs)) ∧ w = w' := by
  subst hl
  have HA := Lib.hid hA
  clear hA
  go_enter Try.func32, Try.ntmps32
  go_wp2_with (go_at_call 40; refine (rmore_any 0 0#32 rfl zs _ _ _ hz HA.out hc hm).mono ?_; rintro e w1 ⟨rfl, rfl⟩)
  go_ret
  exact ⟨ret_int (by rw [Crc.sum_eq]), rfl⟩
end Go.Proofs.Ytfjopbgnijfajaa
