/-
  The reference's filled.
-/
import Derived.Test.YtpbdajgbahnbjaaRefA
import Derived.Test.YtpbdajgbahnbjaaOwn
namespace Go.Proofs.Ytpbdajgbahnbjaa
set_option linter.unusedSimpArgs false
set_option linter.unusedVariables false
open Go.RowKit Sha
set_option maxRecDepth 100000 in
set_option maxHeartbeats 2000000 in
theorem filled_any (zs : List Int) (len : Nat) (p : Option Addr) (cap : Nat) (w : World) (hn : zs.length = len) (hl : len ≤ 1000) (hA : At w p (zs.map v8)) (hc : len ≤ cap) (hp : p = none → cap = 0) :
    Calls Try.prog 30 #[.slice p len cap] w
      fun e w' => ∃ v, e = .returned v ∧ w'.ownsRow w.heap.size 5 1 v (filled zs).length ((filled zs).map v8) ∧ Below w.heap.size w w' := by
  have Hlen := Lib.hid hn
  have HA := Lib.hid hA
  have hown0 := World.ownsRow_made (base := w.heap.size) (size := 1) (e := 5) w #[] 0 (Nat.le_refl _) (by decide) rfl
  have HO0 := Lib.hid hown0
  clear hn hA hown0
  go_enter Try.func30, Try.ntmps30
  go_wp2_with (first
    | (at_builtin; refine wpList_app rfl (.tmp 6) (.tmp 7) 22 rfl w.heap.size 5 Try.underlying22 byte_info rfl _ 0 [] rfl HO0.out p len cap (zs.map v8) rfl (HA.out.alloc _) (by simp [Hlen.out]) hp hc (one8l _) (by omega) (by unfold maxLen; omega) (by simp) ?_; intro v2 w2 hown2 _ hb2 hs2 _; simp only [Nat.zero_add, List.nil_append] at hown2)
    | (at_builtin; refine wpList_app rfl (.tmp 9) (.tmp 10) 22 rfl w.heap.size 5 Try.underlying22 byte_info rfl _ _ _ rfl (hown2.alloc _) _ 1 1 [v8 128] rfl (at_one _ _ _) rfl (by simp) (Nat.le_refl _) (one8l [128]) (by omega) (by unfold maxLen; omega) (by simp; omega) ?_; intro v3 w3 hown3 _ hb3 hs3 _))
  have hb4 : Below w.heap.size w w3 := ((((Below.refl w.heap.size w).alloc (Nat.le_refl _) _).trans hb2).alloc hs2 _).trans hb3
  have hown4 : w3.ownsRow w.heap.size 5 1 v3 (len + 1) ((zs ++ [128]).map v8) := by simpa using hown3
  clear hown2 hb2 hs2 hown3 hb3
  go_loopw [3] (fun v wr => ∃ k : Nat, k ≤ noughts (len % 64) ∧ wr.ownsRow w.heap.size 5 1 v (len + 1 + k) ((zs ++ [128] ++ List.replicate k 0).map v8) ∧ Below w.heap.size w wr ∧ w.heap.size ≤ wr.heap.size) (fun v _ => 2000 - lenOf v)
  case atStart => exact ⟨0, by omega, by simpa using hown4, hb4, hs3⟩
  case round =>
    clear hown4 hb4 hs3
    obtain ⟨k, hk, hown, hb, hs⟩ := hrel
    obtain ⟨g, c, rfl, hg, hmc, hcm, hgs⟩ := own_form hown (by omega)
    have HK := Lib.hid hk
    have hle := noughts_bd len
    have n1 := noughts_mod len k
    have n2 := noughts_end len
    obtain ⟨m, hm⟩ : ∃ m, m = len + 1 + k := ⟨_, rfl⟩
    rw [← hm] at hown hmc n1 ⊢
    have hmle : m ≤ 1121 := by omega
    have hm1 : 1 ≤ m := by omega
    have HM := Lib.hid hm
    by_cases hlt : k < noughts (len % 64)
    · have t1 : (((m : Int) % 64) != 56) = true := by rw [bne_iff_ne]; have := n1 hlt; omega
      have t2 : (((m : Int) % 64) == 56) = false := by rw [beq_eq_false_iff_ne]; have := n1 hlt; omega
      have HO := Lib.hid hown
      clear hown hm n1 n2 hk hle
      go_wp2_with (at_builtin; refine wpList_app rfl (.tmp 16) (.tmp 17) 22 rfl w.heap.size 5 Try.underlying22 byte_info rfl _ _ _ rfl (HO.out.alloc _) _ 1 1 [v8 0] rfl (at_one _ _ _) rfl (by simp) (Nat.le_refl _) (one8l [0]) (by omega) (by unfold maxLen; omega) (by simp; omega) ?_; intro v3 w3 hown3 _ hb3 hs3 _)
      have hown5 : w3.ownsRow w.heap.size 5 1 v3 (len + 1 + (k + 1)) ((zs ++ [128] ++ List.replicate (k + 1) 0).map v8) := by
        rw [HM.out] at hown3
        rw [List.replicate_succ', show len + 1 + (k + 1) = len + 1 + k + 1 by omega]; simpa using hown3
      go_roundw
      case rel => exact ⟨k + 1, by omega, hown5, (hb.alloc hs _).trans hb3, hs3⟩
      case measure =>
        obtain ⟨g', c', rfl, _⟩ := own_form hown5 (by omega)
        have := HM.out
        simp [lenOf]; omega
    · have hkn : k = noughts (len % 64) := by omega
      have t1 : (((m : Int) % 64) != 56) = false := by rw [bne_eq_false_iff_eq]; rw [hkn] at hm; omega
      have t2 : (((m : Int) % 64) == 56) = true := by rw [beq_iff_eq]; rw [hkn] at hm; omega
      have HO : Hid (wr.ownsRow w.heap.size 5 1 (.slice (some ⟨g, 0, none⟩) m c) m ((zs ++ [128] ++ List.replicate (noughts (len % 64)) 0).map v8)) := by rw [← hkn]; exact hown
      clear hown hm n1 n2 hk hle hkn HK HM
      go_wp2_with fail
      obtain ⟨base, hbase⟩ : ∃ l, l = zs ++ [128] ++ List.replicate (noughts (len % 64)) 0 := ⟨_, rfl⟩
      rw [← hbase] at HO
      have HB := Lib.hid hbase
      clear hbase
      go_loopw [3, 5] (fun v i wr => ∃ k : Nat, k ≤ 8 ∧ i = .int .i64 (7 - (k : Int)) ∧ wr.ownsRow w.heap.size 5 1 v (m + k) ((base ++ lenUpto len k).map v8) ∧ Below w.heap.size w wr ∧ w.heap.size ≤ wr.heap.size) (fun _ i _ => (intOf i + 1).toNat)
      case atStart => exact ⟨0, by omega, rfl, by rw [lenUpto_zero, List.append_nil]; exact HO.out, hb, hs⟩
      case round =>
        clear HO hb hs hg hgs hmc
        obtain ⟨k, hk, rfl, hown, hb, hs⟩ := hrel
        obtain ⟨g, c, rfl, hg, hmc, hcm, hgs⟩ := own_form hown (by omega)
        have HO := Lib.hid hown
        clear hown
        by_cases hlt : k < 8
        · obtain ⟨j, hj⟩ : ∃ j, j + k = 7 := ⟨7 - k, by omega⟩
          have e1 : (7 : Int) - (k : Int) = (j : Int) := by omega
          rw [e1]
          have HJ := Lib.hid hj
          have j7 : j ≤ 7 := by omega
          clear e1 hj
          go_wp2_with (at_builtin; refine wpList_app rfl (.tmp 27) (.tmp 34) 22 rfl w.heap.size 5 Try.underlying22 byte_info rfl _ _ _ rfl (HO.out.alloc _) _ 1 1 [_] rfl (at_one _ _ _) rfl (by simp) (Nat.le_refl _) (by simp [Value.oneCell']) (by omega) (by unfold maxLen; omega) (by simp; omega) ?_; intro v3 w3 hown3 _ hb3 hs3 _)
          have hown5 : w3.ownsRow w.heap.size 5 1 v3 (m + (k + 1)) ((base ++ lenUpto len (k + 1)).map v8) := by
            rw [lenUpto_succ]
            have h56 : 56 - 8 * k = 8 * j := by have := HJ.out; omega
            have hlb : lenByte len k = (len : Int) * 8 / 2 ^ (8 * j) % 256 := by
              unfold lenByte
              rw [h56, show IntKind.u64.wrap ((len : Int) * 8) = (len : Int) * 8 by rw [IntKind.wrap_u64]; omega]
            rw [hlb]
            simpa [Nat.add_assoc] using hown3
          go_roundw
          case rel => exact ⟨k + 1, by omega, by rw [show (7 : Int) - ((k + 1 : Nat) : Int) = (j : Int) - 1 by have := HJ.out; omega], hown5, (hb.alloc hs _).trans hb3, hs3⟩
          case measure => simp [intOf]; try omega
        · obtain rfl : k = 8 := by omega
          have HL : Hid (m + 8 = (filled zs).length ∧ base ++ lenUpto len 8 = filled zs) := by
            have e : base ++ lenUpto len 8 = filled zs := by rw [HB.out, filled_eq, Hlen.out]
            refine ⟨?_, e⟩
            have := HO.out.1
            rw [e] at this; simpa using this.symm
          go_wp2_with fail
          go_ret
          refine ⟨_, rfl, ?_, hb⟩
          rw [← HL.out.1, ← HL.out.2]
          exact HO.out
end Go.Proofs.Ytpbdajgbahnbjaa
