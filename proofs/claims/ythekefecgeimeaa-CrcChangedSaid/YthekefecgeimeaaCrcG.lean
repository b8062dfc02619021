/-
  The law CrcChanged, walked.
-/
import Derived.Test.YthekefecgeimeaaCrcE
namespace Go.Proofs.Ythekefecgeimeaa
set_option linter.unusedSimpArgs false
set_option linter.unusedVariables false
open Go.RowKit Sha
theorem bits_u8 (a b : Int) : 0 ≤ bits BinOp.xor IntKind.u8 a b ∧ bits BinOp.xor IntKind.u8 a b ≤ 255 := by
  have h : bits BinOp.xor IntKind.u8 a b = IntKind.u8.wrap ((BitVec.ofInt 8 a ^^^ BitVec.ofInt 8 b).toNat : Int) := rfl
  rw [h, IntKind.wrap_u8]; omega
theorem U_inj (a b : W) (h : U a = U b) : a = b := by rw [← ofInt_U a, h, ofInt_U]
theorem same_b (xs ys : List Int) (b : Bool) (n m : Nat) (p q : Option Addr) (c d : Nat) (w : World) (h : decide (xs = ys) = b) (hn : xs.length = n) (hm : ys.length = m) (hx : At w p (xs.map v8)) (hy : At w q (ys.map v8)) (bx : ∀ n ∈ xs, 0 ≤ n ∧ n ≤ 255) (by_ : ∀ n ∈ ys, 0 ≤ n ∧ n ≤ 255) :
    Calls Try.prog 21 #[.slice p n c, .slice q m d] w fun e w' => e = .returned (.bool b) ∧ w = w' :=
  (same_any xs ys n m p q c d w hn hm hx hy bx by_).mono fun _ _ ⟨he, hw⟩ => ⟨by rw [he, h], hw⟩
theorem own_blk {w : World} {B n : Nat} {e : TypeId} {v : Value} {xs : List Value} (h : w.ownsRow B e 1 v n xs) (hn : 0 < n) : ∃ g cap rest, v = .slice (some ⟨g, 0, none⟩) n cap ∧ B ≤ g ∧ n ≤ cap ∧ cap ≤ maxLen ∧ Blk w g (xs ++ rest) e := by
  obtain ⟨_, h⟩ := h
  rcases h with ⟨_, h0⟩ | ⟨g, cap, cur, hv, hg, hh, h1, h2, h3, h4⟩
  · omega
  · refine ⟨g, cap, cur.toList.drop n, hv, hg, h1, h2, ?_⟩
    rw [Nat.mul_one] at h4
    rw [← h4, List.take_append_drop]
    unfold Blk; simpa using hh
theorem Blk.at {w : World} {g : Nat} {xs rest : List Value} {t : TypeId} (h : Blk w g (xs ++ rest) t) : At w (some ⟨g, 0, none⟩) xs := by
  refine Or.inr ⟨g, 0, rfl, fun i v hi => ?_⟩
  rw [Nat.zero_add, h.cell]
  rw [List.getElem?_append_left]
  · exact hi
  · by_cases hl : i < xs.length
    · exact hl
    · rw [List.getElem?_eq_none (by omega)] at hi; cases hi
theorem Blk.front_set {w : World} {g : Nat} {ys : List Int} {rest : List Value} {t : TypeId} (h : Blk w g (ys.map v8 ++ rest) t) (i : Nat) (hi : i < ys.length) (x : Int) : Blk (w.setCell ⟨g, i, none⟩ (v8 x)) g ((ys.set i x).map v8 ++ rest) t := by
  have := h.set i (v8 x)
  rwa [List.set_append_left _ _ (by simpa using hi), ← List.map_set] at this
theorem fin_sum (ys zs : List Int) (pl n : Nat) (hy : ys.length = n) (hz : zs.length = n) (hp : pl ≤ n) (by_ : ∀ n ∈ ys, 0 ≤ n ∧ n ≤ 255) (bz : ∀ n ∈ zs, 0 ≤ n ∧ n ≤ 255) (h : ∀ m, m < pl ∨ pl + 4 ≤ m → ys[m]? = zs[m]?) :
    (U (Crc.sum ys) == U (Crc.sum zs)) = decide (ys = zs) := by
  rw [Bool.eq_iff_iff, beq_iff_eq, decide_eq_true_iff]
  constructor
  · intro hs
    exact Crc.sum_changed ys zs pl (by omega) (by omega) by_ bz h (U_inj _ _ hs)
  · intro hs; rw [hs]
set_option maxRecDepth 100000 in
set_option maxHeartbeats 1000000 in
theorem changed_any (zs : List Int) (n : Nat) (p : Option Addr) (cap : Nat) (f : Int) (y : W) (w : World) (hl : zs.length = n) (hA : At w p (zs.map v8)) (hc : n ≤ cap) (hm : cap ≤ maxLen) (hp : p = none → cap = 0) (hz : ∀ n ∈ zs, 0 ≤ n ∧ n ≤ 255)
    (hf : -9223372036854775808 ≤ f ∧ f ≤ 9223372036854775807) :
    Calls Try.prog 7 #[.slice p n cap, .int .i64 f, v32 y] w fun e w' => e = .returned (.bool true) ∧ Below w.heap.size w w' := by
  unfold maxLen at hm
  have HA := Lib.hid hA
  have HL := Lib.hid hl
  clear hA hl
  by_cases hlt : 3000 < n
  · go_enter Try.func7, Try.ntmps7
    go_wp2_with fail
    refine (awake_any _).mono ?_
    rintro e w1 ⟨rfl, hb1⟩
    go_wp2_with fail
    go_ret
    exact ⟨rfl, hb1⟩
  by_cases h0 : n = 0
  · subst h0
    go_enter Try.func7, Try.ntmps7
    go_wp2_with fail
    refine (awake_any _).mono ?_
    rintro e w1 ⟨rfl, hb1⟩
    go_wp2_with fail
    go_ret
    exact ⟨rfl, hb1⟩
  have t0 : ((n : Int) == 0) = false := by rw [beq_eq_false_iff_ne]; omega
  have n0 : 0 < n := by omega
  clear h0
  go_enter Try.func7, Try.ntmps7
  go_wp2_with fail
  refine (awake_any _).mono ?_
  rintro e w1 ⟨rfl, hb1⟩
  have A1 := Lib.hid (HA.out.below hb1)
  have B1 := Lib.hid hb1
  clear hb1
  go_wp2_with fail
  have pf := pickOf_bd f (n : Int) (by omega)
  refine (pick_any f _ _ (by omega) (by omega) hf).mono ?_
  rintro e w' ⟨rfl, rfl⟩
  generalize pickOf f (n : Int) = pl at *
  obtain ⟨pl, rfl⟩ := Int.eq_ofNat_of_zero_le pf.1
  have p1 : pl < n := by omega
  clear pf
  go_wp2_with fail
  refine (copy_any zs n p cap w1 HL.out A1.out hc hp (by omega)).mono ?_
  rintro e w2 ⟨v, rfl, hown, hb2⟩
  obtain ⟨g, c2, rest, rfl, hg, hgc, hgm, hbl⟩ := own_blk hown n0
  unfold maxLen at hgm
  have B2 := Lib.hid (below_on B1.out hb2)
  have hg1 : w.heap.size ≤ g := by have := B1.out.size; omega
  have BL := Lib.hid hbl
  clear hown hb2 hbl
  go_wp2_with fail
  go_loopw [9] (fun i wr => ∃ (k : Nat) (ys : List Int), k ≤ 4 ∧ i = .int .i64 k ∧ Hid (ys.length = n ∧ (∀ n ∈ ys, 0 ≤ n ∧ n ≤ 255) ∧ (∀ m, m < pl ∨ pl + 4 ≤ m → ys[m]? = zs[m]?)) ∧ Below w.heap.size w wr ∧ Blk wr g (ys.map v8 ++ rest) 5) (fun i _ => 4 - (intOf i).toNat)
  case atStart => exact ⟨0, zs, by omega, rfl, ⟨HL.out, hz, fun _ _ => rfl⟩, B2.out, BL.out⟩
  case round =>
    obtain ⟨k, ys, hk, rfl, HY, hb, hbl⟩ := hrel
    by_cases hin : k < 4 ∧ pl + k < n
    · obtain ⟨hk4, hpk⟩ := hin
      obtain ⟨u, hu⟩ : ∃ u, u = ys.getD (pl + k) 0 := ⟨_, rfl⟩
      have hlen : (ys.map v8).length = n := by rw [List.length_map]; exact HY.out.1
      have hcell : wr.cell? ⟨g, pl + k, none⟩ = some (v8 u) := by
        rw [hbl.cell, List.getElem?_append_left (by omega), List.getElem?_map, hu, List.getD_eq_getElem?_getD, List.getElem?_eq_getElem (by rw [HY.out.1]; exact hpk)]; rfl
      have hfr : wr.frozen? ⟨g, pl + k, none⟩ = false := hbl.free _
      have HBL := Lib.hid hbl
      have HB := Lib.hid hb
      clear hbl hb hu hlen
      go_wp2_with fail
      go_roundw
      case rel =>
        refine ⟨k + 1, ys.set (pl + k) _, by omega, by go_num, ?_, HB.out.setCell (by simp; omega) _, HBL.out.front_set (pl + k) (by rw [HY.out.1]; exact hpk) _⟩
        obtain ⟨y1, y2, y3⟩ := HY.out
        refine ⟨by rw [List.length_set]; exact y1, fun m hm => ?_, fun m hm => ?_⟩
        · rcases List.mem_or_eq_of_mem_set hm with h | h
          · exact y2 m h
          · rw [h]; exact bits_u8 _ _
        · rw [List.getElem?_set_ne (by omega)]; exact y3 m hm
      case measure => simp [intOf]; omega
    · have HBL := Lib.hid hbl
      have HB := Lib.hid hb
      have HR := Lib.hid (fin_sum ys zs pl n HY.out.1 HL.out (by omega) HY.out.2.1 hz HY.out.2.2)
      obtain ⟨b, hbd⟩ : ∃ b, decide (ys = zs) = b := ⟨_, rfl⟩
      rw [hbd] at HR
      have HD := Lib.hid hbd
      clear hbl hb hbd
      by_cases hk4 : k < 4
      all_goals
        have hin2 : k < 4 → n ≤ pl + k := by intro h; omega
        first | (have hpk := hin2 hk4) | skip
        clear hin hin2
        go_wp2_with fail
        refine (csum_any ys n _ _ wr HY.out.1.symm HY.out.2.1 HBL.out.at hgc (by omega)).mono ?_
        rintro e w3 ⟨rfl, hb3⟩
        have BL3 := Lib.hid (HBL.out.below hb3 HBL.out.lt)
        have B3 := Lib.hid (below_on HB.out hb3)
        clear hb3
        go_wp2_with fail
        refine (csum_any zs n p cap w3 HL.out.symm hz (HA.out.below B3.out) hc (by omega)).mono ?_
        rintro e w4 ⟨rfl, hb4⟩
        have BL4 := Lib.hid (BL3.out.below hb4 BL3.out.lt)
        have B4 := Lib.hid (below_on B3.out hb4)
        clear hb4
        go_wp2_with fail
        refine (same_b ys zs b n n _ p c2 cap w4 HD.out HY.out.1 HL.out BL4.out.at (HA.out.below B4.out) HY.out.2.1 hz).mono ?_
        rintro e w' ⟨rfl, rfl⟩
        have hr := HR.out
        cases b
        all_goals
          go_wp2_with fail
          go_ret
          exact ⟨rfl, B4.out⟩
end Go.Proofs.Ythekefecgeimeaa
