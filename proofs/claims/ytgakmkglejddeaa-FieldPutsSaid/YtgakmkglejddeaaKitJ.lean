/-
  The kit's SameItem and SameItems.
-/
import Derived.Test.YtgakmkglejddeaaKitI
import Derived.Test.YtgakmkglejddeaaOpq
namespace Go.Proofs.Ytgakmkglejddeaa
set_option linter.unusedSimpArgs false
set_option linter.unusedVariables false
open Go.RowKit Sha
open Fld (Itm)
attribute [local go_sem ↓] execOp_loadItem execOp_loadId
theorem itm_ext (x y : Itm) : decide (x = y) = (decide (x.N = y.N) && decide (x.B = y.B) && decide (x.D = y.D)) := by
  cases x; cases y
  simp [Bool.decide_and, Bool.and_assoc]
set_option maxRecDepth 100000 in
set_option maxHeartbeats 1000000 in
theorem sameItem_any (x y : Itm) (q r : Option Addr) (c d : Nat) (w : World) (hx : GoodI w x q c) (hy : GoodI w y r d) :
    Calls Try.prog 32 #[.agg (icells x q c).toArray, .agg (icells y r d).toArray] w fun e w' => e = .returned (.bool (decide (x = y))) ∧ Below w.heap.size w w' := by
  have HX := Lib.hid hx
  have HY := Lib.hid hy
  have HE := Lib.hid (itm_ext x y)
  obtain ⟨m, hm⟩ : ∃ m, m = x.B.length := ⟨_, rfl⟩
  obtain ⟨k, hk⟩ : ∃ k, k = y.B.length := ⟨_, rfl⟩
  have HM := Lib.hid hm
  have HK := Lib.hid hk
  clear hx hy hm hk
  obtain ⟨bn, hbn⟩ : ∃ b, b = decide (x.N = y.N) := ⟨_, rfl⟩
  obtain ⟨bb, hbb⟩ : ∃ b, b = decide (x.B = y.B) := ⟨_, rfl⟩
  have tn : (x.N == y.N) = bn := by rw [hbn]; rw [Bool.eq_iff_iff]; simp
  have HBN := Lib.hid hbn
  have HBB := Lib.hid hbb
  clear hbn hbb
  cases bn with
  | false =>
    go_enter Try.func32, Try.ntmps32
    go_wp2_with (first
      | ((refine wpList_box_new rfl 40 (.tmp 0) rfl _ rfl ?_); (intro w1 g K1 B1 G1); (have a0 : w1.cell? ⟨g, 0, none⟩ = some (.int .i64 x.N) := (K1.cell 0).trans (icells_0 _ _ _)); (have HK1 := Lib.hid K1); (have HB1 := Lib.hid B1); clear K1 B1)
      | ((refine wpList_box_new rfl 40 (.tmp 1) rfl _ rfl ?_); (intro w2 g2 K2 B2 G2); (have a0' : w2.cell? ⟨g, 0, none⟩ = some (.int .i64 x.N) := ((HK1.out.below B2 HK1.out.lt).cell 0).trans (icells_0 _ _ _)); (have b0 : w2.cell? ⟨g2, 0, none⟩ = some (.int .i64 y.N) := (K2.cell 0).trans (icells_0 _ _ _)); (have HB2 := Lib.hid (HB1.out.trans (B2.mono HB1.out.size))); clear K2 B2))
    go_ret
    exact ⟨congrArg (fun b => Ending.returned (Value.bool b)) (by rw [HE.out, ← HBN.out]; rfl), HB2.out⟩
  | true =>
    cases bb with
    | false =>
      go_enter Try.func32, Try.ntmps32
      go_wp2_with (first
      | ((refine wpList_box_new rfl 40 (.tmp 0) rfl _ rfl ?_); (intro w1 g K1 B1 G1); (have a0 : w1.cell? ⟨g, 0, none⟩ = some (.int .i64 x.N) := (K1.cell 0).trans (icells_0 _ _ _)); (have HK1 := Lib.hid K1); (have HB1 := Lib.hid B1); clear K1 B1)
      | ((refine wpList_box_new rfl 40 (.tmp 1) rfl _ rfl ?_); (intro w2 g2 K2 B2 G2); (have hk2 := HK1.out.below B2 HK1.out.lt); (have a0' : w2.cell? ⟨g, 0, none⟩ = some (.int .i64 x.N) := (hk2.cell 0).trans (icells_0 _ _ _)); (have b0 : w2.cell? ⟨g2, 0, none⟩ = some (.int .i64 y.N) := (K2.cell 0).trans (icells_0 _ _ _)); (have a1' : w2.cell? ⟨g, 1, none⟩ = some (.slice q m c) := (by rw [HM.out]; exact (hk2.cell 1).trans (icells_1 _ _ _))); (have b1 : w2.cell? ⟨g2, 1, none⟩ = some (.slice r k d) := (by rw [HK.out]; exact (K2.cell 1).trans (icells_1 _ _ _))); (have la : (loadOp 38 (.pointer (some ⟨g, 2, none⟩))).run Try.prog w2 = .ok (.value (.agg (x.D.map v8).toArray)) w2 := load_id (o := 0) HX.out.ok hk2.range); (have lb : (loadOp 38 (.pointer (some ⟨g2, 2, none⟩))).run Try.prog w2 = .ok (.value (.agg (y.D.map v8).toArray)) w2 := load_id (o := 0) HY.out.ok K2.range); (have HB2 := Lib.hid (HB1.out.trans (B2.mono HB1.out.size))); clear K2 B2 hk2)
      | (go_at_call 13; refine (same_any x.B y.B m k q r c d w2 HM.out.symm HK.out.symm (HX.out.at_.below HB2.out) (HY.out.at_.below HB2.out) HX.out.ok.B HY.out.ok.B).mono ?_; rw [← HBB.out]; rintro e w' ⟨rfl, rfl⟩)
      | (refine BigFrame.wpList_want rfl (fun K hK => wp_eql_arr 38 (.tmp 19) (.tmp 21) _ rfl 5 32 .u8 Try.underlying38 Try.underlying5 kslice1 x.D y.D rfl rfl HX.out.ok.len HY.out.ok.len (hK _ _ ?_))))
      go_ret
      exact ⟨congrArg (fun b => Ending.returned (Value.bool b)) (by rw [HE.out, ← HBN.out, ← HBB.out]; rfl), HB2.out⟩
    | true =>
      go_enter Try.func32, Try.ntmps32
      go_wp2_with (first
      | ((refine wpList_box_new rfl 40 (.tmp 0) rfl _ rfl ?_); (intro w1 g K1 B1 G1); (have a0 : w1.cell? ⟨g, 0, none⟩ = some (.int .i64 x.N) := (K1.cell 0).trans (icells_0 _ _ _)); (have HK1 := Lib.hid K1); (have HB1 := Lib.hid B1); clear K1 B1)
      | ((refine wpList_box_new rfl 40 (.tmp 1) rfl _ rfl ?_); (intro w2 g2 K2 B2 G2); (have hk2 := HK1.out.below B2 HK1.out.lt); (have a0' : w2.cell? ⟨g, 0, none⟩ = some (.int .i64 x.N) := (hk2.cell 0).trans (icells_0 _ _ _)); (have b0 : w2.cell? ⟨g2, 0, none⟩ = some (.int .i64 y.N) := (K2.cell 0).trans (icells_0 _ _ _)); (have a1' : w2.cell? ⟨g, 1, none⟩ = some (.slice q m c) := (by rw [HM.out]; exact (hk2.cell 1).trans (icells_1 _ _ _))); (have b1 : w2.cell? ⟨g2, 1, none⟩ = some (.slice r k d) := (by rw [HK.out]; exact (K2.cell 1).trans (icells_1 _ _ _))); (have la : (loadOp 38 (.pointer (some ⟨g, 2, none⟩))).run Try.prog w2 = .ok (.value (.agg (x.D.map v8).toArray)) w2 := load_id (o := 0) HX.out.ok hk2.range); (have lb : (loadOp 38 (.pointer (some ⟨g2, 2, none⟩))).run Try.prog w2 = .ok (.value (.agg (y.D.map v8).toArray)) w2 := load_id (o := 0) HY.out.ok K2.range); (have HB2 := Lib.hid (HB1.out.trans (B2.mono HB1.out.size))); clear K2 B2 hk2)
      | (go_at_call 13; refine (same_any x.B y.B m k q r c d w2 HM.out.symm HK.out.symm (HX.out.at_.below HB2.out) (HY.out.at_.below HB2.out) HX.out.ok.B HY.out.ok.B).mono ?_; rw [← HBB.out]; rintro e w' ⟨rfl, rfl⟩)
      | (refine BigFrame.wpList_want rfl (fun K hK => wp_eql_arr 38 (.tmp 19) (.tmp 21) _ rfl 5 32 .u8 Try.underlying38 Try.underlying5 kslice1 x.D y.D rfl rfl HX.out.ok.len HY.out.ok.len (hK _ _ ?_))))
      go_ret
      exact ⟨congrArg (fun b => Ending.returned (Value.bool b)) (by rw [HE.out, ← HBN.out, ← HBB.out]; simp), HB2.out⟩
theorem take_eq_succ {xs ys : List Itm} {k : Nat} (hx : k < xs.length) (hy : k < ys.length) (h : xs.take k = ys.take k) : (xs.take (k + 1) = ys.take (k + 1)) ↔ xs[k] = ys[k] := by
  rw [List.take_succ_eq_append_getElem hx, List.take_succ_eq_append_getElem hy, h]
  exact ⟨fun e => by have := List.append_cancel_left e; simpa using this, fun e => by rw [e]⟩
theorem take_ne_succ {xs ys : List Itm} {k : Nat} (h : xs.take k ≠ ys.take k) : xs ≠ ys := fun e => h (by rw [e])
set_option maxRecDepth 100000 in
set_option maxHeartbeats 1000000 in
theorem sameItems_any (xs ys : List Itm) (p q : Option Addr) (n m c d : Nat) (w : World) (hx : Told w p n c xs) (hy : Told w q m d ys) :
    Calls Try.prog 17 #[.slice p n c, .slice q m d] w fun e w' => e = .returned (.bool (decide (xs = ys))) ∧ Below w.heap.size w w' := by
  have HX := Lib.hid hx
  have HY := Lib.hid hy
  have m1 := hx.max
  have m2 := hx.le
  have m3 := hy.max
  have m4 := hy.le
  clear hx hy
  by_cases hnm : n = m
  · have t0 : ((n : Int) == (m : Int)) = true := by rw [beq_iff_eq]; omega
    have HNM := Lib.hid hnm
    clear hnm
    go_enter Try.func17, Try.ntmps17
    go_wp2_with fail
    go_loopw [5, 6] (fun s i wr => ∃ (k : Nat) (sb : Bool), k ≤ n ∧ i = .int .i64 k ∧ s = .bool sb ∧ Hid (sb = decide (xs.take k = ys.take k)) ∧ Hid (Below w.heap.size w wr)) (fun _ i _ => n - (intOf i).toNat)
    case atStart => exact ⟨0, true, by omega, rfl, rfl, Lib.hid (by simp), Below.refl _ _⟩
    case round =>
      obtain ⟨k, sb, hk, rfl, rfl, HS, HB⟩ := hrel
      cases sb with
      | false =>
        have HE := Lib.hid (show decide (xs = ys) = false by have := take_ne_succ (of_decide_eq_false HS.out.symm); simpa using this)
        go_wp2_with fail
        go_ret
        exact ⟨congrArg (fun b => Ending.returned (Value.bool b)) HE.out.symm, HB.out⟩
      | true =>
        by_cases hlt : k < n
        · have hkx : k < xs.length := by rw [← HX.out.len]; exact hlt
          have hky : k < ys.length := by rw [← HY.out.len, ← HNM.out]; exact hlt
          obtain ⟨b, off, q1, c1, rfl, hr, hg⟩ := (HX.out.below HB.out).items.get k hkx
          obtain ⟨b2, off2, q2, c2, rfl, hr2, hg2⟩ := (HY.out.below HB.out).items.get k hky
          have HT := Lib.hid (take_eq_succ hkx hky (of_decide_eq_true HS.out.symm))
          obtain ⟨x, hx⟩ : ∃ x, x = xs[k] := ⟨_, rfl⟩
          obtain ⟨y, hy⟩ : ∃ y, y = ys[k] := ⟨_, rfl⟩
          rw [← hx] at hr hg HT
          rw [← hy] at hr2 hg2 HT
          have hkm : (k : Int) < (m : Int) := by have := HNM.out; omega
          have la : (loadOp 40 (.pointer (some ⟨b, off + k * 34, none⟩))).run Try.prog wr.drew = .ok (.value (.agg (icells x q1 c1).toArray)) wr.drew := load_at hg.ok hr
          have lb : (loadOp 40 (.pointer (some ⟨b2, off2 + k * 34, none⟩))).run Try.prog wr.drew = .ok (.value (.agg (icells y q2 c2).toArray)) wr.drew := load_at hg2.ok hr2
          have HG := Lib.hid hg
          have HG2 := Lib.hid hg2
          clear hr hr2 hg hg2 hx hy hkx hky
          go_wp2_with fail
          go_region_law ((go_simp; go_at_call 32; refine (sameItem_any x y q1 q2 c1 c2 wr.drew (HG.out.carry (fun _ _ h => h)) (HG2.out.carry (fun _ _ h => h))).mono ?_; rintro e w3 ⟨rfl, hb3⟩; have HB3 := Lib.hid (HB.out.drew.trans (hb3.mono (show w.heap.size ≤ wr.drew.heap.size from HB.out.size))); clear hb3))
          all_goals
            go_wp2_with fail
            go_roundw
            case rel => exact ⟨k + 1, decide (x = y), by omega, by go_num, rfl, Lib.hid (by rw [decide_eq_decide]; exact HT.out.symm), HB3⟩
            case measure => simp [intOf]; omega
        · obtain rfl : k = n := by omega
          have HE := Lib.hid (show decide (xs = ys) = true by
            have h1 := of_decide_eq_true HS.out.symm
            rw [List.take_of_length_le (by rw [← HX.out.len]; exact Nat.le_refl _), List.take_of_length_le (by rw [← HY.out.len, ← HNM.out]; exact Nat.le_refl _)] at h1
            simpa using h1)
          go_wp2_with fail
          go_ret
          exact ⟨congrArg (fun b => Ending.returned (Value.bool b)) HE.out.symm, HB.out⟩
  · have t0 : ((n : Int) == (m : Int)) = false := by rw [beq_eq_false_iff_ne]; omega
    have HE := Lib.hid (show decide (xs = ys) = false by
      rw [decide_eq_false_iff_not]; intro e; rw [HX.out.len, HY.out.len, e] at hnm; exact hnm rfl)
    clear hnm
    go_enter Try.func17, Try.ntmps17
    go_wp2_with fail
    go_loopw [5, 6] (fun s i wr => i = .int .i64 0 ∧ s = .bool false ∧ w = wr) (fun _ i _ => n - (intOf i).toNat)
    case atStart => exact ⟨rfl, rfl, rfl⟩
    case round =>
      obtain ⟨rfl, rfl, rfl⟩ := hrel
      go_wp2_with fail
      go_ret
      exact ⟨congrArg (fun b => Ending.returned (Value.bool b)) HE.out.symm, Below.refl _ _⟩
end Go.Proofs.Ytgakmkglejddeaa
