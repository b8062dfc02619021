/-
  The contracts of byteMatrix, times, squared, bytesOn and Join.
-/
import Derived.Test.YthekefecgeimeaaCrcA
import Derived.IntWalk
namespace Go.Proofs.Ythekefecgeimeaa
set_option linter.unusedSimpArgs false
set_option linter.unusedVariables false
open Go.RowKit Sha
theorem infoMat : (Try.prog.info? 46).map (fun i => i.zero) = some (some (.agg ((Crc.matUpto id 0).map v32).toArray)) := by kernel_rfl
theorem matUpto_none (f : W → W) : Crc.matUpto f 0 = Crc.matUpto id 0 := by rw [Crc.matUpto_zero, Crc.matUpto_zero]
theorem sizeMat : (Try.prog.info? 46).map (fun i => i.size) = some 32 := by kernel_rfl
theorem one_shl (k : Nat) (hk : k < 32) : BitVec.ofInt 32 ((2 : Int) ^ k % 4294967296) = 1#32 <<< k := by
  have h : ∀ k : Fin 32, BitVec.ofInt 32 ((2 : Int) ^ k.val % 4294967296) = 1#32 <<< k.val := by decide +kernel
  exact h ⟨k, hk⟩
theorem bit_at (x : W) (k : Nat) : (bits BinOp.and IntKind.u32 (U x / (2 : Int) ^ k) 1 == 1) = x.getLsbD k := by
  rw [U_shr, bit_test, BitVec.getLsbD_ushiftRight]; simp
theorem word1 : (Try.prog.info? 22).map (fun i => i.size) = some 1 := by kernel_rfl
set_option maxRecDepth 100000 in
set_option maxHeartbeats 1000000 in
theorem matrix_any (w : World) : Calls Try.prog 27 #[] w fun e w' => e = .returned (.agg ((Crc.matOf (Crc.on 8)).map v32).toArray) ∧ Below w.heap.size w w' := by
  go_enter Try.func27, Try.ntmps27
  go_wp2_with (refine wpList_alloc_arr rfl 46 rfl _ infoMat ?_)
  have b2 := ((Below.refl w.heap.size w).alloc (by simp) (Obj.cells ((Crc.matUpto id 0).map v32).toArray 46)).alloc (by simp) (Obj.cells ((Crc.matUpto id 0).map v32).toArray 46)
  have f0 := (Blk.new w ((Crc.matUpto id 0).map v32).toArray 46).old (Obj.cells ((Crc.matUpto id 0).map v32).toArray 46)
  have f1 := Blk.new (w.alloc (Obj.cells ((Crc.matUpto id 0).map v32).toArray 46)) ((Crc.matUpto id 0).map v32).toArray 46
  generalize (w.alloc (Obj.cells ((Crc.matUpto id 0).map v32).toArray 46)).alloc (Obj.cells ((Crc.matUpto id 0).map v32).toArray 46) = w2 at *
  simp only [World.size_alloc] at f0 f1
  go_loopw [3] (fun i wr => ∃ k : Nat, k ≤ 32 ∧ i = .int .i64 k ∧ Below w.heap.size w wr ∧ Blk wr w.heap.size ((Crc.matUpto id 0).map v32) 46 ∧ Blk wr (w.heap.size + 1) ((Crc.matUpto (Crc.on 8) k).map v32) 46) (fun i _ => 32 - (intOf i).toNat)
  case atStart => exact ⟨0, by omega, rfl, b2, f0, by rw [matUpto_none]; exact f1⟩
  case round =>
    clear b2 f0 f1
    obtain ⟨k, hk, rfl, hb, h0, h1⟩ := hrel
    by_cases hlt : k < 32
    · have cf : wr.frozen? ⟨w.heap.size + 1, k, none⟩ = false := h1.free _
      have ck : wr.cell? ⟨w.heap.size + 1, k, none⟩ = some (v32 ((Crc.matUpto (Crc.on 8) k).getD k 0)) := by
        rw [h1.cell, List.getElem?_map, List.getElem?_eq_getElem (by rw [Crc.matUpto_length]; omega)]; simp [Crc.matUpto_length, hlt]
      have H0 := Lib.hid h0
      have H1 := Lib.hid h1
      clear h0 h1
      have HS := Lib.hid (Crc.matUpto_succ (Crc.on 8) k hlt _ rfl)
      go_wp2_with (go_at_call 26; refine (byteOn_int _ _ (by omega)).mono ?_; rintro e w' ⟨rfl, rfl⟩; rw [one_shl k hlt])
      go_roundw
      case rel =>
        refine ⟨k + 1, by omega, by go_num, hb.setCell (by simp) _, H0.out.setOther _ _ (by simp), ?_⟩
        rw [HS.out]
        exact H1.out.set _ _
      case measure => simp [intOf]; omega
    · obtain rfl : k = 32 := by omega
      rw [Crc.matUpto_all] at h1
      have hsz2 : (Try.prog.info? 46).map (fun i => i.size) = some ((Crc.matOf (Crc.on 8)).map v32).toArray.size := by rw [sizeMat]; simp [Crc.matOf_length]
      have H0 := Lib.hid h0
      have H1 := Lib.hid h1
      clear h0 h1
      go_wp2_with (first
        | (refine wpList_load_row rfl 46 _ rfl _ rfl _ _ _ _ H1.out (Try.underlying46) rfl hsz2 ?_)
        | (refine wpList_store_row rfl 46 _ _ rfl _ _ rfl rfl _ _ H0.out hsz2 (by simp [Crc.matUpto_length, Crc.matOf_length]) (one32 _) ?_))
      refine bodyPost_ret (v := .agg ((Crc.matOf (Crc.on 8)).map v32).toArray) ?_ rfl ⟨rfl, Below.setRow hb (by omega) _⟩
      exact results_cell_row rfl _ _ _ _ _ _ _ rfl (H0.out.row _) (Try.underlying46) rfl hsz2
set_option maxRecDepth 100000 in
set_option maxHeartbeats 1000000 in
theorem times_any (m : List W) (x : W) (w : World) (hm : m.length = 32) :
    Calls Try.prog 28 #[.agg (m.map v32).toArray, v32 x] w fun e w' => e = .returned (v32 (Crc.timesUpto m x 32)) ∧ Below w.heap.size w w' := by
  have Hm := Lib.hid hm
  have hsz2 : (Try.prog.info? 46).map (fun i => i.size) = some (m.map v32).toArray.size := by rw [sizeMat]; simp [hm]
  clear hm
  go_enter Try.func28, Try.ntmps28
  go_wp2_with (first
    | (refine wpList_box_arr rfl 46 _ rfl _ rfl ?_)
    | (refine wpList_load_row rfl 46 _ rfl _ rfl _ _ _ _ (Blk.new _ _ _) (Try.underlying46) rfl hsz2 ?_))
  have HB := Lib.hid ((Below.refl w.heap.size w).alloc (by simp) (Obj.cells (m.map v32).toArray 46))
  generalize (w.alloc (Obj.cells (m.map v32).toArray 46)) = w2 at *
  go_loop [5, 9] (fun v i => ∃ k : Nat, k ≤ 32 ∧ i = .int .i64 k ∧ v = v32 (Crc.timesUpto m x k)) (fun _ i => 32 - (intOf i).toNat)
  case atStart => exact ⟨0, by omega, rfl, by rw [Crc.timesUpto_zero]; rfl⟩
  case round =>
    obtain ⟨k, hk, rfl, rfl⟩ := hrel
    by_cases hlt : k < 32
    · obtain ⟨y, hy⟩ : ∃ y, y = m.getD k 0#32 := ⟨_, rfl⟩
      have HT := Lib.hid (Crc.timesUpto_succ m x k)
      have C3 := Lib.hid (show (m.map v32).toArray[(k : Int).toNat]? = some (v32 y) by simp [Hm.out, hlt, hy])
      rw [← hy] at HT
      clear hy
      generalize Crc.timesUpto m x k = z at *
      have tb := bit_at x k
      cases hb : x.getLsbD k with
      | true =>
        rw [hb] at tb HT
        have HB2 := Lib.hid hb
        clear hb
        go_wp2_with (refine wpList_index_arr rfl 46 _ _ rfl _ rfl _ rfl 32 22 Try.underlying46 _ Try.underlying22 rfl word1 (by omega) _ C3.out ?_)
        go_round
        case rel => exact ⟨k + 1, by omega, by go_num, by rw [HT.out, U_xor]; rfl⟩
        case measure => simp [intOf]; omega
      | false =>
        rw [hb] at tb HT
        have HB2 := Lib.hid hb
        clear hb
        go_wp2_with (refine wpList_index_arr rfl 46 _ _ rfl _ rfl _ rfl 32 22 Try.underlying46 _ Try.underlying22 rfl word1 (by omega) _ C3.out ?_)
        go_round
        case rel => exact ⟨k + 1, by omega, by go_num, by rw [HT.out]; rfl⟩
        case measure => simp [intOf]; omega
    · obtain rfl : k = 32 := by omega
      go_wp2_with fail
      go_ret
      exact ⟨rfl, HB.out⟩
theorem squared_step (p k : Nat) (hk : k < 32) : Crc.timesUpto (Crc.matOf (Crc.on p)) ((Crc.matOf (Crc.on p)).getD k 0#32) 32 = Crc.on (2 * p) (1#32 <<< k) := by
  rw [Crc.times_on, Crc.matOf_getD _ _ hk, Crc.on_twice]
set_option maxRecDepth 100000 in
set_option maxHeartbeats 1000000 in
theorem squared_any (p : Nat) (w : World) :
    Calls Try.prog 29 #[.agg ((Crc.matOf (Crc.on p)).map v32).toArray] w fun e w' => e = .returned (.agg ((Crc.matOf (Crc.on (2 * p))).map v32).toArray) ∧ Below w.heap.size w w' := by
  have lm := Crc.matOf_length (Crc.on p)
  have hst := squared_step p
  obtain ⟨m, hm⟩ : ∃ m, m = Crc.matOf (Crc.on p) := ⟨_, rfl⟩
  rw [← hm] at lm hst ⊢
  clear hm
  have HST := Lib.hid hst
  have Hm := Lib.hid lm
  have hsz2 : (Try.prog.info? 46).map (fun i => i.size) = some (m.map v32).toArray.size := by rw [sizeMat]; simp [lm]
  clear lm hst
  go_enter Try.func29, Try.ntmps29
  go_wp2_with (first
    | (refine wpList_box_arr rfl 46 _ rfl _ rfl ?_)
    | (refine wpList_alloc_arr rfl 46 rfl _ infoMat ?_)
    | (refine wpList_load_row rfl 46 _ rfl _ rfl _ _ _ _ (Blk.old (Blk.old (Blk.new _ _ _) _) _) (Try.underlying46) rfl hsz2 ?_))
  have b3 := (((Below.refl w.heap.size w).alloc (by simp) (Obj.cells (m.map v32).toArray 46)).alloc (by simp) (Obj.cells ((Crc.matUpto id 0).map v32).toArray 46)).alloc (by simp; omega) (Obj.cells ((Crc.matUpto id 0).map v32).toArray 46)
  have f0 := ((Blk.new w (m.map v32).toArray 46).old (Obj.cells ((Crc.matUpto id 0).map v32).toArray 46)).old (Obj.cells ((Crc.matUpto id 0).map v32).toArray 46)
  have f1 := (Blk.new (w.alloc (Obj.cells (m.map v32).toArray 46)) ((Crc.matUpto id 0).map v32).toArray 46).old (Obj.cells ((Crc.matUpto id 0).map v32).toArray 46)
  have f2 := Blk.new ((w.alloc (Obj.cells (m.map v32).toArray 46)).alloc (Obj.cells ((Crc.matUpto id 0).map v32).toArray 46)) ((Crc.matUpto id 0).map v32).toArray 46
  generalize ((w.alloc (Obj.cells (m.map v32).toArray 46)).alloc (Obj.cells ((Crc.matUpto id 0).map v32).toArray 46)).alloc (Obj.cells ((Crc.matUpto id 0).map v32).toArray 46) = w2 at *
  simp only [World.size_alloc] at f0 f1 f2
  go_loopw [7] (fun i wr => ∃ k : Nat, k ≤ 32 ∧ i = .int .i64 k ∧ Below w.heap.size w wr ∧ w.heap.size + 1 + 1 < wr.heap.size ∧ Blk wr w.heap.size (m.map v32) 46 ∧ Blk wr (w.heap.size + 1) ((Crc.matUpto id 0).map v32) 46 ∧ Blk wr (w.heap.size + 1 + 1) ((Crc.matUpto (Crc.on (2 * p)) k).map v32) 46) (fun i _ => 32 - (intOf i).toNat)
  case atStart => exact ⟨0, by omega, rfl, b3, f2.lt, f0, f1, by rw [matUpto_none]; exact f2⟩
  case round =>
    clear b3 f0 f1 f2
    obtain ⟨k, hk, rfl, hb, hs, h0, h1, h2⟩ := hrel
    by_cases hlt : k < 32
    · obtain ⟨y, hy⟩ : ∃ y, y = m.getD k 0#32 := ⟨_, rfl⟩
      have HT := Lib.hid (HST.out k hlt)
      rw [← hy] at HT
      have C3 := Lib.hid (show (m.map v32).toArray[(k : Int).toNat]? = some (v32 y) by simp [Hm.out, hlt, hy])
      have HS := Lib.hid (Crc.matUpto_succ (Crc.on (2 * p)) k hlt _ HT.out)
      have HG := Lib.hid (Crc.matUpto_length (Crc.on (2 * p)) k)
      have HB := Lib.hid hb
      have H0 := Lib.hid h0
      have H1 := Lib.hid h1
      have H2 := Lib.hid h2
      have HZ := Lib.hid hs
      clear h0 h1 h2 hb hy HT
      go_wp2_with (first
        | (refine wpList_index_arr rfl 46 _ _ rfl _ rfl _ rfl 32 22 Try.underlying46 _ Try.underlying22 rfl word1 (by omega) _ C3.out ?_)
        | (refine wpList_load_row rfl 46 _ rfl _ rfl _ _ _ _ H0.out (Try.underlying46) rfl hsz2 ?_)
        | (go_at_call 28; refine (times_any _ _ _ Hm.out).mono ?_; rintro e w1 ⟨rfl, hb1⟩
           have K2 := H2.out.below hb1 H2.out.lt
           have cf : w1.frozen? ⟨w.heap.size + 1 + 1, k, none⟩ = false := K2.free _
           have ck : w1.cell? ⟨w.heap.size + 1 + 1, k, none⟩ = some (v32 ((Crc.matUpto (Crc.on (2 * p)) k).getD k 0)) := by
             rw [K2.cell, List.getElem?_map, List.getElem?_eq_getElem (by rw [HG.out]; omega)]; simp [HG.out, hlt]
           have K2 := Lib.hid K2))
      go_roundw
      case rel =>
        have e0 := H0.out.below hb1 H0.out.lt
        have e1 := H1.out.below hb1 H1.out.lt
        refine ⟨k + 1, by omega, by go_num, (HB.out.trans (hb1.mono HB.out.size)).setCell (by simp; omega) _, ?_, e0.setOther _ _ (by simp; omega), e1.setOther _ _ (by simp), ?_⟩
        · have := HZ.out; have := hb1.size; simp; omega
        · rw [HS.out]; exact K2.out.set _ _
      case measure => simp [intOf]; omega
    · obtain rfl : k = 32 := by omega
      rw [Crc.matUpto_all] at h2
      have hsz3 : (Try.prog.info? 46).map (fun i => i.size) = some ((Crc.matOf (Crc.on (2 * p))).map v32).toArray.size := by rw [sizeMat]; simp [Crc.matOf_length]
      have H1 := Lib.hid h1
      have H2 := Lib.hid h2
      clear h0 h1 h2
      go_wp2_with (first
        | (refine wpList_load_row rfl 46 _ rfl _ rfl _ _ _ _ H2.out (Try.underlying46) rfl hsz3 ?_)
        | (refine wpList_store_row rfl 46 _ _ rfl _ _ rfl rfl _ _ H1.out hsz3 (by simp [Crc.matUpto_length, Crc.matOf_length]) (one32 _) ?_))
      refine bodyPost_ret (v := .agg ((Crc.matOf (Crc.on (2 * p))).map v32).toArray) ?_ rfl ⟨rfl, Below.setRow hb (by omega) _⟩
      exact results_cell_row rfl _ _ _ _ _ _ _ rfl (H1.out.row _) (Try.underlying46) rfl hsz3
theorem and_one (k : Nat) (hk : k < 9223372036854775808) : (bits BinOp.and IntKind.i64 (k : Int) 1 == 1) = decide (k % 2 = 1) := by
  have h : bits BinOp.and IntKind.i64 (k : Int) 1 = ((k % 2 : Nat) : Int) := by
    show IntKind.i64.wrap ((BitVec.ofInt 64 (k : Int) &&& BitVec.ofInt 64 1).toNat : Int) = _
    rw [BitVec.toNat_and, show (BitVec.ofInt 64 1).toNat = 2 ^ 1 - 1 from rfl, Nat.and_two_pow_sub_one_eq_mod]
    have h1 : (BitVec.ofInt 64 (k : Int)).toNat = k := by simp; omega
    rw [h1]
    exact IntWalk.i64_in _ (by omega)
  rw [h, Bool.eq_iff_iff, beq_iff_eq, decide_eq_true_iff]
  omega
theorem on_even (pw q : Nat) (y : W) (h : q % 2 = 0) : Crc.on (pw * q) y = Crc.on (2 * pw * (q / 2)) y := by
  congr 1
  rw [show q = 2 * (q / 2) by omega, Nat.mul_left_comm, show 2 * (q / 2) / 2 = q / 2 by omega, Nat.mul_assoc]
theorem on_odd (pw q : Nat) (y : W) (h : q % 2 = 1) : Crc.on (pw * q) y = Crc.on (2 * pw * (q / 2)) (Crc.on pw y) := by
  rw [← Crc.on_add]
  congr 1
  rw [show q = 1 + 2 * (q / 2) by omega, Nat.mul_add, Nat.mul_one, show (1 + 2 * (q / 2)) / 2 = q / 2 by omega, Nat.mul_left_comm, Nat.mul_assoc]
set_option maxRecDepth 100000 in
set_option maxHeartbeats 1000000 in
theorem bytesOn_any (x : W) (n : Nat) (w : World) (hn : n ≤ 2147483647) :
    Calls Try.prog 25 #[v32 x, .int .i64 n] w fun e w' => e = .returned (v32 (Crc.on (8 * n) x)) ∧ Below w.heap.size w w' := by
  have hsz : ∀ p, (Try.prog.info? 46).map (fun i => i.size) = some ((Crc.matOf (Crc.on p)).map v32).toArray.size := fun p => by rw [sizeMat]; simp [Crc.matOf_length]
  have HSZ := Lib.hid hsz
  clear hsz
  go_enter Try.func25, Try.ntmps25
  go_wp2_with (first
    | (go_at_call 27; refine (matrix_any _).mono ?_; rintro e w1 ⟨rfl, hb1⟩)
    | (refine wpList_alloc_arr rfl 46 rfl _ infoMat ?_)
    | (refine wpList_store_row rfl 46 _ _ rfl _ _ rfl rfl _ _ (Blk.new _ _ _) (HSZ.out 8) (by simp [Crc.matUpto_length, Crc.matOf_length]) (one32 _) ?_))
  have W0 : Below w.heap.size w ((w1.alloc (Obj.cells ((Crc.matUpto id 0).map v32).toArray 46)).setRow w1.heap.size ((Crc.matOf (Crc.on 8)).map v32).toArray) :=
    Below.setRow (hb1.alloc hb1.size _) hb1.size _
  have W1 : Blk ((w1.alloc (Obj.cells ((Crc.matUpto id 0).map v32).toArray 46)).setRow w1.heap.size ((Crc.matOf (Crc.on 8)).map v32).toArray) w1.heap.size ((Crc.matOf (Crc.on 8)).map v32) 46 := (Blk.new _ _ _).row _
  have W2 : w.heap.size ≤ w1.heap.size := hb1.size
  go_frame
  go_loopw [0, 1, 5] (fun v q m wr => ∃ (k pw : Nat) (y : W) (g : Nat), k ≤ 2147483647 ∧ q = .int .i64 k ∧ v = v32 y ∧ m = .pointer (some ⟨g, 0, none⟩) ∧ Hid (Crc.on (pw * k) y = Crc.on (8 * n) x) ∧ Below w.heap.size w wr ∧ w.heap.size ≤ g ∧ Blk wr g ((Crc.matOf (Crc.on pw)).map v32) 46) (fun _ q _ _ => (intOf q).toNat)
  case atStart => exact ⟨n, 8, x, _, hn, rfl, rfl, rfl, rfl, W0, W2, W1⟩
  case round =>
    clear W0 W1 W2 hb1
    obtain ⟨k, pw, y, g, hk, rfl, rfl, rfl, HE, hb, hg, h0⟩ := hrel
    by_cases hlt : 0 < k
    · have HB := Lib.hid hb
      have H0 := Lib.hid h0
      have HLT := Lib.hid h0.lt
      clear hb h0
      have t1 := and_one k (by omega)
      by_cases hp : k % 2 = 1
      · rw [decide_eq_true hp] at t1
        rw [on_odd pw k y hp] at HE
        have HP := Lib.hid hp
        clear hp
        have tk1 : True := trivial
        go_wp2_with (first
          | (have _t := tk1; refine wpList_load_row (w := wr) rfl 46 _ rfl _ rfl _ _ _ _ H0.out (Try.underlying46) rfl (HSZ.out pw) ?_; clear tk1 _t)
          | (go_at_call 28; refine (times_any _ _ _ (Crc.matOf_length _)).mono ?_; rintro e w2 ⟨rfl, hb2⟩; rw [Crc.times_on]; have K2 := Lib.hid (H0.out.below hb2 HLT.out); have HB2 := Lib.hid (HB.out.trans (hb2.mono HB.out.size)); clear hb2; have tk2 : True := trivial)
          | (have _t := tk2; refine wpList_load_row (w := w2) rfl 46 _ rfl _ rfl _ _ _ _ K2.out (Try.underlying46) rfl (HSZ.out pw) ?_; clear tk2 _t)
          | (go_at_call 29; refine (squared_any _ _).mono ?_; rintro e w3 ⟨rfl, hb3⟩; have K3 := Lib.hid (K2.out.below hb3 K2.out.lt); have HB3 := Lib.hid (HB2.out.trans (hb3.mono HB2.out.size)); clear hb3; have tk3 : True := trivial)
          | (have _t := tk3; refine wpList_store_row (w := w3) rfl 46 _ _ rfl _ _ rfl rfl _ _ K3.out (HSZ.out (2 * pw)) (by simp [Crc.matOf_length]) (one32 _) ?_
             obtain ⟨w4, hw4⟩ : ∃ w4, w4 = w3.setRow g ((Crc.matOf (Crc.on (2 * pw))).map v32).toArray := ⟨_, rfl⟩
             have K4 : Hid (Blk w4 g ((Crc.matOf (Crc.on (2 * pw))).map v32) 46) := by rw [hw4]; exact K3.out.row _
             have HB4 : Hid (Below w.heap.size w w4) := by rw [hw4]; exact Below.setRow HB3.out hg _
             rw [← hw4]
             clear hw4 tk3 _t; have tk4 : True := trivial)
          | (have _t := tk4; refine wpList_load_row (w := w4) rfl 46 _ rfl _ rfl _ _ _ _ K4.out (Try.underlying46) rfl (HSZ.out (2 * pw)) ?_; clear tk4 _t)
          | (refine wpList_alloc_arr rfl 46 rfl _ infoMat ?_)
          | (refine wpList_store_row rfl 46 _ _ rfl _ _ rfl rfl _ _ (Blk.new w4 _ _) (HSZ.out (2 * pw)) (by simp [Crc.matUpto_length, Crc.matOf_length]) (one32 _) ?_))
        go_roundw
        case rel => exact ⟨k / 2, 2 * pw, _, _, by omega, by go_num, rfl, rfl, HE, Below.setRow (HB4.out.alloc HB4.out.size _) HB4.out.size _, HB4.out.size, (Blk.new w4 _ _).row _⟩
        case measure => simp [intOf]; omega
      · rw [decide_eq_false hp] at t1
        rw [on_even pw k y (by omega)] at HE
        have HP := Lib.hid hp
        clear hp
        have tk1 : True := trivial
        go_wp2_with (first
          | (have _t := tk1; refine wpList_load_row (w := wr) rfl 46 _ rfl _ rfl _ _ _ _ H0.out (Try.underlying46) rfl (HSZ.out pw) ?_; clear tk1 _t)
          | (go_at_call 29; refine (squared_any _ _).mono ?_; rintro e w3 ⟨rfl, hb3⟩; have K3 := Lib.hid (H0.out.below hb3 H0.out.lt); have HB3 := Lib.hid (HB.out.trans (hb3.mono HB.out.size)); clear hb3; have tk3 : True := trivial)
          | (have _t := tk3; refine wpList_store_row (w := w3) rfl 46 _ _ rfl _ _ rfl rfl _ _ K3.out (HSZ.out (2 * pw)) (by simp [Crc.matOf_length]) (one32 _) ?_
             obtain ⟨w4, hw4⟩ : ∃ w4, w4 = w3.setRow g ((Crc.matOf (Crc.on (2 * pw))).map v32).toArray := ⟨_, rfl⟩
             have K4 : Hid (Blk w4 g ((Crc.matOf (Crc.on (2 * pw))).map v32) 46) := by rw [hw4]; exact K3.out.row _
             have HB4 : Hid (Below w.heap.size w w4) := by rw [hw4]; exact Below.setRow HB3.out hg _
             rw [← hw4]
             clear hw4 tk3 _t; have tk4 : True := trivial)
          | (have _t := tk4; refine wpList_load_row (w := w4) rfl 46 _ rfl _ rfl _ _ _ _ K4.out (Try.underlying46) rfl (HSZ.out (2 * pw)) ?_; clear tk4 _t)
          | (refine wpList_alloc_arr rfl 46 rfl _ infoMat ?_)
          | (refine wpList_store_row rfl 46 _ _ rfl _ _ rfl rfl _ _ (Blk.new w4 _ _) (HSZ.out (2 * pw)) (by simp [Crc.matUpto_length, Crc.matOf_length]) (one32 _) ?_))
        go_roundw
        case rel => exact ⟨k / 2, 2 * pw, _, _, by omega, by go_num, rfl, rfl, HE, Below.setRow (HB4.out.alloc HB4.out.size _) HB4.out.size _, HB4.out.size, (Blk.new w4 _ _).row _⟩
        case measure => simp [intOf]; omega
    · obtain rfl : k = 0 := by omega
      rw [Nat.mul_zero, Crc.on_zero] at HE
      clear h0
      go_wp2_with fail
      go_ret
      exact ⟨ret_int (by rw [HE.out]), hb⟩
end Go.Proofs.Ythekefecgeimeaa
