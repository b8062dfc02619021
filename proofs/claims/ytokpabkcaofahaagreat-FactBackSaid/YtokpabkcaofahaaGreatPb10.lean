/-
  What a word turned is, and the schedule of a block: the contracts of turned and words.
  The contracts of constants and firstState.
  The contract of behind: the state behind one block.
-/
import Derived.Test.YtokpabkcaofahaaGreatRows
import Derived.Test.YtokpabkcaofahaaGreatPb2
import Derived.Test.YtokpabkcaofahaaGreatPb1
import Derived.WalkSpells
import Derived.WalkLawsBesides
import Derived.Deep.DeepCutAuto
namespace Go.Proofs.YtokpabkcaofahaaGreat
section
set_option linter.unusedSimpArgs false
set_option linter.unusedVariables false
open Go.RowKit Sha
attribute [local go_sem] U_and U_or U_xor U_add U_shl8 U_shr3 U_shr10 U_notmax U_or_int
theorem bits31 (n : Nat) (h : 1 ≤ n ∧ n ≤ 31) : bits BinOp.and IntKind.u64 (IntKind.u64.wrap (-(n : Int))) 31 = 32 - (n : Int) := by
  have : n = 1 ∨ n = 2 ∨ n = 3 ∨ n = 4 ∨ n = 5 ∨ n = 6 ∨ n = 7 ∨ n = 8 ∨ n = 9 ∨ n = 10 ∨ n = 11 ∨ n = 12 ∨ n = 13 ∨ n = 14 ∨ n = 15 ∨ n = 16 ∨ n = 17 ∨ n = 18 ∨ n = 19 ∨ n = 20 ∨ n = 21 ∨ n = 22 ∨ n = 23 ∨ n = 24 ∨ n = 25 ∨ n = 26 ∨ n = 27 ∨ n = 28 ∨ n = 29 ∨ n = 30 ∨ n = 31 := by omega
  rcases this with h | h | h | h | h | h | h | h | h | h | h | h | h | h | h | h | h | h | h | h | h | h | h | h | h | h | h | h | h | h | h <;> subst h <;> decide +kernel
set_option maxHeartbeats 400000 in
theorem rot_any (x : W) (n : Nat) (w : World) (hn : 1 ≤ n ∧ n ≤ 31) :
    Calls Tryz.prog 186 #[v32 x, .int .i64 (-(n : Int))] w fun e w' => e = .returned (v32 (rotr x n)) ∧ w = w' := by
  have hb := bits31 n hn
  go_enter Tryz.func186, Tryz.ntmps186
  go_wp2
  go_ret
  refine ⟨ret_int ?_, rfl⟩
  rw [U_shl, show 32 - (32 - n) = n by omega, U_shr, U_or, rot x n hn]
set_option maxHeartbeats 400000 in
theorem turned_any (x : W) (n : Int) (w : World) (hn : 1 ≤ n ∧ n ≤ 31) :
    Calls Tryz.prog 170 #[v32 x, .int .i64 n] w fun e w' => e = .returned (v32 (rotr x n.toNat)) ∧ w = w' := by
  obtain ⟨n, rfl⟩ := Int.eq_ofNat_of_zero_le (show 0 ≤ n by omega)
  go_enter Tryz.func170, Tryz.ntmps170
  go_wp2_with (go_at_call 186; refine (rot_any _ _ _ (by omega)).mono ?_; rintro e w' ⟨rfl, rfl⟩)
  go_ret
  exact ⟨rfl, rfl⟩
theorem turned_still (x : W) (n : Int) (w : World) (hn : 1 ≤ n ∧ n ≤ 31) :
    Calls Tryz.prog 170 #[v32 x, .int .i64 n] w fun e w' => e = .returned (v32 (rotr x n.toNat)) ∧ w' = w := (turned_any x n w hn).mono fun _ _ ⟨h, h'⟩ => ⟨h, h'.symm⟩
theorem info59 (zs : List Int) : (Tryz.prog.info? 189).map (fun i => i.zero) = some (some (.agg ((fill zs 0).map v32).toArray)) := by kernel_rfl
theorem byte1 : (Tryz.prog.info? 5).map (fun i => i.size) = some 1 := by kernel_rfl
theorem word1 : (Tryz.prog.info? 151).map (fun i => i.size) = some 1 := by kernel_rfl
theorem size59 : (Tryz.prog.info? 189).map (fun i => i.size) = some 64 := by kernel_rfl
theorem one32 (l : List W) : (l.map v32).toArray.all (·.oneCell') = true := by simp [Value.oneCell']
theorem size62 : (Tryz.prog.info? 193).map (fun i => i.size) = some 64 := by kernel_rfl
set_option maxRecDepth 100000 in
set_option maxHeartbeats 1000000 in
theorem words_any (zs : List Int) (w : World) (hl : zs.length = 64) (hz : ∀ n ∈ zs, 0 ≤ n ∧ n ≤ 255) :
    Calls Tryz.prog 169 #[.agg (zs.map v8).toArray] w fun e w' => e = .returned (.agg ((wordsOf zs).map v32).toArray) ∧ Below w.heap.size w w' := by
  have hsz : (Tryz.prog.info? 193).map (fun i => i.size) = some (zs.map v8).toArray.size := by rw [size62]; simp [hl]
  have Hl := Lib.hid hl
  clear hl
  go_enter Tryz.func169, Tryz.ntmps169
  go_wp2_with (first | (refine wpList_box_arr rfl 193 _ rfl _ rfl ?_) | (refine wpList_alloc_arr rfl 189 rfl _ (info59 zs) ?_) | (refine wpList_load_row rfl 193 _ rfl _ rfl _ _ _ _ (Blk.old (Blk.old (Blk.new _ _ _) _) _) (Tryz.underlying193) rfl hsz ?_))
  go_loopw [10] (fun i wr => ∃ k : Nat, k ≤ 64 ∧ i = .int .i64 k ∧ Below w.heap.size w wr ∧ Blk wr (w.heap.size + 1) ((fill zs 0).map v32) 189 ∧ Blk wr (w.heap.size + 1 + 1) ((fill zs k).map v32) 189) (fun i _ => 64 - (intOf i).toNat)
  case atStart =>
    refine ⟨0, by omega, rfl, ?_, ?_, ?_⟩
    · exact (((Below.refl _ _).alloc (by simp) _).alloc (by simp) _).alloc (by simp; omega) _
    · have := (Blk.new (w.alloc (Obj.cells (List.map v8 zs).toArray 193)) ((fill zs 0).map v32).toArray 189).old (Obj.cells (List.map v32 (fill zs 0)).toArray 189)
      simpa using this
    · have := Blk.new ((w.alloc (Obj.cells (List.map v8 zs).toArray 193)).alloc (Obj.cells (List.map v32 (fill zs 0)).toArray 189)) ((fill zs 0).map v32).toArray 189
      simpa using this
  case round =>
    obtain ⟨k, hk, rfl, hb, hr, hc⟩ := hrel
    by_cases hlt : k < 64
    · obtain ⟨x, hx⟩ : ∃ x, x = (fill zs k).getD (k / 4) 0 := ⟨_, rfl⟩
      obtain ⟨n, hn⟩ : ∃ n, n = zs.getD k 0 := ⟨_, rfl⟩
      have c1 : wr.cell? ⟨w.heap.size + 1 + 1, k / 4, none⟩ = some (v32 x) := by
        rw [hc.cell, List.getElem?_map, List.getElem?_eq_getElem (by rw [fill_length]; omega), hx]; simp [fill_length, show k / 4 < 64 by omega]
      have c2 : wr.frozen? ⟨w.heap.size + 1 + 1, k / 4, none⟩ = false := hc.free _
      have C3 := Lib.hid (show (zs.map v8).toArray[(k : Int).toNat]? = some (v8 n) by
        simp [Hl.out, hlt, hn])
      have c4 : 0 ≤ n ∧ n ≤ 255 := hz n (by rw [hn]; simp [Hl.out, hlt])
      have Hx := Lib.hid hx
      have Hn := Lib.hid hn
      have HC := Lib.hid hc
      have HR := Lib.hid hr
      clear hc hx hn hr
      go_wp2_with (first | (refine wpList_index_arr rfl 193 _ _ rfl _ rfl _ rfl 64 5 Tryz.underlying193 _ Tryz.underlying5 rfl byte1 (by omega) _ C3.out ?_))
      go_roundw
      case rel =>
        refine ⟨k + 1, by omega, by go_num, hb.setCell (by simp; omega) _, HR.out.setOther _ _ (by simp), ?_⟩
        rw [fill_succ zs k x n Hx.out Hn.out]
        exact HC.out.set _ _
      case measure => simp [intOf]; omega
    · obtain rfl : k = 64 := by omega
      go_wp2_with fail
      obtain ⟨l, hl⟩ : ∃ l, l = fill zs 64 := ⟨_, rfl⟩
      have ll : l.length = 64 := by rw [hl, fill_length]
      rw [← hl] at hc
      have hfin : wordsOf zs = ext l 48 := by rw [hl, wordsOf_eq]
      clear hl
      have Hfin := Lib.hid hfin
      have Hll := Lib.hid ll
      clear hfin ll
      go_loopw [6] (fun i wr => ∃ k : Nat, k ≤ 48 ∧ i = .int .i64 (k + 16) ∧ Below w.heap.size w wr ∧ Blk wr (w.heap.size + 1) ((fill zs 0).map v32) 189 ∧ Blk wr (w.heap.size + 1 + 1) ((ext l k).map v32) 189) (fun i _ => 64 - (intOf i).toNat)
      case atStart => exact ⟨0, by omega, rfl, hb, hr, by unfold ext; exact hc⟩
      case round =>
        clear hb hr hc hk
        obtain ⟨k, hk, rfl, hb, hr, hc⟩ := hrel
        by_cases hlt2 : k < 48
        · obtain ⟨x0, hx0⟩ : ∃ x, x = (ext l k).getD k 0 := ⟨_, rfl⟩
          obtain ⟨x1, hx1⟩ : ∃ x, x = (ext l k).getD (k + 1) 0 := ⟨_, rfl⟩
          obtain ⟨x9, hx9⟩ : ∃ x, x = (ext l k).getD (k + 9) 0 := ⟨_, rfl⟩
          obtain ⟨x14, hx14⟩ : ∃ x, x = (ext l k).getD (k + 14) 0 := ⟨_, rfl⟩
          have lk : (ext l k).length = 64 := by rw [ext_length, Hll.out]
          have c0 : wr.cell? ⟨w.heap.size + 1 + 1, k, none⟩ = some (v32 x0) := by
            rw [hc.cell, List.getElem?_map, List.getElem?_eq_getElem (by omega), hx0]; simp [lk, show k < 64 by omega]
          have c1 : wr.cell? ⟨w.heap.size + 1 + 1, k + 1, none⟩ = some (v32 x1) := by
            rw [hc.cell, List.getElem?_map, List.getElem?_eq_getElem (by omega), hx1]; simp [lk, show k + 1 < 64 by omega]
          have c9 : wr.cell? ⟨w.heap.size + 1 + 1, k + 9, none⟩ = some (v32 x9) := by
            rw [hc.cell, List.getElem?_map, List.getElem?_eq_getElem (by omega), hx9]; simp [lk, show k + 9 < 64 by omega]
          have c14 : wr.cell? ⟨w.heap.size + 1 + 1, k + 14, none⟩ = some (v32 x14) := by
            rw [hc.cell, List.getElem?_map, List.getElem?_eq_getElem (by omega), hx14]; simp [lk, show k + 14 < 64 by omega]
          have c16 : wr.cell? ⟨w.heap.size + 1 + 1, k + 16, none⟩ = some (v32 ((ext l k).getD (k + 16) 0)) := by
            rw [hc.cell, List.getElem?_map, List.getElem?_eq_getElem (by omega)]; simp [lk, show k + 16 < 64 by omega]
          have cf : wr.frozen? ⟨w.heap.size + 1 + 1, k + 16, none⟩ = false := hc.free _
          have H0 := Lib.hid hx0
          have H1 := Lib.hid hx1
          have H9 := Lib.hid hx9
          have H14 := Lib.hid hx14
          have HC := Lib.hid hc
          have HR := Lib.hid hr
          clear hx0 hx1 hx9 hx14 hc hr lk
          go_wp2_with fail
          go_quiet (fail)
          go_wp2_with fail
          refine region_tail 29 (by kernel_rfl) (by kernel_rfl) ?_
          simp only [List.take_succ_cons, List.take_zero, List.drop_succ_cons, List.drop_zero]
          repeat (first | go_big_quiet_skip | (go_big_quiet_want; go_big_quiet_op; first | go_big_quiet_on | (refine ⟨_, turned_still _ _ _ (by omega), ?_⟩; go_big_quiet_on)))
          refine wpQuiet_nil ?_
          go_wp2_with fail
          go_roundw
          case rel =>
            refine ⟨k + 1, by omega, by go_num, (below_drewN hb _).setCell (by simp; omega) _, (HR.out.drewN _).setOther _ _ (by simp), ?_⟩
            rw [ext_succ l k x0 x1 x9 x14 H0.out H1.out H9.out H14.out]
            unfold small0 small1
            exact (HC.out.drewN _).set _ _
          case measure => simp [intOf]; omega
        · obtain rfl : k = 48 := by omega
          have HC := Lib.hid hc
          have HR := Lib.hid hr
          have hsz2 : (Tryz.prog.info? 189).map (fun i => i.size) = some ((ext l 48).map v32).toArray.size := by rw [size59]; simp [ext_length, Hll.out]
          clear hc hr
          go_wp2_with (first
            | (refine wpList_load_row rfl 189 _ rfl _ rfl _ _ _ _ HC.out (Tryz.underlying189) rfl hsz2 ?_)
            | (refine wpList_store_row rfl 189 _ _ rfl _ _ rfl rfl _ _ HR.out hsz2 (by simp [fill_length, ext_length, Hll.out]) (one32 _) ?_))
          refine bodyPost_ret (v := .agg ((wordsOf zs).map v32).toArray) ?_ rfl ⟨rfl, Below.setRow hb (by omega) _⟩
          rw [Hfin.out]
          exact results_cell_row rfl _ _ _ _ _ _ _ rfl (HR.out.row _) (Tryz.underlying189) rfl hsz2
end
section
set_option linter.unusedSimpArgs false
set_option linter.unusedVariables false
open Go.RowKit Sha
attribute [local go_sem] U_and U_or U_xor U_add U_shl8 U_shr3 U_shr10 U_notmax U_or_int
def zeros8 : List W := List.replicate 8 0
theorem zeros8_length : zeros8.length = 8 := rfl
attribute [irreducible] zeros8
theorem info44 : (Tryz.prog.info? 153).map (fun i => i.zero) = some (some (.agg (zeros8.map v32).toArray)) := by kernel_rfl
theorem size44 : (Tryz.prog.info? 153).map (fun i => i.size) = some 8 := by kernel_rfl
set_option maxRecDepth 100000 in
theorem constants_any (w : World) : Calls Tryz.prog 141 #[] w fun e w' => e = .returned (.agg (kList.map v32).toArray) ∧ Below w.heap.size w w' := by
  have lk : (kList.map v32).toArray.size = 64 := by kernel_rfl
  have hsz : (Tryz.prog.info? 189).map (fun i => i.size) = some (kList.map v32).toArray.size := by rw [size59, lk]
  have hb := Blk.new w ((fill [] 0).map v32).toArray 189
  have HB := Lib.hid hb
  have LK := Lib.hid lk
  clear hb lk
  go_enter Tryz.func141, Tryz.ntmps141
  go_wp2_with (first
    | (refine wpList_alloc_arr rfl 189 rfl _ (info59 []) ?_)
    | (refine wpList_build' rfl 189 _ rfl (kList.map v32).toArray (by kernel_rfl) ?_)
    | (refine wpList_store_row rfl 189 _ _ rfl _ _ rfl rfl _ _ HB.out hsz (by rw [LK.out]; simp [fill_length]) (one32 _) ?_))
  refine bodyPost_ret (v := .agg (kList.map v32).toArray) ?_ rfl ⟨rfl, Below.setRow ((Below.refl _ _).alloc (by simp) _) (by omega) _⟩
  exact results_cell_row rfl _ _ _ _ _ _ _ rfl (HB.out.row _) (Tryz.underlying189) rfl hsz
set_option maxRecDepth 100000 in
theorem first_any (w : World) : Calls Tryz.prog 110 #[] w fun e w' => e = .returned (.agg (first8.map v32).toArray) ∧ Below w.heap.size w w' := by
  have lk : (first8.map v32).toArray.size = 8 := by kernel_rfl
  have hsz : (Tryz.prog.info? 153).map (fun i => i.size) = some (first8.map v32).toArray.size := by rw [size44, lk]
  have hb := Blk.new w (zeros8.map v32).toArray 153
  have HB := Lib.hid hb
  have LK := Lib.hid lk
  clear hb lk
  go_enter Tryz.func110, Tryz.ntmps110
  go_wp2_with (first
    | (refine wpList_alloc_arr rfl 153 rfl _ info44 ?_)
    | (refine wpList_build' rfl 153 _ rfl (first8.map v32).toArray (by kernel_rfl) ?_)
    | (refine wpList_store_row rfl 153 _ _ rfl _ _ rfl rfl _ _ HB.out hsz (by rw [LK.out]; simp [zeros8_length]) (one32 _) ?_))
  refine bodyPost_ret (v := .agg (first8.map v32).toArray) ?_ rfl ⟨rfl, Below.setRow ((Below.refl _ _).alloc (by simp) _) (by omega) _⟩
  exact results_cell_row rfl _ _ _ _ _ _ _ rfl (HB.out.row _) (Tryz.underlying153) rfl hsz
end
section
set_option linter.unusedSimpArgs false
set_option linter.unusedVariables false
open Go.RowKit Sha
attribute [local go_sem] U_and U_or U_xor U_add U_shl8 U_shr3 U_shr10 U_notmax U_or_int
/-- What holds at the head of each of the 64 rounds. -/
def AtRound (ks ws : List W) (r0 : R8) (wc : World) (v9 v10 v11 v12 v13 v14 v15 v16 i : Value) (wr : World) : Prop :=
  ∃ (k : Nat) (a b c d e f g h : W), k ≤ 64 ∧ i = .int .i64 k ∧ v9 = v32 a ∧ v10 = v32 b ∧ v11 = v32 c ∧ v12 = v32 d ∧ v13 = v32 e ∧ v14 = v32 f ∧ v15 = v32 g ∧ v16 = v32 h ∧ Hid (rounds ks ws r0 k = ⟨a, b, c, d, e, f, g, h⟩) ∧ Hid (∃ n, wr = wc.drewN n)
set_option maxRecDepth 100000 in
set_option maxHeartbeats 2000000 in
theorem behind_any (s ks : List W) (zs : List Int) (w : World) (hs : s.length = 8) (hk : ks.length = 64) (hl : zs.length = 64) (hz : ∀ n ∈ zs, 0 ≤ n ∧ n ≤ 255) :
    Calls Tryz.prog 142 #[.agg (s.map v32).toArray, .agg (ks.map v32).toArray, .agg (zs.map v8).toArray] w
      fun e w' => e = .returned (.agg ((behindOf s ks zs).map v32).toArray) ∧ Below w.heap.size w w' := by
  have Hs := Lib.hid hs
  have Hk := Lib.hid hk
  have Hl := Lib.hid hl
  clear hs hk hl
  go_enter Tryz.func142, Tryz.ntmps142
  go_upto_region 1 with (first | (refine wpList_box_arr rfl 153 _ rfl _ rfl ?_) | (refine wpList_box_arr rfl 189 _ rfl _ rfl ?_) | (refine wpList_box_arr rfl 193 _ rfl _ rfl ?_) | (refine wpList_alloc_arr rfl 153 rfl _ info44 ?_))
  simp only [Act.put, List.setIfInBounds_toArray, List.set_cons_zero, List.set_cons_succ, World.size_alloc]
  have f0 := ((Blk.new w (s.map v32).toArray 153).old (Obj.cells (ks.map v32).toArray 189)).old (Obj.cells (zs.map v8).toArray 193) |>.old (Obj.cells (zeros8.map v32).toArray 153)
  have f1 := ((Blk.new (w.alloc (Obj.cells (s.map v32).toArray 153)) (ks.map v32).toArray 189).old (Obj.cells (zs.map v8).toArray 193)).old (Obj.cells (zeros8.map v32).toArray 153)
  have f2 := ((Blk.new ((w.alloc (Obj.cells (s.map v32).toArray 153)).alloc (Obj.cells (ks.map v32).toArray 189)) (zs.map v8).toArray 193).old (Obj.cells (zeros8.map v32).toArray 153))
  have f3 := Blk.new (((w.alloc (Obj.cells (s.map v32).toArray 153)).alloc (Obj.cells (ks.map v32).toArray 189)).alloc (Obj.cells (zs.map v8).toArray 193)) (zeros8.map v32).toArray 153
  have b4 := ((((Below.refl w.heap.size w).alloc (by simp) (Obj.cells (s.map v32).toArray 153)).alloc (by simp) (Obj.cells (ks.map v32).toArray 189)).alloc (by simp; omega) (Obj.cells (zs.map v8).toArray 193)).alloc (by simp; omega) (Obj.cells (zeros8.map v32).toArray 153)
  have z4 : ((((w.alloc (Obj.cells (s.map v32).toArray 153)).alloc (Obj.cells (ks.map v32).toArray 189)).alloc (Obj.cells (zs.map v8).toArray 193)).alloc (Obj.cells (zeros8.map v32).toArray 153)).heap.size = w.heap.size + 1 + 1 + 1 + 1 := by simp
  generalize ((((w.alloc (Obj.cells (s.map v32).toArray 153)).alloc (Obj.cells (ks.map v32).toArray 189)).alloc (Obj.cells (zs.map v8).toArray 193)).alloc (Obj.cells (zeros8.map v32).toArray 153)) = w4 at *
  simp only [World.size_alloc] at f0 f1 f2 f3
  go_outline
  go_cut [7, 8] (fun s7 s8 wx => ∃ g7 g8 : Nat, s7 = .pointer (some ⟨g7, 0, none⟩) ∧ s8 = .pointer (some ⟨g8, 0, none⟩) ∧ w.heap.size + 1 + 1 + 1 + 1 ≤ g7 ∧ w.heap.size + 1 + 1 + 1 + 1 ≤ g8 ∧ g7 ≠ g8 ∧ Below (w.heap.size + 1 + 1 + 1 + 1) w4 wx ∧ Blk wx g7 ((wordsOf zs).map v32) 189 ∧ Blk wx g8 (s.map v32) 153)
  case first =>
    have hbf : ∀ g cs t, Blk w4 g cs t → ∀ wv, Below (w.heap.size + 1 + 1 + 1 + 1) w4 wv → Blk wv g cs t := fun g cs t h wv hb => h.below hb (by have := h.lt; omega)
    have hsz44 : (Tryz.prog.info? 153).map (fun i => i.size) = some (s.map v32).toArray.size := by rw [size44]; simp [Hs.out]
    have hsz62 : (Tryz.prog.info? 193).map (fun i => i.size) = some (zs.map v8).toArray.size := by rw [size62]; simp [Hl.out]
    have hsz59 : (Tryz.prog.info? 189).map (fun i => i.size) = some ((wordsOf zs).map v32).toArray.size := by rw [size59]; simp [wordsOf_length]
    refine wp_region_held (S := fun wv => Blk wv w.heap.size (s.map v32) 153 ∧ Blk wv (w.heap.size + 1 + 1) (zs.map v8) 193) (by kernel_rfl) ?_
    change wpAnyH _ _ _ _ _ _ _ _ (World.drew _)
    have hI : Two w4 (w.heap.size + 1 + 1 + 1 + 1) false false 189 153 [] [] 0 0 w4.drew := ⟨(Below.refl _ _).drew, by rw [← z4]; exact Nat.le_refl _, by simp, by simp, by simp⟩
    generalize w4.drew = wv at hI ⊢
    refine wpAnyH_take (i := 0) rfl (by kernel_rfl) (by kernel_rfl) (by kernel_rfl) (fun _ _ _ h => h) (yieldsIf_load_row rfl 193 _ rfl _ rfl _ _ _ (fun _ h => h.2) (Tryz.underlying193) rfl hsz62) ⟨hbf _ _ _ f0 _ hI.below, hbf _ _ _ f2 _ hI.below⟩ ?_
    refine wpAnyH_take (i := 2) rfl (by kernel_rfl) (by kernel_rfl) (by kernel_rfl) (fun _ _ _ h => h) (yieldsIf_load_row rfl 153 _ rfl _ rfl _ _ _ (fun _ h => h.1) (Tryz.underlying153) rfl hsz44) ⟨hbf _ _ _ f0 _ hI.below, hbf _ _ _ f2 _ hI.below⟩ ?_
    simp only [Act.put, List.setIfInBounds_toArray, List.set_cons_zero, List.set_cons_succ, List.getElem_toArray, List.getElem_cons_succ, List.getElem_cons_zero]
    iterate 5
      (all_goals first
          | (refine wpAnyH_ready (rs := [1, 3, 4]) ?_ (List.cons_ne_nil _ _) ?_; decide +kernel; refine (ready_stepH rfl rfl (fun K hK => ?_) (ready_stepH rfl rfl (fun K hK => ?_) (ready_stepH rfl rfl (fun K hK => ?_) AllReadyH.nil))))
          | (refine wpAnyH_ready (rs := [3, 4]) ?_ (List.cons_ne_nil _ _) ?_; decide +kernel; refine (ready_stepH rfl rfl (fun K hK => ?_) (ready_stepH rfl rfl (fun K hK => ?_) AllReadyH.nil)))
          | (refine wpAnyH_ready (rs := [1, 4]) ?_ (List.cons_ne_nil _ _) ?_; decide +kernel; refine (ready_stepH rfl rfl (fun K hK => ?_) (ready_stepH rfl rfl (fun K hK => ?_) AllReadyH.nil)))
          | (refine wpAnyH_ready (rs := [1, 3]) ?_ (List.cons_ne_nil _ _) ?_; decide +kernel; refine (ready_stepH rfl rfl (fun K hK => ?_) (ready_stepH rfl rfl (fun K hK => ?_) AllReadyH.nil)))
          | (refine wpAnyH_ready (rs := [4, 5]) ?_ (List.cons_ne_nil _ _) ?_; decide +kernel; refine (ready_stepH rfl rfl (fun K hK => ?_) (ready_stepH rfl rfl (fun K hK => ?_) AllReadyH.nil)))
          | (refine wpAnyH_ready (rs := [1]) ?_ (List.cons_ne_nil _ _) ?_; decide +kernel; refine (ready_stepH rfl rfl (fun K hK => ?_) AllReadyH.nil))
          | (refine wpAnyH_ready (rs := [3]) ?_ (List.cons_ne_nil _ _) ?_; decide +kernel; refine (ready_stepH rfl rfl (fun K hK => ?_) AllReadyH.nil))
          | (refine wpAnyH_ready (rs := [4]) ?_ (List.cons_ne_nil _ _) ?_; decide +kernel; refine (ready_stepH rfl rfl (fun K hK => ?_) AllReadyH.nil))
          | (refine wpAnyH_ready (rs := [5]) ?_ (List.cons_ne_nil _ _) ?_; decide +kernel; refine (ready_stepH rfl rfl (fun K hK => ?_) AllReadyH.nil))
          | (refine wpAnyH_ready (rs := [6]) ?_ (List.cons_ne_nil _ _) ?_; decide +kernel; refine (ready_stepH rfl rfl (fun K hK => ?_) AllReadyH.nil))
       all_goals first
          | (refine wp_alloc_arr 189 rfl _ (info59 zs) ?_; have hI := hI.alloc1 ((fill zs 0).map v32); refine hK _ _ ⟨hbf _ _ _ f0 _ hI.below, hbf _ _ _ f2 _ hI.below⟩ ?_; try simp only [Act.put, List.setIfInBounds_toArray, List.set_cons_zero, List.set_cons_succ, List.getElem_toArray, List.getElem_cons_succ, List.getElem_cons_zero, World.size_alloc] at hI ⊢; clear hK K)
          | (refine wp_alloc_arr 153 rfl _ info44 ?_; have hI := hI.alloc2 (zeros8.map v32); refine hK _ _ ⟨hbf _ _ _ f0 _ hI.below, hbf _ _ _ f2 _ hI.below⟩ ?_; try simp only [Act.put, List.setIfInBounds_toArray, List.set_cons_zero, List.set_cons_succ, List.getElem_toArray, List.getElem_cons_succ, List.getElem_cons_zero, World.size_alloc] at hI ⊢; clear hK K)
          | (refine wp_store_row 189 _ _ rfl _ _ rfl rfl _ _ (hI.one rfl).2 hsz59 (by simp [fill_length, wordsOf_length]) (one32 _) ?_; have hI := hI.store1 ((wordsOf zs).map v32); refine hK _ _ ⟨hbf _ _ _ f0 _ hI.below, hbf _ _ _ f2 _ hI.below⟩ ?_; try simp only [Act.put, List.setIfInBounds_toArray, List.set_cons_zero, List.set_cons_succ, List.getElem_toArray, List.getElem_cons_succ, List.getElem_cons_zero, World.size_alloc] at hI ⊢; clear hK K)
          | (refine wp_store_row 153 _ _ rfl _ _ rfl rfl _ _ (hI.two rfl).2 hsz44 (by simp [zeros8_length, Hs.out]) (one32 _) ?_; have hI := hI.store2 (s.map v32); refine hK _ _ ⟨hbf _ _ _ f0 _ hI.below, hbf _ _ _ f2 _ hI.below⟩ ?_; try simp only [Act.put, List.setIfInBounds_toArray, List.set_cons_zero, List.set_cons_succ, List.getElem_toArray, List.getElem_cons_succ, List.getElem_cons_zero, World.size_alloc] at hI ⊢; clear hK K)
          | (go_simp; go_at_call 169; refine (words_any zs _ Hl.out hz).mono ?_; rintro e w1 ⟨rfl, hb1⟩; have hI := hI.call hb1; refine hK _ _ ⟨hbf _ _ _ f0 _ hI.below, hbf _ _ _ f2 _ hI.below⟩ ?_; try simp only [Act.put, List.setIfInBounds_toArray, List.set_cons_zero, List.set_cons_succ, List.getElem_toArray, List.getElem_cons_succ, List.getElem_cons_zero, World.size_alloc] at hI ⊢; clear hK K))
    all_goals
      refine wpAnyH_done (by decide +kernel) ?_ _
      go_wp2_with fail
      go_meet
      exact ⟨_, _, rfl, rfl, (hI.one rfl).1, (hI.two rfl).1, hI.apart rfl rfl, hI.below, (hI.one rfl).2, (hI.two rfl).2⟩
  case rest =>
    obtain ⟨g7, g8, rfl, rfl, hg7, hg8, hne, hbw, hw7, hw8⟩ := hcut
    obtain ⟨a0, a1, a2, a3, a4, a5, a6, a7, hs8⟩ := eight s Hs.out
    have c0 : wc.cell? ⟨g8, 0, none⟩ = some (v32 a0) := by rw [hw8.cell, hs8]; rfl
    have c1 : wc.cell? ⟨g8, 1, none⟩ = some (v32 a1) := by rw [hw8.cell, hs8]; rfl
    have c2 : wc.cell? ⟨g8, 2, none⟩ = some (v32 a2) := by rw [hw8.cell, hs8]; rfl
    have c3 : wc.cell? ⟨g8, 3, none⟩ = some (v32 a3) := by rw [hw8.cell, hs8]; rfl
    have c4 : wc.cell? ⟨g8, 4, none⟩ = some (v32 a4) := by rw [hw8.cell, hs8]; rfl
    have c5 : wc.cell? ⟨g8, 5, none⟩ = some (v32 a5) := by rw [hw8.cell, hs8]; rfl
    have c6 : wc.cell? ⟨g8, 6, none⟩ = some (v32 a6) := by rw [hw8.cell, hs8]; rfl
    have c7 : wc.cell? ⟨g8, 7, none⟩ = some (v32 a7) := by rw [hw8.cell, hs8]; rfl
    have F1 := Lib.hid (f1.below hbw (by omega))
    have F3 := Lib.hid (f3.below hbw (by omega))
    have W7 := Lib.hid hw7
    have W8 := Lib.hid hw8
    have BW := Lib.hid (b4.trans (hbw.mono (by omega)))
    have Hs8 := Lib.hid hs8
    clear f0 f1 f2 f3 b4 z4 hbw hw7 hw8 hs8
    go_wp2_with fail
    go_quiet (fail)
    clear c0 c1 c2 c3 c4 c5 c6 c7
    go_wp2_with fail
    obtain ⟨r0, hr0⟩ : ∃ r : R8, r = ⟨a0, a1, a2, a3, a4, a5, a6, a7⟩ := ⟨_, rfl⟩
    have Hr0 := Lib.hid hr0
    clear hr0
    go_loopw [9, 10, 11, 12, 13, 14, 15, 16, 41] (fun v9 v10 v11 v12 v13 v14 v15 v16 i wr => AtRound ks (wordsOf zs) r0 wc v9 v10 v11 v12 v13 v14 v15 v16 i wr) (fun _ _ _ _ _ _ _ _ i _ => 64 - (intOf i).toNat)
    case atStart => exact ⟨0, _, _, _, _, _, _, _, _, by omega, rfl, rfl, rfl, rfl, rfl, rfl, rfl, rfl, rfl, by rw [Sha.rounds_zero]; exact Hr0.out, ⟨nq, rfl⟩⟩
    case round =>
      obtain ⟨k, a, b, c, d, e, f, g, h, hk, rfl, rfl, rfl, rfl, rfl, rfl, rfl, rfl, rfl, HR, HQ⟩ := hrel
      have W7 : Hid (Blk wr g7 ((wordsOf zs).map v32) 189) := by obtain ⟨n, e⟩ := HQ.out; rw [e]; exact W7.out.drewN n
      have F1 : Hid (Blk wr (w.heap.size + 1) (ks.map v32) 189) := by obtain ⟨n, e⟩ := HQ.out; rw [e]; exact F1.out.drewN n
      by_cases hlt : k < 64
      · obtain ⟨kx, hkx⟩ : ∃ x, x = ks.getD k 0 := ⟨_, rfl⟩
        obtain ⟨wx, hwx⟩ : ∃ x, x = (wordsOf zs).getD k 0 := ⟨_, rfl⟩
        have c4 : wr.cell? ⟨w.heap.size + 1, k, none⟩ = some (v32 kx) := by
          rw [F1.out.cell, List.getElem?_map, List.getElem?_eq_getElem (by rw [Hk.out]; omega), hkx]; simp [Hk.out, hlt]
        have c7 : wr.cell? ⟨g7, k, none⟩ = some (v32 wx) := by
          rw [W7.out.cell, List.getElem?_map, List.getElem?_eq_getElem (by rw [wordsOf_length]; omega), hwx]; simp [wordsOf_length, hlt]
        have HK := Lib.hid hkx
        have HW := Lib.hid hwx
        clear hkx hwx
        go_wp2_with fail
        go_quiet ((refine Calls.quiet_of_same (turned_still _ _ _ (by omega))))
        go_wp2_with (go_at_call 170; refine (turned_any _ _ _ (by omega)).mono ?_; rintro e w' ⟨rfl, rfl⟩)
        go_roundw
        case rel =>
          refine ⟨k + 1, h + (rotr e 6 ^^^ rotr e 11 ^^^ rotr e 25) + (e &&& f ^^^ ~~~e &&& g) + kx + wx + ((rotr a 2 ^^^ rotr a 13 ^^^ rotr a 22) + (a &&& b ^^^ a &&& c ^^^ b &&& c)), a, b, c, d + (h + (rotr e 6 ^^^ rotr e 11 ^^^ rotr e 25) + (e &&& f ^^^ ~~~e &&& g) + kx + wx), e, f, g, by omega, by go_num, ?_, rfl, rfl, rfl, ?_, rfl, rfl, rfl, Sha.rounds_succ ks (wordsOf zs) r0 k a b c d e f g h kx wx HR.out HK.out HW.out, ?_⟩
          · congr 1; simp only [U_not3, U_notmax, U_and, U_xor, U_mod, BitVec.ofInt_add, ofInt_U]
          · congr 1; simp only [U_not3, U_notmax, U_and, U_xor, U_mod, BitVec.ofInt_add, ofInt_U]
          obtain ⟨n, e⟩ := HQ.out
          exact ⟨n + nq, by rw [e, World.drewN_drewN]⟩
        case measure => simp [intOf]; omega
      · obtain rfl : k = 64 := by omega
        have W8 : Hid (Blk wr g8 (s.map v32) 153) := by obtain ⟨n, e⟩ := HQ.out; rw [e]; exact W8.out.drewN n
        have F3 : Hid (Blk wr (w.heap.size + 1 + 1 + 1) (zeros8.map v32) 153) := by obtain ⟨n, e⟩ := HQ.out; rw [e]; exact F3.out.drewN n
        have BW : Hid (Below w.heap.size w wr) := by obtain ⟨n, e⟩ := HQ.out; rw [e]; exact below_drewN BW.out n
        have Hfin : Hid (behindOf s ks zs = addUpto s [a, b, c, d, e, f, g, h] 8) := by
          show _ = _
          rw [behindOf_eq, show R8.get s = r0 from by rw [Hs8.out, get_eight, Hr0.out], HR.out]; rfl
        go_wp2_with fail
        go_loopw [113] (fun i wr2 => ∃ k : Nat, k ≤ 8 ∧ i = .int .i64 k ∧ Below w.heap.size w wr2 ∧ Blk wr2 g8 ((addUpto s [a, b, c, d, e, f, g, h] k).map v32) 153 ∧ Blk wr2 (w.heap.size + 1 + 1 + 1) (zeros8.map v32) 153) (fun i _ => 8 - (intOf i).toNat)
        case atStart => exact ⟨0, by omega, rfl, BW.out, by rw [addUpto_zero]; exact W8.out, F3.out⟩
        case round =>
          obtain ⟨k, hk, rfl, hb, hc, hr⟩ := hrel
          by_cases hlt2 : k < 8
          · obtain ⟨x, hx⟩ : ∃ x, x = (addUpto s [a, b, c, d, e, f, g, h] k).getD k 0 := ⟨_, rfl⟩
            obtain ⟨y, hy⟩ : ∃ y, y = ([a, b, c, d, e, f, g, h] : List W).getD k 0 := ⟨_, rfl⟩
            have lk : (addUpto s [a, b, c, d, e, f, g, h] k).length = 8 := by rw [addUpto_length, Hs.out]
            have cx : wr.cell? ⟨g8, k, none⟩ = some (v32 x) := by
              rw [hc.cell, List.getElem?_map, List.getElem?_eq_getElem (by omega), hx]; simp [lk, hlt2]
            have cf : wr.frozen? ⟨g8, k, none⟩ = false := hc.free _
            have CY : Hid ((([a, b, c, d, e, f, g, h] : List W).map v32).toArray[(k : Int).toNat]? = some (v32 y)) := by
              show _ = _
              rw [Int.toNat_natCast, List.getElem?_toArray, List.getElem?_map, List.getElem?_eq_getElem (by simpa using hlt2), hy, List.getD_eq_getElem?_getD, List.getElem?_eq_getElem (by simpa using hlt2)]; rfl
            have HX := Lib.hid hx
            have HY := Lib.hid hy
            have HC := Lib.hid hc
            have HR2 := Lib.hid hr
            clear hx hy hc hr lk
            go_wp2_with (first | (refine wpList_index_arr rfl 153 _ _ rfl _ rfl _ rfl 8 151 Tryz.underlying153 _ Tryz.underlying151 rfl word1 (by omega) _ CY.out ?_))
            go_roundw
            case rel =>
              have R2 : Blk (wr.setCell ⟨g8, k, none⟩ (.int .u32 (U (x + y)))) g8 ((addUpto s [a, b, c, d, e, f, g, h] (k + 1)).map v32) 153 := by
                rw [addUpto_succ s _ k x y HX.out HY.out]
                exact HC.out.set _ _
              exact ⟨_, _, _, _, _, _, _, _, _, _, _, _, _, ⟨k + 1, by omega, by go_num, hb.setCell (by simp; omega) _, R2, HR2.out.setOther _ _ (by simp; omega)⟩, rfl⟩
            case measure => simp [intOf]; omega
          · obtain rfl : k = 8 := by omega
            have HC := Lib.hid hc
            have HR2 := Lib.hid hr
            have hsz2 : (Tryz.prog.info? 153).map (fun i => i.size) = some ((addUpto s [a, b, c, d, e, f, g, h] 8).map v32).toArray.size := by rw [size44]; simp [addUpto_length, Hs.out]
            clear hc hr
            go_wp2_with (first
              | (refine wpList_load_row rfl 153 _ rfl _ rfl _ _ _ _ HC.out (Tryz.underlying153) rfl hsz2 ?_)
              | (refine wpList_store_row rfl 153 _ _ rfl _ _ rfl rfl _ _ HR2.out hsz2 (by simp [zeros8_length, addUpto_length, Hs.out]) (one32 _) ?_))
            refine bodyPost_ret (v := .agg ((addUpto s [a, b, c, d, e, f, g, h] 8).map v32).toArray) ?_ rfl ⟨by rw [Hfin.out], Below.setRow hb (by omega) _⟩
            exact results_cell_row rfl _ _ _ _ _ _ _ rfl (HR2.out.row _) (Tryz.underlying153) rfl hsz2
end
end Go.Proofs.YtokpabkcaofahaaGreat
