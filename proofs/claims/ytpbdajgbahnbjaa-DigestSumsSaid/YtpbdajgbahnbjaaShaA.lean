/-
  What a word turned is, and the schedule of a block: the contracts of turned and words.
-/
import Derived.Test.YtpbdajgbahnbjaaRows
import Derived.Test.YtpbdajgbahnbjaaSha
import Derived.Test.YtpbdajgbahnbjaaArr
import Derived.WalkSpells
import Derived.WalkLawsBesides
namespace Go.Proofs.Ytpbdajgbahnbjaa
set_option linter.unusedSimpArgs false
set_option linter.unusedVariables false
open Go.RowKit Sha
attribute [local go_sem] U_and U_or U_xor U_add U_shl8 U_shr3 U_shr10 U_not U_notmax U_or_int
theorem bits31 (n : Nat) (h : 1 ≤ n ∧ n ≤ 31) : bits BinOp.and IntKind.u64 (IntKind.u64.wrap (-(n : Int))) 31 = 32 - (n : Int) := by
  have : n = 1 ∨ n = 2 ∨ n = 3 ∨ n = 4 ∨ n = 5 ∨ n = 6 ∨ n = 7 ∨ n = 8 ∨ n = 9 ∨ n = 10 ∨ n = 11 ∨ n = 12 ∨ n = 13 ∨ n = 14 ∨ n = 15 ∨ n = 16 ∨ n = 17 ∨ n = 18 ∨ n = 19 ∨ n = 20 ∨ n = 21 ∨ n = 22 ∨ n = 23 ∨ n = 24 ∨ n = 25 ∨ n = 26 ∨ n = 27 ∨ n = 28 ∨ n = 29 ∨ n = 30 ∨ n = 31 := by omega
  rcases this with h | h | h | h | h | h | h | h | h | h | h | h | h | h | h | h | h | h | h | h | h | h | h | h | h | h | h | h | h | h | h <;> subst h <;> decide +kernel
set_option maxHeartbeats 400000 in
theorem rot_any (x : W) (n : Nat) (w : World) (hn : 1 ≤ n ∧ n ≤ 31) :
    Calls Try.prog 41 #[v32 x, .int .i64 (-(n : Int))] w fun e w' => e = .returned (v32 (rotr x n)) ∧ w = w' := by
  have hb := bits31 n hn
  go_enter Try.func41, Try.ntmps41
  go_wp2
  go_ret
  refine ⟨ret_int ?_, rfl⟩
  rw [U_shl, show 32 - (32 - n) = n by omega, U_shr, U_or, rot x n hn]
set_option maxHeartbeats 400000 in
theorem turned_any (x : W) (n : Int) (w : World) (hn : 1 ≤ n ∧ n ≤ 31) :
    Calls Try.prog 40 #[v32 x, .int .i64 n] w fun e w' => e = .returned (v32 (rotr x n.toNat)) ∧ w = w' := by
  obtain ⟨n, rfl⟩ := Int.eq_ofNat_of_zero_le (show 0 ≤ n by omega)
  go_enter Try.func40, Try.ntmps40
  go_wp2_with (go_at_call 41; refine (rot_any _ _ _ (by omega)).mono ?_; rintro e w' ⟨rfl, rfl⟩)
  go_ret
  exact ⟨rfl, rfl⟩
theorem turned_still (x : W) (n : Int) (w : World) (hn : 1 ≤ n ∧ n ≤ 31) :
    Calls Try.prog 40 #[v32 x, .int .i64 n] w fun e w' => e = .returned (v32 (rotr x n.toNat)) ∧ w' = w := (turned_any x n w hn).mono fun _ _ ⟨h, h'⟩ => ⟨h, h'.symm⟩
theorem info59 (zs : List Int) : (Try.prog.info? 59).map (fun i => i.zero) = some (some (.agg ((fill zs 0).map v32).toArray)) := by kernel_rfl
theorem byte1 : (Try.prog.info? 5).map (fun i => i.size) = some 1 := by kernel_rfl
theorem word1 : (Try.prog.info? 42).map (fun i => i.size) = some 1 := by kernel_rfl
theorem size59 : (Try.prog.info? 59).map (fun i => i.size) = some 64 := by kernel_rfl
theorem one32 (l : List W) : (l.map v32).toArray.all (·.oneCell') = true := by simp [Value.oneCell']
theorem size62 : (Try.prog.info? 62).map (fun i => i.size) = some 64 := by kernel_rfl
set_option maxRecDepth 100000 in
set_option maxHeartbeats 1000000 in
theorem words_any (zs : List Int) (w : World) (hl : zs.length = 64) (hz : ∀ n ∈ zs, 0 ≤ n ∧ n ≤ 255) :
    Calls Try.prog 39 #[.agg (zs.map v8).toArray] w fun e w' => e = .returned (.agg ((wordsOf zs).map v32).toArray) ∧ Below w.heap.size w w' := by
  have hsz : (Try.prog.info? 62).map (fun i => i.size) = some (zs.map v8).toArray.size := by rw [size62]; simp [hl]
  have Hl := Lib.hid hl
  clear hl
  go_enter Try.func39, Try.ntmps39
  go_wp2_with (first | (refine wpList_box_arr rfl 62 _ rfl _ rfl ?_) | (refine wpList_alloc_arr rfl 59 rfl _ (info59 zs) ?_) | (refine wpList_load_row rfl 62 _ rfl _ rfl _ _ _ _ (Blk.old (Blk.old (Blk.new _ _ _) _) _) (Try.underlying62) rfl hsz ?_))
  go_loopw [10] (fun i wr => ∃ k : Nat, k ≤ 64 ∧ i = .int .i64 k ∧ Below w.heap.size w wr ∧ Blk wr (w.heap.size + 1) ((fill zs 0).map v32) 59 ∧ Blk wr (w.heap.size + 1 + 1) ((fill zs k).map v32) 59) (fun i _ => 64 - (intOf i).toNat)
  case atStart =>
    refine ⟨0, by omega, rfl, ?_, ?_, ?_⟩
    · exact (((Below.refl _ _).alloc (by simp) _).alloc (by simp) _).alloc (by simp; omega) _
    · have := (Blk.new (w.alloc (Obj.cells (List.map v8 zs).toArray 62)) ((fill zs 0).map v32).toArray 59).old (Obj.cells (List.map v32 (fill zs 0)).toArray 59)
      simpa using this
    · have := Blk.new ((w.alloc (Obj.cells (List.map v8 zs).toArray 62)).alloc (Obj.cells (List.map v32 (fill zs 0)).toArray 59)) ((fill zs 0).map v32).toArray 59
      simpa using this
  case round =>
    obtain ⟨k, hk, rfl, hb, hr, hc⟩ := hrel
    by_cases hlt : k < 64
    · obtain ⟨x, hx⟩ : ∃ x, x = (fill zs k).getD (k / 4) 0 := ⟨_, rfl⟩
      obtain ⟨n, hn⟩ : ∃ n, n = zs.getD k 0 := ⟨_, rfl⟩
      have c1 : wr.cell? ⟨w.heap.size + 1 + 1, k / 4, none⟩ = some (v32 x) := by
        rw [hc.cell, List.getElem?_map, List.getElem?_eq_getElem (by rw [fill_length]; omega), hx]; simp [fill_length, show k / 4 < 64 by omega]
      have c2 : wr.frozen? ⟨w.heap.size + 1 + 1, k / 4, none⟩ = false := hc.free _
      have C3 := Lib.hid (show (zs.map v8).toArray[(k : Int).toNat]? = some (v8 n) by
        simp [Hl.out, hlt, hn])
      have c4 : 0 ≤ n ∧ n ≤ 255 := hz n (by rw [hn]; simp [Hl.out, hlt])
      have Hx := Lib.hid hx
      have Hn := Lib.hid hn
      have HC := Lib.hid hc
      have HR := Lib.hid hr
      clear hc hx hn hr
      go_wp2_with (first | (refine wpList_index_arr rfl 62 _ _ rfl _ rfl _ rfl 64 5 Try.underlying62 _ Try.underlying5 rfl byte1 (by omega) _ C3.out ?_))
      go_roundw
      case rel =>
        refine ⟨k + 1, by omega, by go_num, hb.setCell (by simp; omega) _, HR.out.setOther _ _ (by simp), ?_⟩
        rw [fill_succ zs k x n Hx.out Hn.out]
        exact HC.out.set _ _
      case measure => simp [intOf]; omega
    · obtain rfl : k = 64 := by omega
      go_wp2_with fail
      obtain ⟨l, hl⟩ : ∃ l, l = fill zs 64 := ⟨_, rfl⟩
      have ll : l.length = 64 := by rw [hl, fill_length]
      rw [← hl] at hc
      have hfin : wordsOf zs = ext l 48 := by rw [hl, wordsOf_eq]
      clear hl
      have Hfin := Lib.hid hfin
      have Hll := Lib.hid ll
      clear hfin ll
      go_loopw [6] (fun i wr => ∃ k : Nat, k ≤ 48 ∧ i = .int .i64 (k + 16) ∧ Below w.heap.size w wr ∧ Blk wr (w.heap.size + 1) ((fill zs 0).map v32) 59 ∧ Blk wr (w.heap.size + 1 + 1) ((ext l k).map v32) 59) (fun i _ => 64 - (intOf i).toNat)
      case atStart => exact ⟨0, by omega, rfl, hb, hr, by unfold ext; exact hc⟩
      case round =>
        clear hb hr hc hk
        obtain ⟨k, hk, rfl, hb, hr, hc⟩ := hrel
        by_cases hlt2 : k < 48
        · obtain ⟨x0, hx0⟩ : ∃ x, x = (ext l k).getD k 0 := ⟨_, rfl⟩
          obtain ⟨x1, hx1⟩ : ∃ x, x = (ext l k).getD (k + 1) 0 := ⟨_, rfl⟩
          obtain ⟨x9, hx9⟩ : ∃ x, x = (ext l k).getD (k + 9) 0 := ⟨_, rfl⟩
          obtain ⟨x14, hx14⟩ : ∃ x, x = (ext l k).getD (k + 14) 0 := ⟨_, rfl⟩
          have lk : (ext l k).length = 64 := by rw [ext_length, Hll.out]
          have c0 : wr.cell? ⟨w.heap.size + 1 + 1, k, none⟩ = some (v32 x0) := by
            rw [hc.cell, List.getElem?_map, List.getElem?_eq_getElem (by omega), hx0]; simp [lk, show k < 64 by omega]
          have c1 : wr.cell? ⟨w.heap.size + 1 + 1, k + 1, none⟩ = some (v32 x1) := by
            rw [hc.cell, List.getElem?_map, List.getElem?_eq_getElem (by omega), hx1]; simp [lk, show k + 1 < 64 by omega]
          have c9 : wr.cell? ⟨w.heap.size + 1 + 1, k + 9, none⟩ = some (v32 x9) := by
            rw [hc.cell, List.getElem?_map, List.getElem?_eq_getElem (by omega), hx9]; simp [lk, show k + 9 < 64 by omega]
          have c14 : wr.cell? ⟨w.heap.size + 1 + 1, k + 14, none⟩ = some (v32 x14) := by
            rw [hc.cell, List.getElem?_map, List.getElem?_eq_getElem (by omega), hx14]; simp [lk, show k + 14 < 64 by omega]
          have c16 : wr.cell? ⟨w.heap.size + 1 + 1, k + 16, none⟩ = some (v32 ((ext l k).getD (k + 16) 0)) := by
            rw [hc.cell, List.getElem?_map, List.getElem?_eq_getElem (by omega)]; simp [lk, show k + 16 < 64 by omega]
          have cf : wr.frozen? ⟨w.heap.size + 1 + 1, k + 16, none⟩ = false := hc.free _
          have H0 := Lib.hid hx0
          have H1 := Lib.hid hx1
          have H9 := Lib.hid hx9
          have H14 := Lib.hid hx14
          have HC := Lib.hid hc
          have HR := Lib.hid hr
          clear hx0 hx1 hx9 hx14 hc hr lk
          go_wp2_with fail
          go_quiet (fail)
          go_wp2_with fail
          refine region_tail 29 (by kernel_rfl) (by kernel_rfl) ?_
          simp only [List.take_succ_cons, List.take_zero, List.drop_succ_cons, List.drop_zero]
          repeat (first | go_big_quiet_skip | (go_big_quiet_want; go_big_quiet_op; first | go_big_quiet_on | (refine ⟨_, turned_still _ _ _ (by omega), ?_⟩; go_big_quiet_on)))
          refine wpQuiet_nil ?_
          go_wp2_with fail
          go_roundw
          case rel =>
            refine ⟨k + 1, by omega, by go_num, (below_drewN hb _).setCell (by simp; omega) _, (HR.out.drewN _).setOther _ _ (by simp), ?_⟩
            rw [ext_succ l k x0 x1 x9 x14 H0.out H1.out H9.out H14.out]
            unfold small0 small1
            exact (HC.out.drewN _).set _ _
          case measure => simp [intOf]; omega
        · obtain rfl : k = 48 := by omega
          have HC := Lib.hid hc
          have HR := Lib.hid hr
          have hsz2 : (Try.prog.info? 59).map (fun i => i.size) = some ((ext l 48).map v32).toArray.size := by rw [size59]; simp [ext_length, Hll.out]
          clear hc hr
          go_wp2_with (first
            | (refine wpList_load_row rfl 59 _ rfl _ rfl _ _ _ _ HC.out (Try.underlying59) rfl hsz2 ?_)
            | (refine wpList_store_row rfl 59 _ _ rfl _ _ rfl rfl _ _ HR.out hsz2 (by simp [fill_length, ext_length, Hll.out]) (one32 _) ?_))
          refine bodyPost_ret (v := .agg ((wordsOf zs).map v32).toArray) ?_ rfl ⟨rfl, Below.setRow hb (by omega) _⟩
          rw [Hfin.out]
          exact results_cell_row rfl _ _ _ _ _ _ _ rfl (HR.out.row _) (Try.underlying59) rfl hsz2
end Go.Proofs.Ytpbdajgbahnbjaa
