/-
  The reference's words of a block.
-/
import Derived.Test.YtpbdajgbahnbjaaRefA
import Derived.Test.YtpbdajgbahnbjaaOwn
import Derived.Deep.AppendLies
import Derived.Deep.RegionHeld3
import Derived.Deep.RegionLaw
namespace Go.Proofs.Ytpbdajgbahnbjaa
set_option linter.unusedSimpArgs false
set_option linter.unusedVariables false
open Go.RowKit Sha
attribute [local go_sem] U_and U_or U_xor U_add U_shl8 U_shr3 U_shr10 U_not U_notmax U_or_int
theorem word_info : (Try.prog.info? 42).map (fun i => (i.zero, i.size, i.bytes)) = some (some (.int .u32 0), 1, 4) := by kernel_rfl
theorem one32l (l : List W) : ∀ u ∈ l.map v32, u.oneCell' = true := by simp [Value.oneCell']
theorem own_cell32 {w : World} {B n g c : Nat} {e : TypeId} {l : List W} (h : w.ownsRow B e 1 (.slice (some ⟨g, 0, none⟩) n c) n (l.map v32)) (i : Nat) (hi : i < l.length) : w.cell? ⟨g, i, none⟩ = some (v32 (l.getD i 0)) := by
  obtain ⟨p, cap, hv, _, _, hA, _⟩ := own_at h
  cases hv
  rcases hA with hA | ⟨b, off, ha, hc⟩
  · rw [List.map_eq_nil_iff] at hA; subst hA; simp at hi
  · cases ha
    have := hc i (v32 (l.getD i 0)) (by rw [List.getElem?_map, List.getElem?_eq_getElem hi, List.getD_eq_getElem?_getD, List.getElem?_eq_getElem hi]; rfl)
    rwa [Nat.zero_add] at this
theorem own_cast {w : World} {B n : Nat} {e : TypeId} {v : Value} {xs : List Value} {a b : Value} (h : w.ownsRow B e 1 v n (xs ++ [a])) (hab : a = b) : w.ownsRow B e 1 v n (xs ++ [b]) := by rw [← hab]; exact h
theorem at_cell8 {w : World} {b off : Nat} {l : List Int} (h : At w (some ⟨b, off, none⟩) (l.map v8)) (i : Nat) (hi : i < l.length) : w.cell? ⟨b, off + i, none⟩ = some (v8 (l.getD i 0)) := by
  rcases h with hA | ⟨b', off', ha, hc⟩
  · rw [List.map_eq_nil_iff] at hA; subst hA; simp at hi
  · cases ha
    exact hc i _ (by rw [List.getElem?_map, List.getElem?_eq_getElem hi, List.getD_eq_getElem?_getD, List.getElem?_eq_getElem hi]; rfl)
theorem getD_bd8 {l : List Int} (h : ∀ n ∈ l, 0 ≤ n ∧ n ≤ 255) (i : Nat) (hi : i < l.length) : 0 ≤ l.getD i 0 ∧ l.getD i 0 ≤ 255 := h _ (by rw [List.getD_eq_getElem?_getD, List.getElem?_eq_getElem hi]; simp)
set_option maxRecDepth 100000 in
set_option maxHeartbeats 2000000 in
theorem rwords_any (zs : List Int) (p : Option Addr) (cap : Nat) (w : World) (hl : zs.length = 64) (hz : ∀ n ∈ zs, 0 ≤ n ∧ n ≤ 255) (hA : At w p (zs.map v8)) :
    Calls Try.prog 37 #[.slice p 64 cap] w
      fun e w' => ∃ g c, e = .returned (.slice (some ⟨g, 0, none⟩) 64 c) ∧ w'.ownsRow w.heap.size 42 1 (.slice (some ⟨g, 0, none⟩) 64 c) 64 ((wordsOf zs).map v32) ∧ Below w.heap.size w w' := by
  obtain ⟨b, off, rfl, _⟩ := hA.addr (by rw [List.length_map]; omega)
  have HA := Lib.hid hA
  have Hl := Lib.hid hl
  have HW := Lib.hid (wordsOf_length zs)
  clear hA hl
  obtain ⟨i0, hi0, hz0, hz1, hz2⟩ := info_parts word_info
  go_enter Try.func37, Try.ntmps37
  go_wp2_with fail
  go_loopw [3, 4] (fun v i wr => ∃ (k : Nat) (v0 : Value), k ≤ 16 ∧ i = .int .i64 k ∧ v0 = v ∧ wr.ownsRow w.heap.size 42 1 v0 k (((wordsOf zs).take k).map v32) ∧ Below w.heap.size w wr ∧ w.heap.size ≤ wr.heap.size) (fun _ i _ => 16 - (intOf i).toNat)
  case atStart => exact ⟨0, _, by omega, rfl, rfl, by rw [List.take_zero]; exact World.ownsRow_nil _ _ _ _, Below.refl _ _, Nat.le_refl _⟩
  case round =>
    obtain ⟨k, v3, hk, rfl, rfl, hown, hb, hs⟩ := hrel
    have HO := Lib.hid hown
    clear hown
    by_cases hlt : k < 16
    · have ha := HA.out.below hb
      have c0 := at_cell8 ha (4 * k) (by rw [Hl.out]; omega)
      have c1 := at_cell8 ha (4 * k + 1) (by rw [Hl.out]; omega)
      have c2 := at_cell8 ha (4 * k + 2) (by rw [Hl.out]; omega)
      have c3 := at_cell8 ha (4 * k + 3) (by rw [Hl.out]; omega)
      have d0 := getD_bd8 hz (4 * k) (by rw [Hl.out]; omega)
      have d1 := getD_bd8 hz (4 * k + 1) (by rw [Hl.out]; omega)
      have d2 := getD_bd8 hz (4 * k + 2) (by rw [Hl.out]; omega)
      have d3 := getD_bd8 hz (4 * k + 3) (by rw [Hl.out]; omega)
      have HL := Lib.hid (words_low zs k hlt)
      generalize zs.getD (4 * k) 0 = b0 at *
      generalize zs.getD (4 * k + 1) 0 = b1 at *
      generalize zs.getD (4 * k + 2) 0 = b2 at *
      generalize zs.getD (4 * k + 3) 0 = b3 at *
      have HV : Hid (v32 ((wordsOf zs).getD k 0) = .int .u32 (IntKind.u32.wrap (IntKind.u32.wrap (IntKind.u32.wrap (IntKind.u32.wrap (IntKind.u32.wrap b0 * 16777216) + IntKind.u32.wrap (IntKind.u32.wrap b1 * 65536)) + IntKind.u32.wrap (IntKind.u32.wrap b2 * 256)) + IntKind.u32.wrap b3))) := by
        show _ = _
        rw [HL.out]; unfold v32; rw [four_U b0 b1 b2 b3 d0 d1 d2 d3]; simp only [IntKind.wrap_u32]; congr 1; omega
      have HT := Lib.hid (take_next (wordsOf zs) k 0 _ (by rw [HW.out]; omega) rfl)
      clear ha
      have lb : b < wr.heap.size := World.block_lt_of_cell? wr _ c0
      have lbw : b < w.heap.size := World.block_lt_of_cell? w _ (at_cell8 HA.out 0 (by rw [Hl.out]; omega))
      have AV : v3.ownBlock ≠ some b := fun h => by have := (HO.out.lt b h).1; omega
      have AVH := Lib.hid AV
      clear AV
      have g0 : (0 : Int) ≤ 4 * (k : Int) := by omega
      have g1 : 4 * (k : Int) < 61 := by omega
      have hB := Lib.hid (And.intro hk (And.intro hs hlt))
      have e0 : IntKind.i64.wrap (4 * (k : Int)) = 4 * (k : Int) := IntWalk.i64_in _ (by omega)
      have e1 : IntKind.i64.wrap (4 * (k : Int) + 1) = 4 * (k : Int) + 1 := IntWalk.i64_in _ (by omega)
      have e2 : IntKind.i64.wrap (4 * (k : Int) + 2) = 4 * (k : Int) + 2 := IntWalk.i64_in _ (by omega)
      have e3 : IntKind.i64.wrap (4 * (k : Int) + 3) = 4 * (k : Int) + 3 := IntWalk.i64_in _ (by omega)
      have a0 : (4 * (k : Int)).toNat = 4 * k := by omega
      have a1 : (4 * (k : Int) + 1).toNat = 4 * k + 1 := by omega
      have a2 : (4 * (k : Int) + 2).toNat = 4 * k + 2 := by omega
      have a3 : (4 * (k : Int) + 3).toNat = 4 * k + 3 := by omega
      have b0' : (0 : Int) ≤ 4 * (k : Int) + 1 := by omega
      have b1' : (0 : Int) ≤ 4 * (k : Int) + 2 := by omega
      have b2' : (0 : Int) ≤ 4 * (k : Int) + 3 := by omega
      have q0 : 4 * (k : Int) < 64 := by omega
      have q1 : 4 * (k : Int) + 1 < 64 := by omega
      have q2 : 4 * (k : Int) + 2 < 64 := by omega
      have q3 : 4 * (k : Int) + 3 < 64 := by omega
      clear g1
      go_wp2_with fail
      go_region_held3 (fun w' => w'.cell? ⟨b, off + 4 * k, none⟩ = some (v8 b0) ∧ w'.cell? ⟨b, off + (4 * k + 1), none⟩ = some (v8 b1) ∧ w'.cell? ⟨b, off + (4 * k + 2), none⟩ = some (v8 b2) ∧ w'.cell? ⟨b, off + (4 * k + 3), none⟩ = some (v8 b3))
        (first
          | go_keep
          | (go_split_ands
             refine ⟨?_, ?_, ?_, ?_⟩
             · (rw [hgrow.cell_far _ (by simp; omega) (Ne.symm AVH.out)]; assumption)
             · (rw [hgrow.cell_far _ (by simp; omega) (Ne.symm AVH.out)]; assumption)
             · (rw [hgrow.cell_far _ (by simp; omega) (Ne.symm AVH.out)]; assumption)
             · (rw [hgrow.cell_far _ (by simp; omega) (Ne.symm AVH.out)]; assumption)))
        ((refine step_append_lies _ (by rfl) _ _ _ (by rfl) w.heap.size 42 i0 _ 1 4 Try.underlying49 hi0 hz0 hz1 hz2 rfl (by omega) v3 k _ (by rfl) ((HO.out.alloc _).drew)
            ⟨wr.heap.size, 0, none⟩ 1 1 [_] (by rfl) (by rfl) (World.news_of_block (cs := #[_]) (t := 42) (fr := (0, 0)) (heap_alloc_new wr _)) (by simp [Value.oneCell'])
            (by omega) (by unfold maxLen; omega) (by omega) (by simp; omega) (wr.heap.size + 1) (by simp) ?_; intro gg cap w1 hown1 hgrow hat hlt))
      clear e0 e1 e2 e3 a0 a1 a2 a3 b0' b1' b2' q0 q1 q2 q3
      go_wp2_with fail
      go_roundw
      case rel =>
        refine ⟨k + 1, _, by omega, by go_num, rfl, ?_, (((hb.alloc hs _).drew).grown hgrow (by simp; omega) (fun j hj => (HO.out.lt j hj).1)), by have := hgrow.size; simp at this; omega⟩
        rw [HT.out, List.map_append, List.map_cons, List.map_nil, HV.out]
        exact hown1
      case measure => simp [intOf]; omega
    · obtain rfl : k = 16 := by omega
      clear hlt hk
      rw [show ((16 : Nat) : Int) = (16 : Int) from rfl]
      go_wp2_with fail
      go_loopw [3, 5] (fun v i wr => ∃ (k : Nat) (v0 : Value), k ≤ 48 ∧ i = .int .i64 (k + 16) ∧ v0 = v ∧ wr.ownsRow w.heap.size 42 1 v0 (k + 16) (((wordsOf zs).take (k + 16)).map v32) ∧ Below w.heap.size w wr ∧ w.heap.size ≤ wr.heap.size) (fun _ i _ => 64 - (intOf i).toNat)
      case atStart => exact ⟨0, _, by omega, rfl, rfl, HO.out, hb, hs⟩
      case round =>
        clear HO hb hs
        obtain ⟨k, v0, hk, rfl, rfl, hown, hb, hs⟩ := hrel
        obtain ⟨g, c, rfl, hg, hmc, hcm, hgs⟩ := own_form hown (by omega)
        have HO := Lib.hid hown
        clear hown
        by_cases hlt : k < 48
        · have ll : ((wordsOf zs).take (k + 16)).length = k + 16 := by rw [List.length_take, HW.out]; omega
          have gt : ∀ j, j < k + 16 → ((wordsOf zs).take (k + 16)).getD j 0 = (wordsOf zs).getD j 0 := fun j hj => by
            rw [List.getD_eq_getElem?_getD, List.getElem?_take, if_pos hj, ← List.getD_eq_getElem?_getD]
          have c0 := own_cell32 HO.out k (by omega)
          have c1 := own_cell32 HO.out (k + 1) (by omega)
          have c9 := own_cell32 HO.out (k + 9) (by omega)
          have c14 := own_cell32 HO.out (k + 14) (by omega)
          rw [gt _ (by omega)] at c0 c1 c9 c14
          have HH := Lib.hid (words_high zs k hlt)
          have HT := Lib.hid (take_next (wordsOf zs) (k + 16) 0 _ (by rw [HW.out]; omega) rfl)
          generalize (wordsOf zs).getD k 0 = x0 at *
          generalize (wordsOf zs).getD (k + 1) 0 = x1 at *
          generalize (wordsOf zs).getD (k + 9) 0 = x9 at *
          generalize (wordsOf zs).getD (k + 14) 0 = x14 at *
          clear ll gt
          go_wp2_with fail
          go_quiet (fail)
          go_wp2_with (go_at_call 38; refine (rturned_any _ _ _ (by omega)).mono ?_; rintro e w' ⟨rfl, rfl⟩)
          have cq0 : (wr.drewN nq).cell? ⟨g, k, none⟩ = some (v32 x0) := c0
          have cq9 : (wr.drewN nq).cell? ⟨g, k + 9, none⟩ = some (v32 x9) := c9
          have HQ : Hid ((wr.drewN nq).ownsRow w.heap.size 42 1 (.slice (some ⟨g, 0, none⟩) (k + 16) c) (k + 16) (((wordsOf zs).take (k + 16)).map v32)) := HO.out
          have hbq : Below w.heap.size w (wr.drewN nq) := below_drewN hb nq
          have hsq : w.heap.size ≤ (wr.drewN nq).heap.size := hs
          have hgq : g < (wr.drewN nq).heap.size := hgs
          clear c0 c1 c9 c14 HO hb hs hgs
          generalize wr.drewN nq = wq at *
          have hB := Lib.hid (And.intro hk (And.intro hsq hlt))
          have e0 : IntKind.i64.wrap ((k : Int) + 16 - 16) = (k : Int) := by rw [show (k : Int) + 16 - 16 = (k : Int) by omega]; exact IntWalk.i64_in _ (by omega)
          have e1 : IntKind.i64.wrap ((k : Int) + 16 - 7) = (k : Int) + 9 := by rw [show (k : Int) + 16 - 7 = (k : Int) + 9 by omega]; exact IntWalk.i64_in _ (by omega)
          have a1 : ((k : Int) + 9).toNat = k + 9 := by omega
          have b1' : (0 : Int) ≤ (k : Int) + 9 := by omega
          have q0 : (k : Int) < ((k + 16 : Nat) : Int) := by omega
          have q1 : (k : Int) + 9 < ((k + 16 : Nat) : Int) := by omega
          have q2 : (k : Int) < (k : Int) + 16 := by omega
          have q3 : (k : Int) + 9 < (k : Int) + 16 := by omega
          have e2 : IntKind.i64.wrap (k : Int) = (k : Int) := IntWalk.i64_in _ (by omega)
          have e3 : IntKind.i64.wrap ((k : Int) + 9) = (k : Int) + 9 := IntWalk.i64_in _ (by omega)
          go_region_law ((refine step_append_lies _ (by rfl) _ _ _ (by rfl) w.heap.size 42 i0 _ 1 4 Try.underlying49 hi0 hz0 hz1 hz2 rfl (by omega) (.slice (some ⟨g, 0, none⟩) (k + 16) c) (k + 16) _ (by rfl) ((HQ.out.alloc _).drew) ⟨wq.heap.size, 0, none⟩ 1 1 [_] (by rfl) (by rfl) (World.news_of_block (cs := #[_]) (t := 42) (fr := (0, 0)) (heap_alloc_new wq _)) (by simp [Value.oneCell']) (by omega) (by unfold maxLen; omega) (by omega) (by simp; omega) (wq.heap.size + 1) (by simp) ?_; intro gg cap w1 hown1 hgrow hat hlt))
          all_goals
            clear e0 e1 e2 e3 a1 b1' q0 q1 q2 q3
            go_wp2_with fail
            go_roundw
            case rel =>
              refine ⟨k + 1, _, by omega, by rw [show ((k + 1 : Nat) : Int) + 16 = (k : Int) + 16 + 1 by omega], rfl, ?_, (((hbq.alloc hsq _).drew).grown hgrow (by simp; omega) (fun j hj => (HQ.out.lt j hj).1)), by have := hgrow.size; simp at this; omega⟩
              rw [show k + 1 + 16 = k + 16 + 1 by omega, HT.out, List.map_append, List.map_cons, List.map_nil, HH.out]
              refine own_cast hown1 ?_
              unfold v32 small0 small1
              simp only [u32_wrap, BitVec.ofInt_add, ofInt_U]
            case measure => simp [intOf]; omega
        · obtain rfl : k = 48 := by omega
          have HZ : Hid ((wordsOf zs).take (48 + 16) = wordsOf zs) := List.take_of_length_le (by rw [HW.out]; omega)
          go_wp2_with fail
          go_ret
          exact ⟨g, c, rfl, by have := HO.out; rwa [HZ.out] at this, hb⟩
end Go.Proofs.Ytpbdajgbahnbjaa
