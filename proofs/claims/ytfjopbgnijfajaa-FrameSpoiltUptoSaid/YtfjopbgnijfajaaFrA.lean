/-
  The law package of frames: Long, same, copied.
-/
import Derived.Test.YtfjopbgnijfajaaRecs
import Derived.WalkSpells
import Derived.IntWalk
import Derived.WalkLawsBesides
namespace Go.Proofs.Ytfjopbgnijfajaa
set_option linter.unusedSimpArgs false
set_option linter.unusedVariables false
open Go.RowKit Sha
def LongDone (l : List (List Int)) (w : World) (e : Ending) (w' : World) : Prop := ∃ b : Bool, e = .returned (.bool b) ∧ (b = false → l.length ≤ 20 ∧ ∀ x ∈ l, x.length ≤ 4100) ∧ w = w'
set_option maxRecDepth 100000 in
set_option maxHeartbeats 1000000 in
theorem flong_any (p : Option Addr) (n c : Nat) (l : List (List Int)) (w : World) (h : Recs w p n c l) :
    Calls Try.prog 9 #[.slice p n c] w (LongDone l w) := by
  have HT := Lib.hid h
  have hm := h.max
  have hc := h.le
  clear h
  go_enter Try.func9, Try.ntmps9
  go_wp2_with fail
  go_loop [3] (fun i => ∃ k : Nat, k ≤ n ∧ i = .int .i64 k ∧ k ≤ 21 ∧ Hid (∀ x ∈ l.take k, x.length ≤ 4100)) (fun i => n - (intOf i).toNat)
  case atStart => exact ⟨0, by omega, rfl, by omega, Lib.hid (by simp)⟩
  case round =>
    obtain ⟨k, hk, rfl, hk21, HK⟩ := hrel
    by_cases hlt : k < n
    · by_cases h21 : k < 21
      · obtain ⟨b, off, q, d, rfl, c1, hg⟩ := HT.out.get k (by rw [← HT.out.len]; exact hlt)
        obtain ⟨m, hm2⟩ : ∃ m, m = (l[k]'(by rw [← HT.out.len]; exact hlt)).length := ⟨_, rfl⟩
        rw [← hm2] at c1
        have HM2 := Lib.hid hm2
        clear hg hm2
        by_cases h200 : 4100 < m
        · go_wp2_with fail
          go_ret
          exact ⟨true, rfl, by simp, rfl⟩
        · go_wp2_with fail
          go_round
          case rel =>
            refine ⟨k + 1, by omega, by go_num, by omega, Lib.hid fun x hx => ?_⟩
            rw [List.take_succ_eq_append_getElem (by rw [← HT.out.len]; exact hlt)] at hx
            rcases List.mem_append.1 hx with hx | hx
            · exact HK.out x hx
            · rw [List.mem_singleton.1 hx, ← HM2.out]; omega
          case measure => simp [intOf]; omega
      · go_wp2_with fail
        go_ret
        exact ⟨_, rfl, by have := HT.out.len; simp; omega, rfl⟩
    · obtain rfl : k = n := by omega
      go_wp2_with fail
      go_ret
      refine ⟨_, rfl, fun hb => ?_, rfl⟩
      have hl := HT.out.len
      have h20 : ¬ (20 : Nat) < k := by simp at hb; omega
      exact ⟨by omega, fun x hx => HK.out x (by rw [List.take_of_length_le (by omega)]; exact hx)⟩
theorem ltake_succ {xs ys : List (List Int)} {k : Nat} (hx : k < xs.length) (hy : k < ys.length) (h : xs.take k = ys.take k) : (xs.take (k + 1) = ys.take (k + 1)) ↔ xs[k] = ys[k] := by
  rw [List.take_succ_eq_append_getElem hx, List.take_succ_eq_append_getElem hy, h]
  exact ⟨fun e => by have := List.append_cancel_left e; simpa using this, fun e => by rw [e]⟩
set_option maxRecDepth 100000 in
set_option maxHeartbeats 1000000 in
theorem recsSame_any (xs ys : List (List Int)) (p q : Option Addr) (n m c d : Nat) (w : World) (hx : Recs w p n c xs) (hy : Recs w q m d ys) :
    Calls Try.prog 20 #[.slice p n c, .slice q m d] w fun e w' => e = .returned (.bool (decide (xs = ys))) ∧ Below w.heap.size w w' := by
  have HX := Lib.hid hx
  have HY := Lib.hid hy
  have m1 := hx.max
  have c1 := hx.le
  have m2 := hy.max
  have c2 := hy.le
  clear hx hy
  by_cases hnm : n = m
  · subst hnm
    have HLL := Lib.hid (show xs.length = ys.length by rw [← HX.out.len, ← HY.out.len])
    go_enter Try.func20, Try.ntmps20
    go_wp2_with fail
    go_loopw [5] (fun i wr => ∃ k : Nat, k ≤ n ∧ i = .int .i64 k ∧ Hid (xs.take k = ys.take k) ∧ Hid (Below w.heap.size w wr)) (fun i _ => n - (intOf i).toNat)
    case atStart => exact ⟨0, by omega, rfl, Lib.hid (by simp), Below.refl _ _⟩
    case round =>
      obtain ⟨k, hk, rfl, HK, HB⟩ := hrel
      by_cases hlt : k < n
      · have hkx : k < xs.length := by rw [← HX.out.len]; exact hlt
        have hky : k < ys.length := by rw [← HY.out.len]; exact hlt
        obtain ⟨b1, o1, q1, d1, rfl, a1, g1⟩ := (HX.out.below HB.out).get k hkx
        obtain ⟨b2, o2, q2, d2, rfl, a2, g2⟩ := (HY.out.below HB.out).get k hky
        have HS := Lib.hid (ltake_succ hkx hky HK.out)
        obtain ⟨x, hxx⟩ : ∃ x, x = xs[k] := ⟨_, rfl⟩
        obtain ⟨y, hyy⟩ : ∃ y, y = ys[k] := ⟨_, rfl⟩
        rw [← hxx] at a1 g1
        rw [← hyy] at a2 g2
        rw [← hxx, ← hyy] at HS
        have HNE := Lib.hid (show x ≠ y → xs ≠ ys from fun h e => h (by rw [hxx, hyy]; simp [e]))
        have G1 := Lib.hid g1
        have G2 := Lib.hid g2
        clear hxx hyy hkx hky g1 g2
        obtain ⟨bb, hbb⟩ : ∃ bb, bb = decide (x = y) := ⟨_, rfl⟩
        have QB := Lib.hid (fun nn => (same_any x y x.length y.length q1 q2 d1 d2 (wr.drewN nn) rfl rfl (G1.out.at_.carry fun _ _ h => h) (G2.out.at_.carry fun _ _ h => h) G1.out.bytes G2.out.bytes).mono (fun e w' h => show e = .returned (.bool bb) ∧ w' = wr.drewN nn from ⟨by rw [hbb]; exact h.1, h.2.symm⟩))
        generalize x.length = lx at *
        generalize y.length = ly at *
        cases bb with
        | true =>
          have hxy : x = y := of_decide_eq_true hbb.symm
          have HT := Lib.hid (HS.out.2 hxy)
          clear hbb hxy HS HNE
          go_wp2_with fail
          go_quiet (first | (go_at_call 14; refine Calls.quiet_of_same (QB.out _)))
          have HB2 := Lib.hid (below_drewN HB.out nq)
          generalize wr.drewN nq = wq at *
          go_wp2_with fail
          go_roundw
          case rel => exact ⟨k + 1, by omega, by go_num, HT, HB2⟩
          case measure => simp [intOf]; omega
        | false =>
          have hxy : x ≠ y := of_decide_eq_false hbb.symm
          have HF := Lib.hid (decide_eq_false (HNE.out hxy))
          clear hbb hxy HS HNE
          go_wp2_with fail
          go_quiet (first | (go_at_call 14; refine Calls.quiet_of_same (QB.out _)))
          have HB2 := Lib.hid (below_drewN HB.out nq)
          generalize wr.drewN nq = wq at *
          go_wp2_with fail
          go_ret
          exact ⟨by rw [HF.out]; rfl, HB2.out⟩
      · obtain rfl : k = n := by omega
        have hxy : xs = ys := by
          have h1 := HK.out
          rwa [List.take_of_length_le (by rw [← HX.out.len]; exact Nat.le_refl _), List.take_of_length_le (by rw [← HY.out.len]; exact Nat.le_refl _)] at h1
        have HF := Lib.hid (decide_eq_true hxy)
        clear hxy
        go_wp2_with fail
        go_ret
        exact ⟨by rw [HF.out]; rfl, HB.out⟩
  · have HF := Lib.hid (show decide (xs = ys) = false from decide_eq_false fun e => hnm (by rw [HX.out.len, HY.out.len, e]))
    have hnm' : ((n : Int) == (m : Int)) = false := by rw [beq_eq_false_iff_ne]; omega
    clear hnm
    go_enter Try.func20, Try.ntmps20
    go_wp2_with fail
    go_ret
    exact ⟨by rw [HF.out]; rfl, Below.refl _ _⟩
set_option maxRecDepth 100000 in
set_option maxHeartbeats 1000000 in
theorem copied_any (xs : List (List Int)) (p : Option Addr) (n c : Nat) (w : World) (h : Recs w p n c xs) (hn : n ≤ 1000) (hB : ∀ x ∈ xs, x.length ≤ 100000) :
    Calls Try.prog 11 #[.slice p n c] w fun e w' => ∃ q c', e = .returned (.slice q n c') ∧ Recs w' q n c' xs ∧ Below w.heap.size w w' := by
  have HX := Lib.hid h
  have HBB := Lib.hid hB
  have m1 := h.max
  have m2 := h.le
  clear h hB
  go_enter Try.func11, Try.ntmps11
  go_wp2_with fail
  go_loopw [3, 4] (fun vv i wr => ∃ (k : Nat) (v : Value) (ys : List SHdr), i = .int .i64 k ∧ v = vv ∧ k ≤ n ∧ Hid (ys.length = k) ∧ Hid (ys.map (·.1) = xs.take k) ∧ Hid (OwnS w.heap.size wr v ys) ∧ Hid (Below w.heap.size w wr)) (fun _ i _ => n - (intOf i).toNat)
  case atStart => exact ⟨0, _, [], rfl, rfl, by omega, Lib.hid rfl, Lib.hid (by simp), Lib.hid (OwnS.nil _ _), Lib.hid (Below.refl _ _)⟩
  case round =>
    obtain ⟨k, v, ys, rfl, rfl, hk, HYL, HYS, HC, HB⟩ := hrel
    by_cases hlt : k < n
    · have hkx : k < xs.length := by rw [← HX.out.len]; exact hlt
      obtain ⟨b, off, q, d, rfl, a1, hg⟩ := (HX.out.below HB.out).get k hkx
      obtain ⟨x, hx⟩ : ∃ x, x = xs[k] := ⟨_, rfl⟩
      have hx2 : x.length ≤ 100000 := by rw [hx]; exact HBB.out _ (List.getElem_mem hkx)
      have HTK := Lib.hid (show xs.take (k + 1) = xs.take k ++ [x] by rw [hx, List.take_succ_eq_append_getElem hkx])
      rw [← hx] at a1 hg
      obtain ⟨m, hm⟩ : ∃ m, m = x.length := ⟨_, rfl⟩
      rw [← hm] at a1 hx2
      have HM := Lib.hid hm
      have G := Lib.hid hg
      clear hg hx hkx hm
      go_wp2_with (first
        | (go_at_call 28; refine (copy_any x m q d wr HM.out.symm G.out.at_ (by rw [HM.out]; exact G.out.le) G.out.nil (by omega)).mono ?_; rintro e w6 ⟨v6, rfl, ho6, hb6⟩; obtain ⟨q6, c6, rfl, _, _, _, _, _⟩ := own_at ho6; have C6 := Lib.hid (HC.out.on hb6); have B6 := Lib.hid (HB.out.trans (hb6.mono HB.out.size)); have O6 := Lib.hid (show RecO w.heap.size w6 (x, q6, c6) from ⟨G.out.bytes, by have h1 := ho6; rw [HM.out] at h1; exact own_weak h1 HB.out.size⟩); clear ho6 hb6; have tk1 : True := trivial)
        | (have _t := tk1; at_builtin; clear tk1 _t; refine wpList_app rfl (.tmp 11) (.tmp 17) 22 rfl w.heap.size 26 Try.underlying22 slice_info rfl v ys.length _ rfl (C6.out.own.alloc _) _ 1 1 [cellS (x, q6, c6)] rfl ?_ rfl (fun h => by cases h) (by omega) (by simp [cellS_one]) (by have := HYL.out; omega) (by have := HYL.out; unfold maxLen; omega) (by have := B6.out.size; simp; omega) ?_; (focus (have := at_one w6 (cellS (x, q6, c6)) 26; unfold cellS at this ⊢; simp only [← HM.out] at this ⊢; exact this)); intro v8' w8 hown8 hg8 hb8 hs8 _; have C8 := Lib.hid (C6.out.snoc O6.out hg8 hown8); have B8 := Lib.hid ((B6.out.alloc B6.out.size _).trans hb8); clear hown8 hg8 hb8))
      go_roundw
      case rel => exact ⟨k + 1, _, ys ++ [(x, q6, c6)], by go_num, rfl, by omega, Lib.hid (by rw [List.length_append, HYL.out]; rfl), Lib.hid (by rw [List.map_append, HYS.out, HTK.out]; rfl), C8, B8⟩
      case measure => simp [intOf]; omega
    · obtain rfl : k = n := by omega
      obtain ⟨q, c', rfl, ht⟩ := HC.out.told
      rw [HYS.out, List.take_of_length_le (by rw [← HX.out.len]; exact Nat.le_refl _)] at ht
      rw [HYL.out] at ht HC ⊢
      have HT := Lib.hid ht
      clear ht
      go_wp2_with fail
      go_ret
      exact ⟨q, c', rfl, HT.out, HB.out⟩
end Go.Proofs.Ytfjopbgnijfajaa
