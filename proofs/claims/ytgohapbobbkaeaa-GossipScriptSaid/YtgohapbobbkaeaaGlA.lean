/-
  The laws' helpers: words made and compared, an Add asked for, the chapter's buffer.
-/
import Derived.Test.YtgohapbobbkaeaaGsA
import Derived.Test.YtgohapbobbkaeaaSlcG
import Derived.Test.YtgohapbobbkaeaaCls
import Derived.BigQuiet
namespace Go.Proofs.Ytgohapbobbkaeaa
set_option linter.unusedSimpArgs false
set_option linter.unusedVariables false
open Go.RowKit Sha
instance : DecidableEq Tl := fun a b =>
  if h : a.m = b.m ∧ a.t = b.t then isTrue (Tl.ext' h.1 h.2) else isFalse (fun e => h (by subst e; exact ⟨rfl, rfl⟩))
abbrev PGossip (R : GRepT) : Prop := GossipOK 8 14 11 16 18 R
theorem own_goodM {w : World} {B n : Nat} {v : Value} {l : List Mb} (h : w.ownsRow B mt 3 v n (l.flatMap mc)) (hok : ∀ x ∈ l, x.ok) : ∃ q c, v = .slice q n c ∧ l.length = n ∧ GoodW w l q c := by
  obtain ⟨q, c, hv, hle, hm, hA, hl, hnil⟩ := own_at_s h
  have hn : l.length = n := by rw [wflat_length] at hl; omega
  exact ⟨q, c, hv, hn, hok, hA, by omega, by unfold maxLen at hm; omega, hnil⟩
section
attribute [local go_sem ↓] execOp_loadM execOp_storeM execOp_eqlM execOp_buildM
def GMvDone (x : Mb) (w : World) (e : Ending) (w' : World) : Prop := e = .returned (mv x) ∧ Below w.heap.size w w'
theorem gof_any (i s n : Int) (w : World) : Calls Try.prog 21 #[.int .i64 i, .int .i64 s, .int .i64 n] w (GMvDone ⟨i, s, n⟩ w) := by
  have s1 := put_run w ⟨i, s, n⟩
  have P1 := Lib.hid (Put.new w ⟨i, s, n⟩)
  generalize putM w ⟨i, s, n⟩ = w1 at *
  go_enter Try.func21, Try.ntmps21
  go_wp2_with fail
  exact bodyPost_ret (v := mv ⟨i, s, n⟩) (results_cell_row rfl _ _ _ _ _ _ _ rfl P1.out.blk Try.underlying32 rfl mem_size) rfl ⟨rfl, P1.out.below⟩
/-- What is known when k words are compared. -/
def WordsAt (l l' : List Mb) (n m k : Nat) (z : Bool) : Prop := (z = true ∧ n = m ∧ l.take k = l'.take k) ∨ (z = false ∧ l ≠ l')
set_option maxRecDepth 100000 in
set_option maxHeartbeats 4000000 in
theorem words_any (l l' : List Mb) (n m : Nat) (q p : Option Addr) (c d : Nat) (w : World) (hn : l.length = n) (hm : l'.length = m) (hl : GoodW w l q c) (hl' : GoodW w l' p d) :
    Calls Try.prog 13 #[.slice q n c, .slice p m d] w (BoolDone (decide (l = l')) w) := by
  have HL := Lib.hid hl
  have HR := Lib.hid hl'
  have HN := Lib.hid hn
  have HM := Lib.hid hm
  have b1 := hl.le
  have b2 := hl.max
  have b3 := hl'.le
  have b4 := hl'.max
  rw [hn] at b1
  rw [hm] at b3
  clear hl hl' hn hm
  go_enter Try.func13, Try.ntmps13
  go_wp2_with fail
  go_loopw [5, 6] (fun s i wr => ∃ (k : Nat) (z : Bool), s = .bool z ∧ i = .int .i64 k ∧ k ≤ n ∧ Hid (WordsAt l l' n m k z) ∧ Hid (Below w.heap.size w wr)) (fun _ i _ => n - (intOf i).toNat)
  case atStart =>
    by_cases hnm : n = m
    · exact ⟨0, true, by rw [hnm]; simp, rfl, by omega, Lib.hid (.inl ⟨rfl, hnm, rfl⟩), Lib.hid (Below.refl _ _)⟩
    · exact ⟨0, false, by simp; omega, rfl, by omega, Lib.hid (.inr ⟨rfl, fun e => hnm (by rw [← HN.out, ← HM.out, e])⟩), Lib.hid (Below.refl _ _)⟩
  case round =>
    obtain ⟨k, z, rfl, rfl, hk, HZ, HB⟩ := hrel
    cases z with
    | false =>
      have HV := Lib.hid (show decide (l = l') = false from decide_eq_false (by rcases HZ.out with h | h; cases h.1; exact h.2))
      go_wp2_with fail
      go_ret
      exact ⟨by rw [HV.out]; rfl, HB.out⟩
    | true =>
      have hnm : n = m := by rcases HZ.out with h | h; exact h.2.1; cases h.1
      subst hnm
      have HT := Lib.hid (show l.take k = l'.take k from by rcases HZ.out with h | h; exact h.2.2; cases h.1)
      clear HZ
      by_cases hlt : k < n
      · have hk1 : k < l.length := by rw [HN.out]; exact hlt
        have hk2 : k < l'.length := by rw [HM.out]; exact hlt
        obtain ⟨b, off, rfl, hr⟩ := HL.out.get k hk1
        obtain ⟨b', off', rfl, hr'⟩ := HR.out.get k hk2
        have jk : (0 : Int) ≤ (k : Int) ∧ (k : Int) < (n : Int) := by omega
        obtain ⟨I, W, hC⟩ := cls_of wr
        have hne : Nonempty I := hC.ne
        have m1 := fun i => run_loadM (rangeM_on hr (below_next HB.out (hC.back i)))
        have m2 := fun i => run_loadM (rangeM_on hr' (below_next HB.out (hC.back i)))
        have HC := Lib.hid hC
        have HS := Lib.hid (show (l.take (k + 1) = l'.take (k + 1)) ↔ l[k] = l'[k] from by
          rw [List.take_succ_eq_append_getElem hk1, List.take_succ_eq_append_getElem hk2, HT.out]
          exact ⟨fun e => by simpa using List.append_cancel_left e, fun e => by rw [e]⟩)
        have HNE := Lib.hid (show l[k] ≠ l'[k] → l ≠ l' from fun h e => h (by simp [e]))
        generalize l[k] = x at *
        generalize l'[k] = y at *
        clear hC hr hr' hk1 hk2 HT
        have HQ := run_eqlM x y (decide (x = y)) rfl
        have HZ2 := Lib.hid (show WordsAt l l' n n (k + 1) (decide (x = y)) from by
          by_cases hxy : x = y
          · exact .inl ⟨decide_eq_true hxy, rfl, HS.out.2 hxy⟩
          · exact .inr ⟨decide_eq_false hxy, HNE.out hxy⟩)
        generalize decide (x = y) = z2 at *
        clear HS HNE
        go_wp2_with fail
        refine wp_region_cls W (by kernel_rfl) (by kernel_rfl) HC.out.one ?_
        repeat go_big_quiet_step (fail)
        refine wpQuiet_nil ?_
        rintro _ ⟨mm, rfl⟩
        have B2 := Lib.hid (below_next HB.out (HC.out.back mm))
        clear m1 m2 HQ HC
        generalize W mm = wv at *
        go_wp2_with fail
        go_roundw
        case rel => exact ⟨k + 1, z2, rfl, by go_num, by omega, HZ2, B2⟩
        case measure => simp [intOf]; omega
      · obtain rfl : n = k := by omega
        have HV := Lib.hid (show decide (l = l') = true from decide_eq_true (by
          have := HT.out
          rwa [List.take_of_length_le (by rw [HN.out]; exact Nat.le_refl _), List.take_of_length_le (by rw [HM.out]; exact Nat.le_refl _)] at this))
        clear HT
        go_wp2_with fail
        go_ret
        exact ⟨by rw [HV.out]; rfl, HB.out⟩
set_option maxHeartbeats 1000000 in
theorem adds_any {R : GRepT} (F : PGossip R) (b : Nat) (fp : List Nat) (N : Nat) (l : List Tl) (m : Mb) (want : Bool) (w : World) (h : R w b fp (N, l)) (hz : (Gs.add N l m).2 = (want, 0)) :
    Calls Try.prog 23 #[optr b, mv m, .bool want] w (ODone R b fp (N, (Gs.add N l m).1) (.bool true) w) := by
  have BA := Lib.hid (show Below w.heap.size w (w.alloc (.cells (mc m).toArray mt)) from (Below.refl _ _).alloc (Nat.le_refl _) _)
  have l0 : (loadM mt (.pointer (some ⟨w.heap.size, 0, none⟩))).run Try.prog (w.alloc (.cells (mc m).toArray mt)) = _ := run_loadM (rangeM_of (Blk.new w (mc m).toArray mt))
  have HA := Lib.hid (F.add b fp N l m _ (F.held.on h BA.out))
  rw [hz] at HA
  clear h hz
  generalize (Gs.add N l m).1 = l2 at *
  have hw : (want == want) = true := by simp
  go_enter Try.func23, Try.ntmps23
  go_wp2_with fail
  refine HA.out.mono ?_
  rintro e w1 ⟨rfl, fp', hr, ht, hf⟩
  have HD := Lib.hid (show ODone R b fp (N, l2) (.bool true) w (.returned (.bool true)) w1 from ⟨rfl, fp', hr, (Touch.of_below BA.out).trans ht (From.refl _ _), fun k hk => (hf k hk).imp id fun h => Nat.le_trans BA.out.size h⟩)
  clear hr ht hf
  go_wp2_with fail
  go_ret
  exact HD.out
end
end Go.Proofs.Ytgohapbobbkaeaa
