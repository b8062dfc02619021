/-
  The law package of frames: what the program's frames are asked to do; one, splits, awake.
-/
import Derived.Test.YtfjopbgnijfajaaFrA
import Derived.Test.YtfjopbgnijfajaaFrC
import Derived.Test.YtfjopbgnijfajaaOver
import Derived.Test.YtfjopbgnijfajaaStr
import Derived.Lib.SlBytesConst
namespace Go.Proofs.Ytfjopbgnijfajaa
set_option linter.unusedSimpArgs false
set_option linter.unusedVariables false
open Go.RowKit Sha
/-- What Put and Join leave: bytes of the call's own (their spare room holds bytes, too), and an error. -/
def FDone8 (w0 : World) (r : List Int × Int) (e : Ending) (w : World) : Prop :=
  ∃ v, e = .returned (.tuple #[v, .int .i64 r.2]) ∧ Own8 w w0.heap.size 5 v r.1.length (r.1.map v8) ∧ Below w0.heap.size w0 w
/-- What Split leaves: records of the call's own, and a place. -/
def SpDone8 (w0 : World) (r : List (List Int) × Nat) (e : Ending) (w : World) : Prop :=
  ∃ v ys, e = .returned (.tuple #[v, .int .i64 r.2]) ∧ ys.map (·.1) = r.1 ∧ OwnS w0.heap.size w v ys ∧ (∀ y ∈ ys, Ints8 w (cellS y)) ∧ Below w0.heap.size w0 w
/-- The contracts of the program's frames, on which the laws stand. -/
structure FrameOK : Prop where
  put : ∀ (zs : List Int) (n : Nat) (p : Option Addr) (cap : Nat) (w : World), zs.length = n → GoodS w (zs, p, cap) → Calls Try.prog 18 #[.slice p n cap] w (FDone8 w (Frm.put zs))
  join : ∀ (l : List (List Int)) (p : Option Addr) (n c : Nat) (w : World), Recs w p n c l → n ≤ 2000000 → Calls Try.prog 12 #[.slice p n c] w (FDone8 w (Frm.join l))
  size : ∀ (n : Int) (w : World), -9223372036854775808 ≤ n ∧ n ≤ 9223372036854775807 → Calls Try.prog 15 #[.int .i64 n] w fun e w' => e = .returned (.int .i64 (fsize n)) ∧ Below w.heap.size w w'
  split : ∀ (zs : List Int) (n : Nat) (p : Option Addr) (cap : Nat) (w : World), zs.length = n → GoodS w (zs, p, cap) → n ≤ 1000000000 → Calls Try.prog 22 #[.slice p n cap] w (SpDone8 w (Frm.split zs))
theorem at_mark (w : World) (cs : List Value) (t : TypeId) (fr : Nat × Nat) : At (w.alloc (.cells cs.toArray t fr)) (some ⟨w.heap.size, 0, none⟩) cs := by
  refine Or.inr ⟨_, 0, rfl, fun i v hi => ?_⟩
  rw [Nat.zero_add, cell_of_row _ _ i cs.toArray t fr (heap_alloc_new w _)]
  simpa using hi
theorem fr_a : Frm.put [97] = ([1, 0, 0, 0, 67, 190, 183, 232, 97], 0) := by decide +kernel
def oneCells : Array Value := #[.int .u8 1, .int .u8 0, .int .u8 0, .int .u8 0, .int .u8 67, .int .u8 190, .int .u8 183, .int .u8 232, .int .u8 97]
set_option maxHeartbeats 400000 in
theorem one_any (w : World) : Calls Try.prog 25 #[] w fun e w' => e = .returned (.slice (some ⟨w.heap.size, 0, none⟩) 9 9) ∧ w' = w.alloc (Obj.cells oneCells 5) := by
  go_enter Try.func25, Try.ntmps25
  go_wp2_with fail
  go_ret
  exact ⟨rfl, rfl⟩
theorem one_own (w : World) : (w.alloc (Obj.cells oneCells 5)).ownsRow w.heap.size 5 1 (.slice (some ⟨w.heap.size, 0, none⟩) 9 9) 9 (([1, 0, 0, 0, 67, 190, 183, 232, 97] : List Int).map v8) := own_full w oneCells 9 5 (by decide) rfl
theorem one_good (w : World) : GoodS (w.alloc (Obj.cells oneCells 5)) ([1, 0, 0, 0, 67, 190, 183, 232, 97], some ⟨w.heap.size, 0, none⟩, 9) := by
  obtain ⟨p, cap, hv, hl, hm, hA, hx, hn⟩ := own_at (one_own w)
  cases hv
  exact ⟨by simp, hA, by simp, by simp, by intro h; cases h⟩
theorem bel_on {w w' w'' : World} (h : Below w.heap.size w w') (h2 : Below w'.heap.size w' w'') : Below w.heap.size w w'' := h.trans (h2.mono h.size)
theorem bel_alloc {w w' : World} (h : Below w.heap.size w w') (o : Obj) : Below w.heap.size w (w'.alloc o) := h.alloc h.size o
set_option maxRecDepth 100000 in
set_option maxHeartbeats 600000 in
theorem splits0_any (F : FrameOK) (zs : List Int) (n : Nat) (p : Option Addr) (cap : Nat) (at_ : Int) (w : World) (hn : zs.length = n) (h : GoodS w (zs, p, cap)) (hsm : n ≤ 1000) (hat : 0 ≤ at_ ∧ at_ ≤ 1000) :
    Calls Try.prog 26 #[.slice p n cap, .int .i64 at_, .slice none 0 0] w fun e w' => e = .returned (.bool (decide (((Frm.split zs).2 : Int) = at_) && decide ((Frm.split zs).1 = []))) ∧ Below w.heap.size w w' := by
  obtain ⟨⟨l, pl⟩, hr⟩ : ∃ r, r = Frm.split zs := ⟨_, rfl⟩
  have HR := Lib.hid hr
  have HS := Lib.hid (F.split zs n p cap w hn h (by omega))
  rw [← hr] at HS ⊢
  clear hr h
  go_enter Try.func26, Try.ntmps26
  go_wp2_with fail
  refine HS.out.mono ?_
  rintro e1 w1 ⟨v, ys, rfl, hys, ho, _, hb⟩
  obtain ⟨q, c, rfl, ht⟩ := ho.told
  have B1 := Lib.hid hb
  dsimp only at hys
  rw [hys] at ht
  have T1 := Lib.hid ht
  clear ho hb ht HS
  dsimp only
  generalize ys.length = m at *
  go_wp2_with fail
  go_loopw [9, 10] (fun vv i wr => vv = .slice none 0 0 ∧ i = .int .i64 0 ∧ w1 = wr) (fun _ i _ => (intOf i).toNat)
  case atStart => exact ⟨rfl, rfl, rfl⟩
  case round =>
    obtain ⟨rfl, rfl, rfl⟩ := hrel
    by_cases hpl : (pl : Int) = at_
    · subst hpl
      have hq : ((pl : Int) == (pl : Int)) = true := beq_self_eq_true _
      go_wp2_with fail
      refine (recsSame_any l [] q none m 0 c 0 w1 T1.out (Recs.none_ _)).mono ?_
      rintro e2 w2 ⟨rfl, hb2⟩
      go_wp2_with fail
      go_ret
      exact ⟨by simp, bel_on B1.out hb2⟩
    · have hq : ((pl : Int) == at_) = false := by rw [beq_eq_false_iff_ne]; exact hpl
      have HF := Lib.hid (decide_eq_false hpl)
      clear hpl
      go_wp2_with fail
      go_ret
      exact ⟨by rw [HF.out]; rfl, B1.out⟩
theorem string_info : (Try.prog.info? 9).map (fun i => i.size) = some 1 := by kernel_rfl
set_option maxRecDepth 100000 in
set_option maxHeartbeats 600000 in
theorem splits1_any (F : FrameOK) (zs : List Int) (n : Nat) (p : Option Addr) (cap : Nat) (at_ : Int) (s : ByteArray) (hss : s.size ≤ 1000) (g : Nat) (w : World) (hg : w.cell? ⟨g, 0, none⟩ = some (.string s)) (hn : zs.length = n) (h : GoodS w (zs, p, cap)) (hsm : n ≤ 1000) (hat : 0 ≤ at_ ∧ at_ ≤ 1000) :
    Calls Try.prog 26 #[.slice p n cap, .int .i64 at_, .slice (some ⟨g, 0, none⟩) 1 1] w fun e w' => e = .returned (.bool (decide (((Frm.split zs).2 : Int) = at_) && decide ((Frm.split zs).1 = [nums s]))) ∧ Below w.heap.size w w' := by
  obtain ⟨⟨l, pl⟩, hr⟩ : ∃ r, r = Frm.split zs := ⟨_, rfl⟩
  have HR := Lib.hid hr
  have HS := Lib.hid (F.split zs n p cap w hn h (by omega))
  rw [← hr] at HS ⊢
  have hgl : g < w.heap.size := World.block_lt_of_cell? w _ hg
  clear hr h
  go_enter Try.func26, Try.ntmps26
  go_wp2_with fail
  refine HS.out.mono ?_
  rintro e1 w1 ⟨v, ys, rfl, hys, ho, _, hb⟩
  obtain ⟨q, c, rfl, ht⟩ := ho.told
  have B1 := Lib.hid hb
  dsimp only at hys
  rw [hys] at ht
  have T1 := Lib.hid ht
  have hg1 : w1.cell? ⟨g, 0, none⟩ = some (.string s) := by rw [hb.cell hgl]; exact hg
  clear ho hb ht HS hg
  dsimp only
  generalize ys.length = m at *
  go_wp2_with fail
  go_loopw [9, 10] (fun vv i wr => ∃ k : Nat, i = .int .i64 k ∧ k ≤ 1 ∧ (k = 0 → vv = .slice none 0 0 ∧ w1 = wr) ∧ (k = 1 → ∃ q2 c2, vv = .slice q2 1 c2 ∧ Hid (Recs wr q2 1 c2 [nums s]) ∧ Hid (Below w1.heap.size w1 wr))) (fun _ i _ => 1 - (intOf i).toNat)
  case atStart => exact ⟨0, rfl, by omega, fun _ => ⟨rfl, rfl⟩, fun h => by omega⟩
  case round =>
    obtain ⟨k, rfl, hk, hk0, hk1⟩ := hrel
    by_cases hkz : k = 0
    · subst hkz
      obtain ⟨rfl, rfl⟩ := hk0 rfl
      clear hk0 hk1
      go_wp2_with (first
        | (refine wpList_strbytes rfl 9 26 5 (.tmp 26) rfl s rfl Try.underlying9 Try.underlying26 Try.underlying5 (by unfold maxLen; omega) ?_; intro p2 cap2 w2 hA2 hn2 hc2 hm2 hb2; have G2 := Lib.hid (show GoodS w2 (nums s, p2, cap2) from ⟨nums_bd s, hA2, by simp only; rw [nums_length]; exact hc2, by unfold maxLen at hm2; simp only; omega, hn2⟩); have B2 := Lib.hid hb2; clear hA2 hn2 hc2 hm2 hb2; have tk1 : True := trivial)
        | (have _t := tk1; at_builtin; clear tk1 _t; refine wpList_app rfl (.tmp 22) (.tmp 28) 22 rfl w2.heap.size 26 Try.underlying22 slice_info rfl _ 0 [] rfl (World.ownsRow_nil _ _ _ _) _ 1 1 [cellS (nums s, p2, cap2)] rfl ?_ rfl (fun h => by cases h) (by omega) (by simp [cellS_one]) (by omega) (by unfold maxLen; omega) (by simp) ?_; (focus (have h1 := at_one w2 (cellS (nums s, p2, cap2)) 26; unfold cellS at h1 ⊢; simp only [nums_length] at h1 ⊢; exact h1)); intro v3 w3 hown3 hg3 hb3 hs3 _; simp only [Nat.zero_add, List.nil_append] at hown3; obtain ⟨q3, c3, rfl, hc3, hm3, hA3, _, hn3⟩ := own_at hown3; have hb23 := ((Below.refl w2.heap.size w2).alloc (Nat.le_refl _) (Obj.cells #[Value.slice p2 s.size cap2] 26)).trans hb3; have R3 := Lib.hid (show Recs w3 q3 1 c3 [nums s] from ⟨rfl, hc3, by unfold maxLen at hm3; omega, hn3, [(nums s, p2, cap2)], rfl, hA3, fun y hy => by rw [List.mem_singleton.1 hy]; exact G2.out.below hb23⟩); have B3 := Lib.hid (B2.out.trans (hb23.mono B2.out.size)); clear hown3 hg3 hb3 hA3 hn3 hb23))
      go_roundw
      case rel => exact ⟨1, rfl, by omega, fun h => by omega, fun _ => ⟨_, _, rfl, R3, B3⟩⟩
      case measure => simp [intOf]
    · obtain rfl : k = 1 := by omega
      obtain ⟨q2, c2, rfl, R2, B2⟩ := hk1 rfl
      have BB := Lib.hid (bel_on B1.out B2.out)
      clear hk0 hk1
      by_cases hpl : (pl : Int) = at_
      · subst hpl
        have hq : ((pl : Int) == (pl : Int)) = true := beq_self_eq_true _
        go_wp2_with fail
        refine (recsSame_any l [nums s] q q2 m 1 c c2 _ (T1.out.below B2.out) R2.out).mono ?_
        rintro e2 w2 ⟨rfl, hb2⟩
        go_wp2_with fail
        go_ret
        exact ⟨by simp, bel_on BB.out hb2⟩
      · have hq : ((pl : Int) == at_) = false := by rw [beq_eq_false_iff_ne]; exact hpl
        have HF := Lib.hid (decide_eq_false hpl)
        clear hpl
        go_wp2_with fail
        go_ret
        exact ⟨by rw [HF.out]; rfl, BB.out⟩
def aStr : ByteArray := ⟨#[97]⟩
theorem aStr_nums : nums aStr = [97] := by unfold nums aStr; rfl
theorem rec_a : Frm.Rec [97] := ⟨by decide, by decide⟩
theorem frs_a : Frm.frs [[97]] = [1, 0, 0, 0, 67, 190, 183, 232, 97] := by decide +kernel
theorem split_a3 : Frm.split [1, 0, 0, 0, 67, 190, 183, 232, 97, 1, 0, 0] = ([[97]], 9) := by
  have h := Frm.split_frs [[97]] [1, 0, 0] (by intro b hb; rw [List.mem_singleton.1 hb]; exact rec_a)
  rw [frs_a, Frm.split_none (bs := [1, 0, 0]) (by unfold Frm.stands; rw [if_pos (by decide)])] at h
  exact h
theorem fsize_1 : fsize 1 = 9 := by decide
set_option maxRecDepth 100000 in
set_option maxHeartbeats 1000000 in
theorem awake_any (F : FrameOK) (w : World) : Calls Try.prog 10 #[] w fun e w' => e = .returned (.bool true) ∧ Below w.heap.size w w' := by
  have hg0 : GoodS (w.alloc (Obj.cells #[.int .u8 97] 5 (1, 2))) ([97], some ⟨w.heap.size, 0, none⟩, 1) :=
    ⟨by simp, at_mark w [v8 97] 5 (1, 2), by simp, by simp, by intro h; cases h⟩
  have HP := Lib.hid (F.put [97] 1 _ 1 _ rfl hg0)
  have cv := fun w C n c => Go.Lib.run_convert_bytes_const (P := Try.prog) w 26 5 C n c Try.underlying26 Try.underlying5
  rw [fr_a] at HP
  clear hg0
  go_enter Try.func10, Try.ntmps10
  go_wp2_with fail
  refine HP.out.mono ?_
  rintro e1 w1 ⟨v, rfl, ho, hb⟩
  have B1 := Lib.hid (((Below.refl w.heap.size w).alloc (Nat.le_refl _) (Obj.cells #[.int .u8 97] 5 (1, 2))).trans (hb.mono (by simp)))
  obtain ⟨q, c, rfl, hc, hm, hA, _, hnn⟩ := own_at ho.row
  have A1 := Lib.hid hA
  clear ho hb hA hnn HP
  dsimp only at *
  go_wp2_with fail
  refine (one_any w1).mono ?_
  rintro e2 w2 ⟨rfl, rfl⟩
  go_wp2_with fail
  have hgo := one_good w1
  have hbo := (Below.refl w1.heap.size w1).alloc (Nat.le_refl _) (Obj.cells oneCells 5)
  have B2 := Lib.hid (bel_on B1.out hbo)
  have A2 := Lib.hid (A1.out.below hbo)
  have G2 := Lib.hid hgo
  generalize w1.alloc (Obj.cells oneCells 5) = w2 at *
  generalize w1.heap.size = g1 at *
  clear hgo hbo A1 cv
  refine (same_any _ _ 9 9 q (some ⟨g1, 0, none⟩) c 9 w2 rfl rfl A2.out G2.out.at_ (by simp) G2.out.bytes).mono ?_
  rintro e3 w3 ⟨rfl, rfl⟩
  rw [decide_eq_true rfl]
  go_wp2_with fail
  refine (one_any w2).mono ?_
  rintro e4 w4 ⟨rfl, hw4⟩
  have O4 := Lib.hid (show Own8 w4 w2.heap.size 5 (.slice (some ⟨w2.heap.size, 0, none⟩) 9 9) 9 (([1, 0, 0, 0, 67, 190, 183, 232, 97] : List Int).map v8) by rw [hw4]; exact ⟨one_own w2, ints_block (heap_alloc_new w2 _) (by intro u hu; have := List.mem_map.1 (show u ∈ ([1, 0, 0, 0, 67, 190, 183, 232, 97] : List Int).map v8 from hu); obtain ⟨m, _, rfl⟩ := this; exact ⟨m, rfl⟩)⟩)
  have B4 := Lib.hid (show Below w2.heap.size w2 w4 by rw [hw4]; exact (Below.refl _ _).alloc (Nat.le_refl _) _)
  clear hw4
  go_wp2_with (first
    | (refine BigFrame.wpList_want rfl (fun K hK => wp_app8 (.tmp 17) (.tmp 18) 26 rfl w2.heap.size 5 Try.underlying26 kbyte_info _ 9 _ rfl (O4.out.alloc _) _ 3 3 (([1, 0, 0] : List Int).map v8) rfl (at_mark w4 (([1, 0, 0] : List Int).map v8) 5 (0, 0)) rfl (fun h => by cases h) (by omega) (ints_map _) (by omega) (by unfold maxLen; omega) (by have := B4.out.size; simp; omega) ?_); intro v5 w5 hown5 hg5 hb5 hs5; refine hK _ _ ?_; clear hK K; obtain ⟨q5, c5, rfl, hc5, hm5, hA5, _, hn5⟩ := own_at hown5.row; have G5 := Lib.hid (show GoodS w5 ([1, 0, 0, 0, 67, 190, 183, 232, 97, 1, 0, 0], q5, c5) from ⟨by simp, hA5, hc5, by unfold maxLen at hm5; simp only; omega, hn5⟩); have B5 := Lib.hid (B2.out.trans (((B4.out.alloc B4.out.size _).trans hb5).mono B2.out.size)); clear hown5 hg5 hb5 hA5 hn5))
  have hb5 := (Below.refl w5.heap.size w5).alloc (Nat.le_refl _) (Obj.cells #[Value.string ⟨#[97]⟩] 9)
  have hg5 : (w5.alloc (Obj.cells #[Value.string ⟨#[97]⟩] 9)).cell? ⟨w5.heap.size, 0, none⟩ = some (.string aStr) := by
    rw [cell_of_row _ _ 0 #[Value.string ⟨#[97]⟩] 9 (0, 0) (heap_alloc_new w5 _)]; rfl
  have G6 := Lib.hid (G5.out.below hb5)
  have B6 := Lib.hid (bel_on B5.out hb5)
  generalize w5.alloc (Obj.cells #[Value.string ⟨#[97]⟩] 9) = w6 at *
  generalize w5.heap.size = g5 at *
  clear hb5 G5
  refine (splits1_any F _ 12 q5 c5 9 aStr (by decide) g5 w6 hg5 rfl G6.out (by omega) (by omega)).mono ?_
  rw [split_a3, aStr_nums]
  rintro e7 w7 ⟨rfl, hb7⟩
  have B7 := Lib.hid (bel_on B6.out hb7)
  clear hb7
  rw [show (decide (((([([97] : List Int)], 9) : List (List Int) × Nat).2 : Int) = 9) && decide ((([([97] : List Int)], 9) : List (List Int) × Nat).1 = [[97]])) = true by decide]
  go_wp2_with fail
  refine (F.size 1 w7 (by omega)).mono ?_
  rw [fsize_1]
  rintro e8 w8 ⟨rfl, hb8⟩
  go_wp2_with fail
  go_ret
  exact ⟨rfl, bel_on B7.out hb8⟩
end Go.Proofs.Ytfjopbgnijfajaa
