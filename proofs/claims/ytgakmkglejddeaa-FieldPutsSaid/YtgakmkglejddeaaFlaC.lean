/-
  The law package of fields: awake, FieldKnown.
-/
import Derived.Test.YtgakmkglejddeaaFlaB
import Derived.Lib.SlBytesConst
namespace Go.Proofs.Ytgakmkglejddeaa
set_option linter.unusedSimpArgs false
set_option linter.unusedVariables false
open Go.RowKit Sha
open Fld (Itm)
theorem fat_const (w : World) (cs : List Value) (t : TypeId) (fr : Nat × Nat) : At (w.alloc (.cells cs.toArray t fr)) (some ⟨w.heap.size, 0, none⟩) cs := by
  refine Or.inr ⟨_, 0, rfl, fun i v hi => ?_⟩
  rw [Nat.zero_add, cell_of_row _ _ i _ t fr (heap_alloc_new w _)]
  simpa using hi
theorem fbelow_on {w w' w'' : World} (h : Below w.heap.size w w') (h2 : Below w'.heap.size w' w'') : Below w.heap.size w w'' := h.trans (h2.mono h.size)
theorem fbelow_alloc_on {w w' w'' : World} (o : Obj) (h : Below w.heap.size w w') (h2 : Below (w'.alloc o).heap.size (w'.alloc o) w'') : Below w.heap.size w w'' := fbelow_on (h.alloc h.size o) h2
theorem fbelow_new {w w'' : World} (o : Obj) (h2 : Below (w.alloc o).heap.size (w.alloc o) w'') : Below w.heap.size w w'' := fbelow_alloc_on o (Below.refl _ _) h2
theorem good_num (w : World) (n : Int) (h0 : -9223372036854775808 ≤ n) (h1 : n ≤ 9223372036854775807) : GoodI w ⟨n, [], Fld.zero32⟩ none 0 := ⟨num_ok n h0 h1, At.nil _ _, by simp, by omega, fun _ => rfl⟩
theorem good_raw (w : World) (b : List Int) (h : ∀ n ∈ b, 0 ≤ n ∧ n ≤ 255) (g : Addr) (n : Nat) (hA : At w (some g) (b.map v8)) (hn : b.length = n) (hm : n ≤ 9223372036854775807) : GoodI w ⟨0, b, Fld.zero32⟩ (some g) n := ⟨raw_ok b h, hA, by simp [hn], hm, fun h => by cases h⟩
theorem build_told (w : World) (ys : List Hdr) (n : Nat) (parts : Array (Nat × Value)) (hp : parts = ((ys.map cellsI).zipIdx.map fun c => (c.2, Value.agg c.1.toArray)).toArray) (hn : n = ys.length) (hg : ∀ y ∈ ys, GoodI w y.1 y.2.1 y.2.2) (h0 : n ≤ 1000) :
    ∃ w' p, (buildOp 22 n parts).run Try.prog w = .ok (.value (.slice p n n)) w' ∧ Told w' p n n (ys.map (·.1)) ∧ Below w.heap.size w w' := by
  subst hp hn
  have h := run_build_items (P := Try.prog) w 22 40 34 _ (by omega) Try.underlying22 item_all (ys.map cellsI) (by
    intro c hc; obtain ⟨y, hy, rfl⟩ := List.mem_map.1 hc; exact icells_length (hg y hy).ok _ _) (by simp; omega)
  rw [List.length_map] at h
  refine ⟨_, _, run_buildOp h, ⟨by simp, Nat.le_refl _, by omega, (fun h => by cases h), ⟨ys, rfl, ?_, fun y hy => (hg y hy).below ((Below.refl _ _).alloc (Nat.le_refl _) _)⟩⟩, (Below.refl _ _).alloc (Nat.le_refl _) _⟩
  rw [← List.flatMap_def]
  exact fat_const w _ _ _
def z32 : List Int := Fld.zero32
theorem nb_nums : nums ⟨#[110, 98]⟩ = [110, 98] := by decide +kernel
theorem put_nb : Fld.put (nums ⟨#[110, 98]⟩) [⟨300, [], Fld.zero32⟩, ⟨0, [7, 8], Fld.zero32⟩] = ([172, 2, 2, 7, 8], 0) := by
  rw [nb_nums]; simp [Fld.put, Fld.chk, Fld.chkL, Fld.walkL, Fld.putS, Fld.okFor, Fld.bound, Fld.enc, Fld.num_lt, Fld.num_ge]
theorem ng_nums : nums ⟨#[110, 40, 110, 41]⟩ = [110, 40, 110, 41] := by decide +kernel
theorem put_ng : Fld.put (nums ⟨#[110, 40, 110, 41]⟩) [⟨5, [], Fld.zero32⟩, ⟨2, [], Fld.zero32⟩, ⟨1, [], Fld.zero32⟩, ⟨0, [], Fld.zero32⟩] = ([5, 2, 1, 0], 0) := by
  rw [ng_nums]; simp [Fld.put, Fld.chk, Fld.chkL, Fld.walkL, Fld.putS, Fld.rep, Fld.once, Fld.okFor, Fld.bound, Fld.enc, Fld.num_lt, Fld.num_ge]
theorem n_nums : nums ⟨#[110]⟩ = [110] := by decide +kernel
theorem put_neg : Fld.put (nums ⟨#[110]⟩) [⟨-1, [], Fld.zero32⟩] = ([], 5) := by
  rw [n_nums]; simp [Fld.put, Fld.chk, Fld.chkL, Fld.walkL, Fld.putS, Fld.okFor, Fld.bound]
theorem put_none : Fld.put (nums ⟨#[110]⟩) [] = ([], 2) := by
  rw [n_nums]; simp [Fld.put, Fld.chk, Fld.chkL, Fld.walkL, Fld.putS, Fld.okFor, Fld.bound]
theorem put_two : Fld.put (nums ⟨#[110]⟩) [⟨1, [], Fld.zero32⟩, ⟨2, [], Fld.zero32⟩] = ([], 2) := by
  rw [n_nums]; simp [Fld.put, Fld.chk, Fld.chkL, Fld.walkL, Fld.putS, Fld.okFor, Fld.bound, Fld.enc, Fld.num_lt]
theorem get_long : Fld.get (nums ⟨#[110]⟩) [128, 0] = ([], 10, 0) := by decide +kernel
theorem get_cut : Fld.get (nums ⟨#[110]⟩) [128] = ([], 4, 1) := by decide +kernel
theorem get_few : Fld.get (nums ⟨#[98]⟩) [2, 7] = ([], 4, 2) := by decide +kernel
theorem get_over : Fld.get (nums ⟨#[110]⟩) [5, 6] = ([], 4, 1) := by decide +kernel
theorem chk_empty : Fld.chkE (nums ⟨#[40, 41]⟩) = 2 := Fld.chkE_no (by decide +kernel)
theorem chk_open : Fld.chkE (nums ⟨#[40, 110]⟩) = 2 := Fld.chkE_no (by decide +kernel)
theorem chk_x : Fld.chkE (nums ⟨#[120]⟩) = 2 := Fld.chkE_no (by decide +kernel)
attribute [local go_sem ↓] execOp_buildItems
set_option maxRecDepth 100000 in
set_option maxHeartbeats 400000 in
theorem awake_any (w : World) : Calls Try.prog 9 #[] w fun e w' => e = .returned (.bool true) ∧ Below w.heap.size w w' := by
  go_enter Try.func9, Try.ntmps9
  go_wp2_with fail
  refine (num_any 300 _).mono ?_
  rintro e w1 ⟨rfl, hb1⟩
  have A1 := Lib.hid ((fat_const w [v8 172, v8 2, v8 2, v8 7, v8 8] _ _).below hb1)
  have b1 := Lib.hid (fbelow_new _ hb1)
  clear hb1
  go_wp2_with fail
  refine (raw_any [7, 8] _ 2 2 rfl _).mono ?_
  rintro e w2 ⟨rfl, hb2⟩
  obtain ⟨w3, p3, bd3, hT, hb3⟩ := build_told w2 [(⟨300, [], Fld.zero32⟩, none, 0), (⟨0, [7, 8], Fld.zero32⟩, some ⟨w1.heap.size, 0, none⟩, 2)] 2 #[(0, .agg (icells ⟨300, [], Fld.zero32⟩ none 0).toArray), (1, .agg (icells ⟨0, [7, 8], Fld.zero32⟩ (some ⟨w1.heap.size, 0, none⟩) 2).toArray)] rfl rfl (by
    intro y hy; simp at hy; rcases hy with rfl | rfl
    · exact good_num _ _ (by omega) (by omega)
    · exact good_raw _ _ (by decide) _ _ ((fat_const w1 [v8 7, v8 8] _ _).below hb2) rfl (show 2 ≤ 9223372036854775807 by omega)) (by omega)
  have T3 := Lib.hid hT
  have A3 := Lib.hid (A1.out.below (fbelow_on (fbelow_new _ hb2) hb3))
  have b3 := Lib.hid (fbelow_on (fbelow_alloc_on _ b1.out hb2) hb3)
  clear hb2 hb3 hT A1 b1
  go_wp2_with fail
  refine (puts_true _ (by decide) [172, 2, 2, 7, 8] (by decide) _ 5 5 _ _ 2 2 _ put_nb rfl A3.out T3.out (by omega)).mono ?_
  rintro e w4 ⟨rfl, hb4⟩
  have b4 := Lib.hid (fbelow_on b3.out hb4)
  clear hb4 T3 A3 b3 bd3
  go_wp2_with fail
  refine (num_any 5 _).mono ?_
  rintro e w5 ⟨rfl, hb5⟩
  have A5 := Lib.hid ((fat_const w4 [v8 5, v8 2, v8 1, v8 0] _ _).below hb5)
  have b5 := Lib.hid (fbelow_alloc_on _ b4.out hb5)
  clear hb5 b4
  go_wp2_with fail
  refine (num_any 2 _).mono ?_
  rintro e w6 ⟨rfl, hb6⟩
  go_wp2_with fail
  refine (num_any 1 _).mono ?_
  rintro e w7 ⟨rfl, hb7⟩
  go_wp2_with fail
  refine (num_any 0 _).mono ?_
  rintro e w8 ⟨rfl, hb8⟩
  obtain ⟨w9, p9, bd9, hT, hb9⟩ := build_told w8 [(⟨5, [], Fld.zero32⟩, none, 0), (⟨2, [], Fld.zero32⟩, none, 0), (⟨1, [], Fld.zero32⟩, none, 0), (⟨0, [], Fld.zero32⟩, none, 0)] 4 #[(0, .agg (icells ⟨5, [], Fld.zero32⟩ none 0).toArray), (1, .agg (icells ⟨2, [], Fld.zero32⟩ none 0).toArray), (2, .agg (icells ⟨1, [], Fld.zero32⟩ none 0).toArray), (3, .agg (icells ⟨0, [], Fld.zero32⟩ none 0).toArray)] rfl rfl (by
    intro y hy; simp at hy; rcases hy with rfl | rfl | rfl | rfl
    all_goals exact good_num _ _ (by omega) (by omega)) (by omega)
  have T9 := Lib.hid hT
  have h69 := fbelow_on (fbelow_on (fbelow_on hb6 hb7) hb8) hb9
  have A9 := Lib.hid (A5.out.below h69)
  have b9 := Lib.hid (fbelow_on b5.out h69)
  clear hb6 hb7 hb8 hb9 hT A5 b5 h69
  go_wp2_with fail
  refine (puts_true _ (by decide) [5, 2, 1, 0] (by decide) _ 4 4 _ _ 4 4 _ put_ng rfl A9.out T9.out (by omega)).mono ?_
  rintro e w10 ⟨rfl, hb10⟩
  have b10 := Lib.hid (fbelow_on b9.out hb10)
  clear hb10 T9 A9 b9 bd9
  go_wp2_with fail
  refine (fails_true _ (by decide) 10 0 0 [128, 0] (by decide) _ 2 2 _ get_long rfl rfl (fat_const w10 [v8 128, v8 0] _ _) (by omega) (by omega) (fun h => by cases h) (by omega)).mono ?_
  rintro e w11 ⟨rfl, hb11⟩
  have b11 := Lib.hid (fbelow_alloc_on _ b10.out hb11)
  clear hb11 b10
  go_wp2_with fail
  refine (check_any _ _ (by decide)).mono ?_
  rw [chk_empty]
  rintro e w12 ⟨rfl, hb12⟩
  have b12 := Lib.hid (fbelow_on b11.out hb12)
  clear hb12 b11
  go_wp2_with fail
  go_ret
  exact ⟨rfl, b12.out⟩
set_option maxRecDepth 100000 in
set_option maxHeartbeats 400000 in
theorem known_any (w : World) : Calls Try.prog 4 #[] w fun e w' => e = .returned (.bool true) ∧ Below w.heap.size w w' := by
  go_enter Try.func4, Try.ntmps4
  go_wp2_with fail
  refine (fails_true _ (by decide) 4 1 1 [128] (by decide) _ 1 1 _ get_cut rfl rfl (fat_const w [v8 128] _ _) (by omega) (by omega) (fun h => by cases h) (by omega)).mono ?_
  rintro e w1 ⟨rfl, hb1⟩
  have b1 := Lib.hid (fbelow_new _ hb1)
  clear hb1
  go_wp2_with fail
  refine (fails_true _ (by decide) 4 2 2 [2, 7] (by decide) _ 2 2 _ get_few rfl rfl (fat_const w1 [v8 2, v8 7] _ _) (by omega) (by omega) (fun h => by cases h) (by omega)).mono ?_
  rintro e w2 ⟨rfl, hb2⟩
  have b2 := Lib.hid (fbelow_alloc_on _ b1.out hb2)
  clear hb2 b1
  go_wp2_with fail
  refine (fails_true _ (by decide) 4 1 1 [5, 6] (by decide) _ 2 2 _ get_over rfl rfl (fat_const w2 [v8 5, v8 6] _ _) (by omega) (by omega) (fun h => by cases h) (by omega)).mono ?_
  rintro e w3 ⟨rfl, hb3⟩
  have b3 := Lib.hid (fbelow_alloc_on _ b2.out hb3)
  clear hb3 b2
  go_wp2_with fail
  refine (check_any _ _ (by decide)).mono ?_
  rw [chk_open]
  rintro e w4 ⟨rfl, hb4⟩
  have b4 := Lib.hid (fbelow_on b3.out hb4)
  clear hb4 b3
  go_wp2_with fail
  refine (check_any _ _ (by decide)).mono ?_
  rw [chk_x]
  rintro e w5 ⟨rfl, hb5⟩
  have b5 := Lib.hid (fbelow_on b4.out hb5)
  clear hb5 b4
  go_wp2_with fail
  refine (num_any (-1) _).mono ?_
  rintro e w6 ⟨rfl, hb6⟩
  obtain ⟨w7, p7, bd7, hT7, hb7⟩ := build_told w6 [(⟨-1, [], Fld.zero32⟩, none, 0)] 1 #[(0, .agg (icells ⟨-1, [], Fld.zero32⟩ none 0).toArray)] rfl rfl (by
    intro y hy; simp at hy; subst hy
    exact good_num _ _ (by omega) (by omega)) (by omega)
  have T7 := Lib.hid hT7
  have b7 := Lib.hid (fbelow_on (fbelow_on b5.out hb6) hb7)
  clear hb6 hb7 hT7 b5
  go_wp2_with fail
  refine (refuses_true _ (by decide) 5 _ _ 1 1 _ put_neg T7.out (by omega)).mono ?_
  rintro e w8 ⟨rfl, hb8⟩
  have b8 := Lib.hid (fbelow_on b7.out hb8)
  clear hb8 b7 T7 bd7
  go_wp2_with fail
  refine (refuses_true _ (by decide) 2 [] none 0 0 _ put_none (Told.none_ _) (by omega)).mono ?_
  rintro e w9 ⟨rfl, hb9⟩
  have b9 := Lib.hid (fbelow_on b8.out hb9)
  clear hb9 b8
  go_wp2_with fail
  refine (num_any 1 _).mono ?_
  rintro e w10 ⟨rfl, hb10⟩
  go_wp2_with fail
  refine (num_any 2 _).mono ?_
  rintro e w11 ⟨rfl, hb11⟩
  obtain ⟨w12, p12, bd12, hT12, hb12⟩ := build_told w11 [(⟨1, [], Fld.zero32⟩, none, 0), (⟨2, [], Fld.zero32⟩, none, 0)] 2 #[(0, .agg (icells ⟨1, [], Fld.zero32⟩ none 0).toArray), (1, .agg (icells ⟨2, [], Fld.zero32⟩ none 0).toArray)] rfl rfl (by
    intro y hy; simp at hy; rcases hy with rfl | rfl
    all_goals exact good_num _ _ (by omega) (by omega)) (by omega)
  have T12 := Lib.hid hT12
  have b12 := Lib.hid (fbelow_on (fbelow_on (fbelow_on b9.out hb10) hb11) hb12)
  clear hb10 hb11 hb12 hT12 b9
  go_wp2_with fail
  refine (refuses_true _ (by decide) 2 _ _ 2 2 _ put_two T12.out (by omega)).mono ?_
  rintro e w13 ⟨rfl, hb13⟩
  have b13 := Lib.hid (fbelow_on b12.out hb13)
  clear hb13 b12 T12 bd12
  go_wp2_with fail
  refine (awake_any _).mono ?_
  rintro e w14 ⟨rfl, hb14⟩
  go_wp2_with fail
  go_ret
  exact ⟨rfl, fbelow_on b13.out hb14⟩
end Go.Proofs.Ytgakmkglejddeaa
