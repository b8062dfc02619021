/-
  The law package's joins, awake and CrcKnown.
-/
import Derived.Test.YthekefecgeimeaaCrcC
import Derived.Lib.SlBytesConst
namespace Go.Proofs.Ythekefecgeimeaa
set_option linter.unusedSimpArgs false
set_option linter.unusedVariables false
open Go.RowKit Sha
set_option maxHeartbeats 400000 in
theorem joins_true (A B want : Int) (a b : W) (n : Int) (w : World) (hA : A = U a) (hB : B = U b) (h0 : 0 ≤ n) (h1 : n ≤ 2147483647) (hw : want = U (Crc.join a b n.toNat)) :
    Calls Try.prog 18 #[.int .u32 A, .int .u32 B, .int .i64 n, .int .u32 want] w fun e w' => e = .returned (.bool true) ∧ Below w.heap.size w w' := by
  subst hw hA hB
  go_enter Try.func18, Try.ntmps18
  go_wp2_with (go_at_call 16; refine (join_yes _ _ a b _ _ rfl rfl h0 h1).mono ?_; rintro e w1 ⟨rfl, hb1⟩)
  go_ret
  exact ⟨rfl, hb1⟩
theorem csum_lit (zs : List Int) (v : Int) (len : Nat) (p : Option Addr) (cap : Nat) (w : World) (hv : U (Crc.sum zs) = v) (hl : len = zs.length) (hz : ∀ n ∈ zs, 0 ≤ n ∧ n ≤ 255) (hA : At w p (zs.map v8)) (hc : len ≤ cap) (hm : cap ≤ 9223372036854775807) :
    Calls Try.prog 11 #[.slice p len cap] w fun e w' => e = .returned (.int .u32 v) ∧ Below w.heap.size w w' :=
  (csum_any zs len p cap w hl hz hA hc hm).mono fun _ _ ⟨he, hb⟩ => ⟨by rw [he]; exact ret_int hv, hb⟩
theorem more_lit (n : Int) (s : W) (hn : n = U s) (zs : List Int) (v : Int) (len : Nat) (p : Option Addr) (cap : Nat) (w : World) (hv : U (Crc.more s zs) = v) (hl : len = zs.length) (hz : ∀ n ∈ zs, 0 ≤ n ∧ n ≤ 255) (hA : At w p (zs.map v8)) (hc : len ≤ cap) (hm : cap ≤ 9223372036854775807) :
    Calls Try.prog 13 #[.int .u32 n, .slice p len cap] w fun e w' => e = .returned (.int .u32 v) ∧ Below w.heap.size w w' := by
  subst hl
  exact (more_any n s hn zs p cap w hz hA hc hm).mono fun _ _ ⟨he, hb⟩ => ⟨by rw [he]; exact ret_int hv, hb⟩
theorem at_const (w : World) (cs : List Value) (t : TypeId) (fr : Nat × Nat) : At (w.alloc (.cells cs.toArray t fr)) (some ⟨w.heap.size, 0, none⟩) cs := by
  refine Or.inr ⟨_, 0, rfl, fun i v hi => ?_⟩
  rw [Nat.zero_add, cell_of_row _ _ i _ t fr (heap_alloc_new w _)]
  simpa using hi
theorem nine_sum : U (Crc.sum [49, 50, 51, 52, 53, 54, 55, 56, 57]) = 3421780262 := by decide +kernel
theorem a_sum : U (Crc.sum [97]) = 3904355907 := by decide +kernel
theorem seven_join : (14 : Int) = U (Crc.join 7#32 9#32 (0 : Int).toNat) := by decide +kernel
set_option maxRecDepth 100000 in
set_option maxHeartbeats 400000 in
theorem awake_any (w : World) : Calls Try.prog 9 #[] w fun e w' => e = .returned (.bool true) ∧ Below w.heap.size w w' := by
  have cv := fun w C n c => Go.Lib.run_convert_bytes_const (P := Try.prog) w 23 5 C n c Try.underlying23 Try.underlying5
  go_enter Try.func9, Try.ntmps9
  go_wp2_with fail
  refine (csum_lit _ _ 9 _ 9 _ nine_sum (by decide) (by decide) (at_const w [v8 49, v8 50, v8 51, v8 52, v8 53, v8 54, v8 55, v8 56, v8 57] _ _) (by omega) (by omega)).mono ?_
  rintro e w1 ⟨rfl, hb1⟩
  have b1 := Lib.hid (((Below.refl w.heap.size w).alloc (Nat.le_refl _) _).trans (hb1.mono (by simp)))
  clear hb1
  go_wp2_with fail
  refine (csum_lit _ _ 1 _ 1 _ a_sum (by decide) (by decide) (at_const w1 [v8 97] _ _) (by omega) (by omega)).mono ?_
  rintro e w2 ⟨rfl, hb2⟩
  have b2 := Lib.hid ((b1.out.alloc b1.out.size _).trans (hb2.mono (by have := b1.out.size; simp; omega)))
  clear hb2
  go_wp2_with fail
  refine (joins_true 7 9 14 7#32 9#32 0 _ rfl rfl (by omega) (by omega) seven_join).mono ?_
  rintro e w3 ⟨rfl, hb3⟩
  go_wp2_with fail
  go_ret
  exact ⟨rfl, b2.out.trans (hb3.mono b2.out.size)⟩
theorem four_sum : Crc.sum [49, 50, 51, 52] = 2615402659#32 := by decide +kernel
theorem five_sum : Crc.sum [53, 54, 55, 56, 57] = 320708720#32 := by decide +kernel
theorem none_sum : U (Crc.sum []) = 0 := by decide +kernel
theorem null_sum : U (Crc.sum [0]) = 3523407757 := by decide +kernel
theorem four_more : U (Crc.more (Crc.sum [49, 50, 51, 52]) [53, 54, 55, 56, 57]) = 3421780262 := by decide +kernel
theorem four_join : (3421780262 : Int) = U (Crc.join (Crc.sum [49, 50, 51, 52]) (Crc.sum [53, 54, 55, 56, 57]) (5 : Int).toNat) := by decide +kernel
theorem below_on {w w' w'' : World} (h : Below w.heap.size w w') (h2 : Below w'.heap.size w' w'') : Below w.heap.size w w'' := h.trans (h2.mono h.size)
theorem below_alloc_on {w w' w'' : World} (o : Obj) (h : Below w.heap.size w w') (h2 : Below (w'.alloc o).heap.size (w'.alloc o) w'') : Below w.heap.size w w'' := below_on (h.alloc h.size o) h2
set_option maxRecDepth 100000 in
set_option maxHeartbeats 400000 in
theorem known_any (w : World) : Calls Try.prog 5 #[] w fun e w' => e = .returned (.bool true) ∧ Below w.heap.size w w' := by
  have cv := fun w C n c => Go.Lib.run_convert_bytes_const (P := Try.prog) w 23 5 C n c Try.underlying23 Try.underlying5
  go_enter Try.func5, Try.ntmps5
  go_wp2_with fail
  refine (join_no 0 0 (-1) _ (by omega)).mono ?_
  rintro e w' ⟨rfl, rfl⟩
  go_wp2_with fail
  refine (csum_any [49, 50, 51, 52] 4 _ 4 _ rfl (by decide) (at_const w [v8 49, v8 50, v8 51, v8 52] _ _) (by omega) (by omega)).mono ?_
  rintro e w1 ⟨rfl, hb1⟩
  have b1 := Lib.hid (below_alloc_on _ (Below.refl w.heap.size w) hb1)
  clear hb1
  obtain ⟨x, hx⟩ : ∃ x, x = Crc.sum [49, 50, 51, 52] := ⟨_, rfl⟩
  rw [← hx]
  have HX := Lib.hid hx
  clear hx
  go_wp2_with fail
  refine (csum_any [53, 54, 55, 56, 57] 5 _ 5 _ rfl (by decide) (at_const w1 [v8 53, v8 54, v8 55, v8 56, v8 57] _ _) (by omega) (by omega)).mono ?_
  rintro e w2 ⟨rfl, hb2⟩
  have b2 := Lib.hid (below_alloc_on _ b1.out hb2)
  clear hb2 b1
  obtain ⟨y, hy⟩ : ∃ x, x = Crc.sum [53, 54, 55, 56, 57] := ⟨_, rfl⟩
  rw [← hy]
  have HY := Lib.hid hy
  clear hy
  go_wp2_with fail
  refine (awake_any _).mono ?_
  rintro e w3 ⟨rfl, hb3⟩
  have b3 := Lib.hid (below_on b2.out hb3)
  clear hb3 b2
  go_wp2_with fail
  refine (csum_lit [] _ 0 none 0 _ none_sum rfl (by simp) (At.nil _ _) (by omega) (by omega)).mono ?_
  rintro e w4 ⟨rfl, hb4⟩
  have b4 := Lib.hid (below_on b3.out hb4)
  clear hb4 b3
  go_wp2_with fail
  refine (csum_lit [0] _ 1 _ 1 _ null_sum rfl (by decide) (at_const w4 [v8 0] _ _) (by omega) (by omega)).mono ?_
  rintro e w5 ⟨rfl, hb5⟩
  have b5 := Lib.hid (below_alloc_on _ b4.out hb5)
  clear hb5 b4
  go_wp2_with fail
  refine (more_lit _ _ (congrArg U HX.out) [53, 54, 55, 56, 57] _ 5 _ 5 _ four_more rfl (by decide) (at_const w5 [v8 53, v8 54, v8 55, v8 56, v8 57] _ _) (by omega) (by omega)).mono ?_
  rintro e w6 ⟨rfl, hb6⟩
  have b6 := Lib.hid (below_alloc_on _ b5.out hb6)
  clear hb6 b5
  go_wp2_with fail
  refine (joins_true _ _ _ _ _ 5 _ (congrArg U HX.out) (congrArg U HY.out) (by omega) (by omega) four_join).mono ?_
  rintro e w7 ⟨rfl, hb7⟩
  have b7 := Lib.hid (below_on b6.out hb7)
  clear hb7 b6
  go_wp2_with fail
  go_ret
  exact ⟨rfl, b7.out⟩
end Go.Proofs.Ythekefecgeimeaa
