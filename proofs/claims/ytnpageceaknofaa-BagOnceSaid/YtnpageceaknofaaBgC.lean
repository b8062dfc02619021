/-
  The law package's awake and known, over what bags of numbers are asked to do.
-/
import Derived.Test.YtnpageceaknofaaBgA
import Derived.Deep.QuietTactic
import Derived.BigQuiet
namespace Go.Proofs.Ytnpageceaknofaa
set_option linter.unusedSimpArgs false
set_option linter.unusedVariables false
open Go.RowKit Sha Bag
theorem at_markN (w : World) (cs : List Value) (t : TypeId) (fr : Nat × Nat) : At (w.alloc (.cells cs.toArray t fr)) (some ⟨w.heap.size, 0, none⟩) cs := by
  refine Or.inr ⟨_, 0, rfl, fun i v hi => ?_⟩
  rw [Nat.zero_add, cell_of_row _ _ i cs.toArray t fr (heap_alloc_new w _)]
  simpa using hi
theorem good_lit (w : World) (xs : List Int) (cs : Array Value) (n : Nat) (hc : cs = (xs.map v64).toArray) (hn : xs.length = n) (hs : n ≤ 1000) (hx : ∀ n ∈ xs, -9223372036854775808 ≤ n ∧ n ≤ 9223372036854775807) : GoodN (w.alloc (.cells cs 3)) xs (some ⟨w.heap.size, 0, none⟩) n := by
  subst hc
  exact ⟨hx, at_markN w (xs.map v64) 3 (0, 0), by omega, by omega, fun h => by cases h⟩
theorem fit_lit {n : Int} (h : -9223372036854775808 ≤ n ∧ n ≤ 9223372036854775807) : numK.fit n := h
set_option maxRecDepth 100000 in
set_option maxHeartbeats 1000000 in
theorem awake_any {R : BagRep Int} (F : NumBagOK R) (w : World) : Calls Try.prog 10 #[] w fun e w' => e = .returned (.bool true) ∧ Below w.heap.size w w' := by
  have K := Lib.hid F.ok.held
  go_enter Try.func10, Try.ntmps10
  go_wp2_with fail
  refine (F.ok.new 2 w (by omega)).mono ?_
  rintro e w1 ⟨hb1, ⟨_, b, fp, rfl, hr, hn⟩ | ⟨hz, _⟩⟩
  · have S1 := Lib.hid (show Solo R w w1 b fp (2, []) from ⟨hr, hn, hb1⟩)
    clear hb1 hr hn
    go_wp2_with fail
    refine (show Calls Try.prog _ _ _ (ODone R b fp (2, [7]) (v64 0) w1) from F.ok.put b fp 2 [] 7 w1 S1.out.one (fit_lit (by omega))).mono ?_
    rintro e w2 ⟨rfl, fp2, hr, ht, hf⟩
    have S2 := Lib.hid (S1.out.step hr ht hf)
    clear hr ht hf S1
    go_wp2_with fail
    refine (show Calls Try.prog _ _ _ (ODone R b fp2 (2, [7, 8]) (v64 0) w2) from F.ok.put b fp2 2 [7] 8 w2 S2.out.one (fit_lit (by omega))).mono ?_
    rintro e w3 ⟨rfl, fp3, hr, ht, hf⟩
    have S3 := Lib.hid (S2.out.step hr ht hf)
    clear hr ht hf S2
    go_wp2_with fail
    refine (show Calls Try.prog _ _ _ (ODone R b fp3 (2, [7, 8]) (v64 8) w3) from F.ok.put b fp3 2 [7, 8] 9 w3 S3.out.one (fit_lit (by omega))).mono ?_
    rintro e w4 ⟨rfl, fp4, hr, ht, hf⟩
    have S4 := Lib.hid (S3.out.step hr ht hf)
    clear hr ht hf S3
    go_wp2_with fail
    refine (show Calls Try.prog _ _ _ (ODone R b fp4 (2, [8]) (.tuple #[v64 7, v64 0]) w4) from F.ok.take b fp4 2 [7, 8] 0 w4 S4.out.one (by omega)).mono ?_
    rintro e w5 ⟨rfl, fp5, hr, ht, hf⟩
    have S5 := Lib.hid (S4.out.step hr ht hf)
    clear hr ht hf S4
    go_wp2_with fail
    refine (show Calls Try.prog _ _ _ (ODone R b fp5 (2, [8, 9]) (v64 0) w5) from F.ok.put b fp5 2 [8] 9 w5 S5.out.one (fit_lit (by omega))).mono ?_
    rintro e w6 ⟨rfl, fp6, hr, ht, hf⟩
    have S6 := Lib.hid (S5.out.step hr ht hf)
    clear hr ht hf S5
    go_wp2_with fail
    refine (F.more.all b fp6 2 [8, 9] w6 S6.out.one).mono ?_
    rintro e w7 ⟨v, fp7, rfl, ho, hr, ht, hf, _⟩
    have S7 := Lib.hid (S6.out.step hr ht hf)
    obtain ⟨q, c, rfl, hl, hg⟩ := Own64.good ho (by intro n hn; simp at hn; omega)
    have G7 := Lib.hid hg
    clear hr ht hf S6 ho hg hl
    go_wp2_with fail
    have hb8 := (Below.refl w7.heap.size w7).alloc (Nat.le_refl _) (Obj.cells #[Value.int IntKind.i64 8, Value.int IntKind.i64 9] 3)
    refine (sameN_any [8, 9] [8, 9] 2 2 q _ c 2 _ rfl rfl (G7.out.below hb8) (good_lit w7 [8, 9] #[Value.int IntKind.i64 8, Value.int IntKind.i64 9] 2 rfl rfl (by omega) (by intro n hn; simp at hn; omega))).mono ?_
    rintro e w9 ⟨rfl, m, rfl⟩
    have S9 := Lib.hid (S7.out.on K.out (below_drewN hb8 m))
    obtain ⟨w9, hw9⟩ : ∃ x, x = (w7.alloc (Obj.cells #[Value.int IntKind.i64 8, Value.int IntKind.i64 9] 3)).drewN m := ⟨_, rfl⟩
    rw [← hw9] at S9 ⊢
    clear hb8 hw9 S7 G7
    go_wp2_with fail
    refine (show Calls Try.prog _ _ _ (QDone (v64 0) w9) from F.more.room b fp7 2 [8, 9] w9 S9.out.one).mono ?_
    rintro e w10 ⟨rfl, k, rfl⟩
    have B10 := Lib.hid (below_drewN S9.out.below k)
    go_wp2_with fail
    go_ret
    exact ⟨rfl, B10.out⟩
  · exact absurd hz (by decide)
set_option maxRecDepth 100000 in
set_option maxHeartbeats 1000000 in
theorem known_any {R : BagRep Int} (F : NumBagOK R) (w : World) : Calls Try.prog 5 #[] w fun e w' => e = .returned (.bool true) ∧ Below w.heap.size w w' := by
  have K := Lib.hid F.ok.held
  go_enter Try.func5, Try.ntmps5
  go_wp2_with fail
  refine (F.ok.new 2 w (by omega)).mono ?_
  rintro e w1 ⟨hb1, ⟨_, b, fp, rfl, hr, hn⟩ | ⟨hz, _⟩⟩
  · have S1 := Lib.hid (show Solo R w w1 b fp (2, []) from ⟨hr, hn, hb1⟩)
    clear hb1 hr hn
    go_wp2_with fail
    refine (show Calls Try.prog _ _ _ (ODone R b fp (2, [8]) (v64 0) w1) from F.ok.put b fp 2 [] 8 w1 S1.out.one (fit_lit (by omega))).mono ?_
    rintro e w2 ⟨rfl, fp2, hr, ht, hf⟩
    have S2 := Lib.hid (S1.out.step hr ht hf)
    clear hr ht hf S1
    go_wp2_with fail
    refine (show Calls Try.prog _ _ _ (ODone R b fp2 (2, [8, 9]) (v64 0) w2) from F.ok.put b fp2 2 [8] 9 w2 S2.out.one (fit_lit (by omega))).mono ?_
    rintro e w3 ⟨rfl, fp3, hr, ht, hf⟩
    have S3 := Lib.hid (S2.out.step hr ht hf)
    clear hr ht hf S2
    go_wp2_with fail
    refine (show Calls Try.prog _ _ _ (ODone R b fp3 (2, [8, 9]) (.tuple #[v64 9, v64 0]) w3) from F.ok.at_ b fp3 2 [8, 9] 1 w3 S3.out.one (by omega)).mono ?_
    rintro e w4 ⟨rfl, fp4, hr, ht, hf⟩
    have S4 := Lib.hid (S3.out.step hr ht hf)
    clear hr ht hf S3
    go_wp2_with fail
    refine (show Calls Try.prog _ _ _ (ODone R b fp4 (2, [8, 9]) (.tuple #[v64 0, v64 5]) w4) from F.ok.at_ b fp4 2 [8, 9] 2 w4 S4.out.one (by omega)).mono ?_
    rintro e w5 ⟨rfl, fp5, hr, ht, hf⟩
    have S5 := Lib.hid (S4.out.step hr ht hf)
    clear hr ht hf S4
    go_wp2_with fail
    refine (show Calls Try.prog _ _ _ (ODone R b fp5 (2, [8, 9]) (.tuple #[v64 0, v64 5]) w5) from F.ok.take b fp5 2 [8, 9] (-1) w5 S5.out.one (by omega)).mono ?_
    rintro e w6 ⟨rfl, fp6, hr, ht, hf⟩
    have S6 := Lib.hid (S5.out.step hr ht hf)
    clear hr ht hf S5
    go_wp2_with fail
    refine (F.ok.new 2001 w6 (by omega)).mono ?_
    rintro e w7 ⟨hb7, ⟨hz, _⟩ | ⟨_, rfl⟩⟩
    · exact absurd hz (by decide)
    have B7 := Lib.hid (S6.out.below.trans (hb7.mono S6.out.below.size))
    clear hb7
    go_wp2_with fail
    refine (awake_any F w7).mono ?_
    rintro e w8 ⟨rfl, hb8⟩
    have B8 := Lib.hid (B7.out.trans (hb8.mono B7.out.size))
    clear hb8
    go_wp2_with fail
    go_ret
    exact ⟨rfl, B8.out⟩
  · exact absurd hz (by decide)
end Go.Proofs.Ytnpageceaknofaa
