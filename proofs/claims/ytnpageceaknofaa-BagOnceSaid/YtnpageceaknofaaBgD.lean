/-
  An act of a bag of the program's and of the reference's, side by side.
-/
import Derived.Test.YtnpageceaknofaaBgB
import Derived.Test.YtnpageceaknofaaBgC
import Derived.Deep.RegionLaw
namespace Go.Proofs.Ytnpageceaknofaa
set_option linter.unusedSimpArgs false
set_option linter.unusedVariables false
open Go.RowKit Sha Bag
abbrev TwoB (R : BagRep Int) (w0 w : World) (b1 : Nat) (f1 : List Nat) (b2 : Nat) (f2 : List Nat) (m : Nat) (l : List Int) : Prop := Pair R RefBag w0 w b1 f1 (m, l) b2 f2 (m, l)
def DoesDone (R : BagRep Int) (w0 : World) (b1 b2 m : Nat) (e : Ending) (w' : World) : Prop := e = .returned (.bool true) ∧ ∃ f1 f2 l, TwoB R w0 w' b1 f1 b2 f2 m l
set_option maxRecDepth 100000 in
set_option maxHeartbeats 2000000 in
theorem does_any {R : BagRep Int} (F : NumBagOK R) (w0 w : World) (b1 : Nat) (f1 : List Nat) (b2 : Nat) (f2 : List Nat) (m : Nat) (l : List Int) (kd x : Int) (h : TwoB R w0 w b1 f1 b2 f2 m l) (hx : -9223372036854775808 ≤ x ∧ x ≤ 9223372036854775807) :
    Calls Try.prog 14 #[optr b1, optr b2, .agg #[v64 kd, v64 x]] w (DoesDone R w0 b1 b2 m) := by
  have K := Lib.hid F.ok.held
  have T1 := Lib.hid (Trio.made (t := 32) K.out refHeld h #[v64 kd, v64 x])
  have HX := Lib.hid hx
  clear h hx
  go_enter Try.func14, Try.ntmps14
  generalize hg : w.heap.size = g at *
  obtain ⟨w1, hw1⟩ : ∃ W, W = w.alloc (.cells #[v64 kd, v64 x] 32) := ⟨_, rfl⟩
  rw [← hw1] at T1
  have c0 : w1.cell? ⟨g, 0, none⟩ = some (v64 kd) := T1.out.blk.cell 0
  have c1 : w1.cell? ⟨g, 1, none⟩ = some (v64 x) := T1.out.blk.cell 1
  by_cases h01 : kd = 0 ∨ kd = 1
  · rcases h01 with h0 | h0
    · subst h0
      have HPX := Lib.hid (fun W f1 (h : R W b1 f1 (m, l)) => show Calls Try.prog 12 #[optr b1, v64 x] W (ODone R b1 f1 (m, putL m l x) (v64 (putE m l)) W) from F.ok.put b1 f1 m l x W h HX.out)
      have HPR := Lib.hid (fun W f2 (h : RefBag W b2 f2 (m, l)) => show Calls Try.prog 34 #[optr b2, v64 x] W (ODone RefBag b2 f2 (m, putL m l x) (v64 (putE m l)) W) from refBagOK.put b2 f2 m l x W h HX.out)
      generalize putL m l x = l' at *
      generalize putE m l = z at *
      go_wp2_with (refine wpList_box_arr rfl 32 _ rfl _ rfl ?_; rw [hg, ← hw1]; clear hw1)
      have TD := Lib.hid (T1.out.drewN K.out refHeld 1)
      have cd : w1.drew.cell? ⟨g, 1, none⟩ = some (v64 x) := TD.out.blk.cell 1
      go_region_law (first | (have _t := tkR; go_simp; go_at_call 12; clear tkR _t; refine (HPX.out w5 _ T5.out.pair.one).mono ?_; rintro e w6 ⟨rfl, f6, hr, ht, hf⟩; have T6 := Lib.hid (T5.out.step1 refHeld hr ht hf); have c6 : w6.cell? ⟨g, 1, none⟩ = some (v64 x) := T6.out.blk.cell 1; clear hr ht hf) | (have _t := tkP; go_simp; go_at_call 34; clear tkP _t; refine (HPR.out w5 _ T5.out.pair.two).mono ?_; rintro e w6 ⟨rfl, f6, hr, ht, hf⟩; have T6 := Lib.hid (T5.out.step2 K.out hr ht hf); have c6 : w6.cell? ⟨g, 1, none⟩ = some (v64 x) := T6.out.blk.cell 1; clear hr ht hf) | (go_simp; go_at_call 12; refine (HPX.out _ _ TD.out.pair.one).mono ?_; rintro e w5 ⟨rfl, f5, hr, ht, hf⟩; have T5 := Lib.hid (TD.out.step1 refHeld hr ht hf); have c5 : w5.cell? ⟨g, 1, none⟩ = some (v64 x) := T5.out.blk.cell 1; have tkP : True := trivial; clear hr ht hf) | (go_simp; go_at_call 34; refine (HPR.out _ _ TD.out.pair.two).mono ?_; rintro e w5 ⟨rfl, f5, hr, ht, hf⟩; have T5 := Lib.hid (TD.out.step2 K.out hr ht hf); have c5 : w5.cell? ⟨g, 1, none⟩ = some (v64 x) := T5.out.blk.cell 1; have tkR : True := trivial; clear hr ht hf))
      all_goals go_wp2_with fail
      all_goals go_ret
      all_goals exact ⟨rfl, _, _, _, T6.out.pair⟩
    · subst h0
      have HPX := Lib.hid (fun W f1 (h : R W b1 f1 (m, l)) => show Calls Try.prog 12 #[optr b1, v64 x] W (ODone R b1 f1 (m, putL m l x) (v64 (putE m l)) W) from F.ok.put b1 f1 m l x W h HX.out)
      have HPR := Lib.hid (fun W f2 (h : RefBag W b2 f2 (m, l)) => show Calls Try.prog 34 #[optr b2, v64 x] W (ODone RefBag b2 f2 (m, putL m l x) (v64 (putE m l)) W) from refBagOK.put b2 f2 m l x W h HX.out)
      generalize putL m l x = l' at *
      generalize putE m l = z at *
      go_wp2_with (refine wpList_box_arr rfl 32 _ rfl _ rfl ?_; rw [hg, ← hw1]; clear hw1)
      have TD := Lib.hid (T1.out.drewN K.out refHeld 1)
      have cd : w1.drew.cell? ⟨g, 1, none⟩ = some (v64 x) := TD.out.blk.cell 1
      go_region_law (first | (have _t := tkR; go_simp; go_at_call 12; clear tkR _t; refine (HPX.out w5 _ T5.out.pair.one).mono ?_; rintro e w6 ⟨rfl, f6, hr, ht, hf⟩; have T6 := Lib.hid (T5.out.step1 refHeld hr ht hf); have c6 : w6.cell? ⟨g, 1, none⟩ = some (v64 x) := T6.out.blk.cell 1; clear hr ht hf) | (have _t := tkP; go_simp; go_at_call 34; clear tkP _t; refine (HPR.out w5 _ T5.out.pair.two).mono ?_; rintro e w6 ⟨rfl, f6, hr, ht, hf⟩; have T6 := Lib.hid (T5.out.step2 K.out hr ht hf); have c6 : w6.cell? ⟨g, 1, none⟩ = some (v64 x) := T6.out.blk.cell 1; clear hr ht hf) | (go_simp; go_at_call 12; refine (HPX.out _ _ TD.out.pair.one).mono ?_; rintro e w5 ⟨rfl, f5, hr, ht, hf⟩; have T5 := Lib.hid (TD.out.step1 refHeld hr ht hf); have c5 : w5.cell? ⟨g, 1, none⟩ = some (v64 x) := T5.out.blk.cell 1; have tkP : True := trivial; clear hr ht hf) | (go_simp; go_at_call 34; refine (HPR.out _ _ TD.out.pair.two).mono ?_; rintro e w5 ⟨rfl, f5, hr, ht, hf⟩; have T5 := Lib.hid (TD.out.step2 K.out hr ht hf); have c5 : w5.cell? ⟨g, 1, none⟩ = some (v64 x) := T5.out.blk.cell 1; have tkR : True := trivial; clear hr ht hf))
      all_goals go_wp2_with fail
      all_goals go_ret
      all_goals exact ⟨rfl, _, _, _, T6.out.pair⟩
  · have hz0 : (kd == 0) = false := by rw [beq_eq_false_iff_ne]; omega
    have hz1 : (kd == 1) = false := by rw [beq_eq_false_iff_ne]; omega
    by_cases h2 : kd = 2
    · subst h2
      go_wp2_with (refine wpList_box_arr rfl 32 _ rfl _ rfl ?_; rw [hg, ← hw1]; clear hw1)
      refine (show Calls Try.prog _ _ _ (ODone R b1 f1 (m, takeL l x) (.tuple #[v64 (atV 0 l x), v64 (atE l x)]) w1) from F.ok.take b1 f1 m l x w1 T1.out.pair.one HX.out).mono ?_
      rintro e w2 ⟨rfl, f1a, hr, ht, hf⟩
      have T2 := Lib.hid (T1.out.step1 refHeld hr ht hf)
      have d1 : w2.cell? ⟨g, 1, none⟩ = some (v64 x) := T2.out.blk.cell 1
      clear hr ht hf T1 c0 c1
      go_wp2_with fail
      refine (show Calls Try.prog _ _ _ (ODone RefBag b2 f2 (m, takeL l x) (.tuple #[v64 (atV 0 l x), v64 (atE l x)]) w2) from refBagOK.take b2 f2 m l x w2 T2.out.pair.two HX.out).mono ?_
      rintro e w3 ⟨rfl, f2a, hr, ht, hf⟩
      have T3 := Lib.hid (T2.out.step2 K.out hr ht hf)
      clear hr ht hf T2 d1
      generalize atV 0 l x = y at *
      generalize atE l x = z at *
      go_wp2_with fail
      go_ret
      exact ⟨rfl, _, _, _, T3.out.pair⟩
    · have hz2 : (kd == 2) = false := by rw [beq_eq_false_iff_ne]; omega
      by_cases h3 : kd = 3
      · subst h3
        go_wp2_with (refine wpList_box_arr rfl 32 _ rfl _ rfl ?_; rw [hg, ← hw1]; clear hw1)
        refine (show Calls Try.prog _ _ _ (ODone R b1 f1 (m, l) (.tuple #[v64 (atV 0 l x), v64 (atE l x)]) w1) from F.ok.at_ b1 f1 m l x w1 T1.out.pair.one HX.out).mono ?_
        rintro e w2 ⟨rfl, f1a, hr, ht, hf⟩
        have T2 := Lib.hid (T1.out.step1 refHeld hr ht hf)
        have d1 : w2.cell? ⟨g, 1, none⟩ = some (v64 x) := T2.out.blk.cell 1
        clear hr ht hf T1 c0 c1
        go_wp2_with fail
        refine (show Calls Try.prog _ _ _ (ODone RefBag b2 f2 (m, l) (.tuple #[v64 (atV 0 l x), v64 (atE l x)]) w2) from refBagOK.at_ b2 f2 m l x w2 T2.out.pair.two HX.out).mono ?_
        rintro e w3 ⟨rfl, f2a, hr, ht, hf⟩
        have T3 := Lib.hid (T2.out.step2 K.out hr ht hf)
        clear hr ht hf T2 d1
        generalize atV 0 l x = y at *
        generalize atE l x = z at *
        go_wp2_with fail
        go_ret
        exact ⟨rfl, _, _, _, T3.out.pair⟩
      · have hz3 : (kd == 3) = false := by rw [beq_eq_false_iff_ne]; omega
        go_wp2_with (refine wpList_box_arr rfl 32 _ rfl _ rfl ?_; rw [hg, ← hw1]; clear hw1)
        go_ret
        exact ⟨rfl, _, _, _, T1.out.pair⟩
end Go.Proofs.Ytnpageceaknofaa
