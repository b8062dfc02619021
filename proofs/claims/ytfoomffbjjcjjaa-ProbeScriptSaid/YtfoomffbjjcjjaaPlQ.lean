/-
  The laws of stage 14: their helpers, awake, ProbeKnown (PlA, PlB in one).
-/
import Derived.Test.YtfoomffbjjcjjaaPbA
import Derived.Test.YtfoomffbjjcjjaaObjN
import Derived.Test.YtfoomffbjjcjjaaPick
import Derived.BigQuiet
namespace Go.Proofs.Ytfoomffbjjcjjaa
set_option linter.unusedSimpArgs false
set_option linter.unusedVariables false
open Go.RowKit Sha Lot
abbrev PProbe (R : PRepT) (LR : LotRep) : Prop := ProbeOK 12 20 21 22 17 18 R LR
theorem good_made (w : World) (l : List Int) (hb : ∀ n ∈ l, -9223372036854775808 ≤ n ∧ n ≤ 9223372036854775807) (hm : l.length ≤ 1000) : GoodN (w.alloc (.cells (l.map v64).toArray it)) l (some ⟨w.heap.size, 0, none⟩) l.length :=
  ⟨hb, at_newR w (l.map v64) it, Nat.le_refl _, by omega, fun h => by cases h⟩
theorem ord_456 : Rd.ordered [4, 5, 6] [] 0 = [5, 6, 4] := by decide +kernel
theorem new_456 : PbNew [4, 5, 6] := by unfold PbNew; decide
abbrev st_0 : Rd.St := ⟨[5, 6, 4], 0⟩
abbrev st_1 : Rd.St := ⟨[5, 6, 4], 1⟩
abbrev st_2 : Rd.St := ⟨[5, 6, 4], 2⟩
abbrev st_3 : Rd.St := ⟨[5, 6, 9, 4], 2⟩
theorem nx_0 : Rd.nextS st_0 [] 0 = st_1 ∧ Rd.nextV st_0 [] 0 = 5 := ⟨rfl, by decide +kernel⟩
theorem nx_1 : Rd.nextS st_1 [] 0 = st_2 ∧ Rd.nextV st_1 [] 0 = 6 := ⟨rfl, by decide +kernel⟩
theorem ad_2 : Rd.addS st_2 9 [] 0 = st_3 ∧ Rd.addE st_2.L 9 = 0 := ⟨rfl, by decide +kernel⟩
theorem bd_of {l : List Int} (h : ∀ n ∈ l, 1 ≤ n ∧ n ≤ 64) : ∀ n ∈ l, -9223372036854775808 ≤ n ∧ n ≤ 9223372036854775807 := fun n hn => by have := h n hn; omega
set_option maxRecDepth 100000 in
set_option maxHeartbeats 4000000 in
theorem three_any {R : PRepT} {LR : LotRep} (F : PProbe R LR) (w : World) : Calls Try.prog 24 #[] w fun e w' => ∃ b fp, e = .returned (optr b) ∧ Solo R w w' b fp st_3 := by
  have K := Lib.hid F.held
  have B0 := Lib.hid (show Below w.heap.size w (w.alloc (.cells #[.int .i64 4, .int .i64 5, .int .i64 6] it)) from (Below.refl _ _).alloc (Nat.le_refl _) _)
  have G0 := Lib.hid (show GoodN (w.alloc (.cells #[.int .i64 4, .int .i64 5, .int .i64 6] it)) [4, 5, 6] (some ⟨w.heap.size, 0, none⟩) 3 from good_made w [4, 5, 6] (by decide) (by simp))
  have HN := Lib.hid (F.newN [4, 5, 6] 3 _ 3 _ rfl G0.out (by omega) new_456)
  rw [ord_456] at HN
  go_enter Try.func24, Try.ntmps24
  go_wp2_with fail
  refine HN.out.mono ?_
  rintro e w2 ⟨b, fp, rfl, hr, hb, hf⟩
  have S0 := Lib.hid (show Solo R w w2 b fp st_0 from ⟨hr, fun k hk => Nat.le_trans B0.out.size (hf k hk), B0.out.trans (hb.mono B0.out.size)⟩)
  clear hr hb hf HN B0 G0
  go_wp2_with fail
  refine (F.order b fp st_0 w2 S0.out.one).mono ?_
  rintro e w3 ⟨v3, rfl, ho3, hb3⟩
  have S1 := Lib.hid (S0.out.on K.out hb3)
  obtain ⟨q3, c3, rfl, _, g3⟩ := ho3.good (bd_of (F.ok S0.out.one).may)
  have G3 := Lib.hid g3
  clear ho3 hb3 g3 S0
  have B4 := Lib.hid (show Below w3.heap.size w3 (w3.alloc (.cells #[.int .i64 5, .int .i64 6, .int .i64 4] it)) from (Below.refl _ _).alloc (Nat.le_refl _) _)
  have HSM := Lib.hid (sameN_any [5, 6, 4] [5, 6, 4] 3 3 q3 (some ⟨w3.heap.size, 0, none⟩) c3 3 (w3.alloc (.cells #[.int .i64 5, .int .i64 6, .int .i64 4] it)) rfl rfl (G3.out.below B4.out) (good_made w3 [5, 6, 4] (by decide) (by simp)))
  rw [show decide (([5, 6, 4] : List Int) = [5, 6, 4]) = true from rfl] at HSM
  have S2 := Lib.hid (S1.out.on K.out B4.out)
  clear S1 G3 B4
  go_wp2_with fail
  refine HSM.out.mono ?_
  rintro e w5 ⟨rfl, m5, hw5⟩
  have S3 := Lib.hid (show Solo R w w5 b fp st_0 from by rw [hw5]; exact S2.out.on K.out (below_drewN (Below.refl _ _) m5))
  clear hw5 S2 HSM
  have HX := Lib.hid (F.nextN b fp st_0 w5 S3.out.one)
  rw [nx_0.1, nx_0.2] at HX
  go_wp2_with fail
  refine HX.out.mono ?_
  rintro e w6 ⟨rfl, fp6, hr, ht, hf⟩
  have S4 := Lib.hid (S3.out.step hr ht hf)
  clear hr ht hf HX S3
  have HX := Lib.hid (F.nextN b fp6 st_1 w6 S4.out.one)
  rw [nx_1.1, nx_1.2] at HX
  go_wp2_with fail
  refine HX.out.mono ?_
  rintro e w7 ⟨rfl, fp7, hr, ht, hf⟩
  have S5 := Lib.hid (S4.out.step hr ht hf)
  clear hr ht hf HX S4
  have HX := Lib.hid (F.addN b fp7 st_2 9 w7 S5.out.one)
  rw [ad_2.1, ad_2.2] at HX
  go_wp2_with fail
  refine HX.out.mono ?_
  rintro e w8 ⟨rfl, fp8, hr, ht, hf⟩
  have S6 := Lib.hid (S5.out.step hr ht hf)
  clear hr ht hf HX S5
  go_wp2_with fail
  go_ret
  exact ⟨b, fp8, rfl, S6.out⟩
def PlTrue (w : World) (e : Ending) (w' : World) : Prop := e = .returned (.bool true) ∧ Below w.heap.size w w'
abbrev st_4 : Rd.St := ⟨[6, 9, 4], 1⟩
abbrev st_5 : Rd.St := ⟨[6, 9, 4], 2⟩
abbrev st_6 : Rd.St := ⟨[6, 9, 4], 3⟩
abbrev st_7 : Rd.St := ⟨[9, 4, 6], 1⟩
theorem ad_3 : Rd.addS st_3 9 [] 0 = st_3 ∧ Rd.addE st_3.L 9 = 7 := ⟨rfl, by decide +kernel⟩
theorem rm_3 : Rd.remS st_3 5 = st_4 ∧ Rd.remE st_3 5 = 0 := ⟨rfl, by decide +kernel⟩
theorem nx_4 : Rd.nextS st_4 [] 0 = st_5 ∧ Rd.nextV st_4 [] 0 = 9 := ⟨rfl, by decide +kernel⟩
theorem nx_5 : Rd.nextS st_5 [] 0 = st_6 ∧ Rd.nextV st_5 [] 0 = 4 := ⟨rfl, by decide +kernel⟩
theorem nx_6 : Rd.nextS st_6 [] 0 = st_7 ∧ Rd.nextV st_6 [] 0 = 9 := ⟨rfl, by decide +kernel⟩
theorem rm_7 : Rd.remS st_7 7 = st_7 ∧ Rd.remE st_7 7 = 6 := ⟨rfl, by decide +kernel⟩
theorem new_11 : ¬ PbNew [1, 1] := by unfold PbNew; decide
section
set_option maxRecDepth 100000 in
set_option maxHeartbeats 4000000 in
theorem pawake_any {R : PRepT} {LR : LotRep} (F : PProbe R LR) (w : World) : Calls Try.prog 8 #[] w (PlTrue w) := by
  have K := Lib.hid F.held
  go_enter Try.func8, Try.ntmps8
  go_wp2_with fail
  refine (three_any F w).mono ?_
  rintro e w1 ⟨b, fp, rfl, hS⟩
  have S0 := Lib.hid hS
  clear hS
  go_wp2_with fail
  refine (F.order b fp st_3 _ S0.out.one).mono ?_
  rintro e wo1 ⟨vo, rfl, ho, hbo⟩
  have T1 := Lib.hid (S0.out.on K.out hbo)
  obtain ⟨qo1, co1, rfl, _, go1⟩ := ho.good (bd_of (F.ok S0.out.one).may)
  have GO := Lib.hid go1
  clear ho hbo go1 S0
  have BO := Lib.hid (show Below wo1.heap.size wo1 (wo1.alloc (.cells #[.int .i64 5, .int .i64 6, .int .i64 9, .int .i64 4] it)) from (Below.refl _ _).alloc (Nat.le_refl _) _)
  have HSM := Lib.hid (sameN_any [5, 6, 9, 4] [5, 6, 9, 4] 4 4 qo1 (some ⟨wo1.heap.size, 0, none⟩) co1 4 (wo1.alloc (.cells #[.int .i64 5, .int .i64 6, .int .i64 9, .int .i64 4] it)) rfl rfl (GO.out.below BO.out) (good_made wo1 [5, 6, 9, 4] (by decide) (by simp)))
  rw [show decide (([5, 6, 9, 4] : List Int) = [5, 6, 9, 4]) = true from rfl] at HSM
  have U1 := Lib.hid (T1.out.on K.out BO.out)
  clear T1 GO BO
  go_wp2_with fail
  refine HSM.out.mono ?_
  rintro e wp1 ⟨rfl, mp, hwp⟩
  have V1 := Lib.hid (show Solo R w wp1 b fp st_3 from by rw [hwp]; exact U1.out.on K.out (below_drewN (Below.refl _ _) mp))
  clear hwp U1 HSM
  have HX := Lib.hid (F.addN b fp st_3 9 _ V1.out.one)
  rw [ad_3.1, ad_3.2] at HX
  go_wp2_with fail
  refine HX.out.mono ?_
  rintro e wc2 ⟨rfl, fp2, hr, ht, hf⟩
  have V2 := Lib.hid (show Solo R w wc2 b fp2 st_3 from V1.out.step hr ht hf)
  clear hr ht hf HX V1
  go_wp2_with fail
  go_ret
  exact ⟨rfl, V2.out.below⟩
set_option maxRecDepth 100000 in
set_option maxHeartbeats 8000000 in
theorem pknown_any {R : PRepT} {LR : LotRep} (F : PProbe R LR) (w : World) : Calls Try.prog 5 #[] w (PlTrue w) := by
  have K := Lib.hid F.held
  go_enter Try.func5, Try.ntmps5
  go_wp2_with fail
  refine (three_any F w).mono ?_
  rintro e w1 ⟨b, fp, rfl, hS⟩
  have S0 := Lib.hid hS
  clear hS
  have HX := Lib.hid (F.rem b fp st_3 5 _ S0.out.one)
  rw [rm_3.1, rm_3.2] at HX
  go_wp2_with fail
  refine HX.out.mono ?_
  rintro e wc1 ⟨rfl, fp1, hr, ht, hf⟩
  have V1 := Lib.hid (show Solo R w wc1 b fp1 st_4 from S0.out.step hr ht hf)
  clear hr ht hf HX S0
  go_wp2_with fail
  refine (F.told b fp1 st_4 _ V1.out.one).mono ?_
  rintro e wt ⟨rfl, hbt⟩
  have VT := Lib.hid (V1.out.on K.out hbt)
  clear hbt V1
  have HX := Lib.hid (F.nextN b fp1 st_4 _ VT.out.one)
  rw [nx_4.1, nx_4.2] at HX
  go_wp2_with fail
  refine HX.out.mono ?_
  rintro e wc3 ⟨rfl, fp3, hr, ht, hf⟩
  have V3 := Lib.hid (show Solo R w wc3 b fp3 st_5 from VT.out.step hr ht hf)
  clear hr ht hf HX VT
  have HX := Lib.hid (F.nextN b fp3 st_5 _ V3.out.one)
  rw [nx_5.1, nx_5.2] at HX
  go_wp2_with fail
  refine HX.out.mono ?_
  rintro e wc4 ⟨rfl, fp4, hr, ht, hf⟩
  have V4 := Lib.hid (show Solo R w wc4 b fp4 st_6 from V3.out.step hr ht hf)
  clear hr ht hf HX V3
  have HX := Lib.hid (F.nextN b fp4 st_6 _ V4.out.one)
  rw [nx_6.1, nx_6.2] at HX
  go_wp2_with fail
  refine HX.out.mono ?_
  rintro e wc5 ⟨rfl, fp5, hr, ht, hf⟩
  have V5 := Lib.hid (show Solo R w wc5 b fp5 st_7 from V4.out.step hr ht hf)
  clear hr ht hf HX V4
  have BN := Lib.hid (show Below wc5.heap.size wc5 (wc5.alloc (.cells #[.int .i64 1, .int .i64 1] it)) from (Below.refl _ _).alloc (Nat.le_refl _) _)
  have HN := Lib.hid (F.new [1, 1] 2 (some ⟨wc5.heap.size, 0, none⟩) 2 (.pointer none) [] [] 0 (wc5.alloc (.cells #[.int .i64 1, .int .i64 1] it)) rfl (good_made wc5 [1, 1] (by decide) (by simp)) (by omega) (LArg.bare _ _ _) (by omega) (fun a _ h => by cases h))
  have VA := Lib.hid (V5.out.on K.out BN.out)
  clear BN V5
  go_wp2_with fail
  refine HN.out.mono ?_
  rintro e wn (⟨hx, _⟩ | ⟨_, rfl, fl, N, _, ht, _⟩)
  · exact absurd hx new_11
  have VB := Lib.hid (VA.out.on K.out (show Below _ _ wn from ⟨ht.os, ht.tape, ht.output, ht.size, fun k hk => ht.block k hk (by simp)⟩))
  clear VA ht HN
  go_wp2_with fail
  refine (pawake_any F wn).mono ?_
  rintro e wa ⟨rfl, hba⟩
  have VC := Lib.hid (VB.out.on K.out hba)
  clear hba VB
  go_wp2_with fail
  refine (F.order b fp5 st_7 _ VC.out.one).mono ?_
  rintro e wo6 ⟨vo, rfl, ho, hbo⟩
  have T6 := Lib.hid (VC.out.on K.out hbo)
  obtain ⟨qo6, co6, rfl, _, go6⟩ := ho.good (bd_of (F.ok VC.out.one).may)
  have GO := Lib.hid go6
  clear ho hbo go6 VC
  have BO := Lib.hid (show Below wo6.heap.size wo6 (wo6.alloc (.cells #[.int .i64 9, .int .i64 4, .int .i64 6] it)) from (Below.refl _ _).alloc (Nat.le_refl _) _)
  have HSM := Lib.hid (sameN_any [9, 4, 6] [9, 4, 6] 3 3 qo6 (some ⟨wo6.heap.size, 0, none⟩) co6 3 (wo6.alloc (.cells #[.int .i64 9, .int .i64 4, .int .i64 6] it)) rfl rfl (GO.out.below BO.out) (good_made wo6 [9, 4, 6] (by decide) (by simp)))
  rw [show decide (([9, 4, 6] : List Int) = [9, 4, 6]) = true from rfl] at HSM
  have U6 := Lib.hid (T6.out.on K.out BO.out)
  clear T6 GO BO
  go_wp2_with fail
  refine HSM.out.mono ?_
  rintro e wp6 ⟨rfl, mp, hwp⟩
  have V6 := Lib.hid (show Solo R w wp6 b fp5 st_7 from by rw [hwp]; exact U6.out.on K.out (below_drewN (Below.refl _ _) mp))
  clear hwp U6 HSM
  have HX := Lib.hid (F.rem b fp5 st_7 7 _ V6.out.one)
  rw [rm_7.1, rm_7.2] at HX
  go_wp2_with fail
  refine HX.out.mono ?_
  rintro e wc7 ⟨rfl, fp7, hr, ht, hf⟩
  have V7 := Lib.hid (show Solo R w wc7 b fp7 st_7 from V6.out.step hr ht hf)
  clear hr ht hf HX V6
  go_wp2_with fail
  go_ret
  exact ⟨rfl, V7.out.below⟩
end
end Go.Proofs.Ytfoomffbjjcjjaa
