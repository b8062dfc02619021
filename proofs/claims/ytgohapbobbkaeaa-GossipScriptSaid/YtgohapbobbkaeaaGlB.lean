/-
  The chapter's buffer, and what it answers.
-/
import Derived.Test.YtgohapbobbkaeaaGlA
import Derived.Test.YtgohapbobbkaeaaMbP
namespace Go.Proofs.Ytgohapbobbkaeaa
set_option linter.unusedSimpArgs false
set_option linter.unusedVariables false
open Go.RowKit Sha
def ga : Mb := ⟨1, 1, 0⟩
def gd : Mb := ⟨2, 3, 1⟩
def g0 : List Tl := [⟨ga, 0⟩, ⟨gd, 0⟩]
def g1 : List Tl := [⟨gd, 0⟩, ⟨ga, 1⟩]
def g2 : List Tl := [⟨ga, 1⟩, ⟨gd, 1⟩]
def g3 : List Tl := [⟨ga, 2⟩, ⟨gd, 2⟩]
theorem ga_ok : ∀ x ∈ [ga], x.ok := by intro x hx; simp at hx; subst hx; exact ⟨by decide, by decide, by decide⟩
theorem gd_ok : ∀ x ∈ [gd], x.ok := by intro x hx; simp at hx; subst hx; exact ⟨by decide, by decide, by decide⟩
theorem gg_ok : ∀ x ∈ [ga, gd], x.ok := by intro x hx; simp at hx; rcases hx with rfl | rfl <;> exact ⟨by decide, by decide, by decide⟩
theorem add_1 : Gs.add 5 [] ⟨2, 1, 1⟩ = ([⟨⟨2, 1, 1⟩, 0⟩], true, 0) := by decide +kernel
theorem add_2 : Gs.add 5 [⟨⟨2, 1, 1⟩, 0⟩] ⟨2, 1, 0⟩ = ([⟨⟨2, 1, 1⟩, 0⟩], false, 0) := by decide +kernel
theorem add_3 : Gs.add 5 [⟨⟨2, 1, 1⟩, 0⟩] ⟨2, 3, 1⟩ = ([⟨gd, 0⟩], true, 0) := by decide +kernel
theorem add_4 : Gs.add 5 [⟨gd, 0⟩] ⟨1, 1, 0⟩ = (g0, true, 0) := by decide +kernel
theorem add_5 : Gs.add 5 g3 ⟨6, 1, 0⟩ = (g3, false, 2) := by decide +kernel
theorem told_1 : Gs.told g0 1 = [ga] := by decide +kernel
theorem left_1 : Gs.left 5 g0 1 = g1 := by decide +kernel
theorem told_2 : Gs.told g1 1 = [gd] := by decide +kernel
theorem left_2 : Gs.left 5 g1 1 = g2 := by decide +kernel
theorem told_3 : Gs.told g2 5 = [ga, gd] := by decide +kernel
theorem left_3 : Gs.left 5 g2 5 = g3 := by decide +kernel
theorem told_4 : Gs.told g3 0 = [] := by decide +kernel
theorem left_4 : Gs.left 5 g3 0 = g3 := by decide +kernel
theorem lim_5 : Gs.lim 5 = 9 := by decide +kernel
theorem run_buildM2g (w : World) (a b : Mb) : (buildM 35 2 #[(0, mv a), (1, mv b)]).run Try.prog w = .ok (.value (.slice (some ⟨w.heap.size, 0, none⟩) 2 2)) (w.alloc (.cells ([a, b].flatMap mc).toArray mt)) := by
  have := run_build_items (P := Try.prog) w 35 mt 3 _ (by omega) Try.underlying35 mem_zs [mc a, mc b] (by intro c hc; simp at hc; rcases hc with rfl | rfl <;> rfl) (by simp)
  unfold buildM; simp only [Sem.run_bind]
  rw [show (Instr.buildSlice 35 2 #[(0, mv a), (1, mv b)]).run Try.prog w = _ from this]; rfl
theorem run_buildM1g (w : World) (a : Mb) : (buildM 35 1 #[(0, mv a)]).run Try.prog w = .ok (.value (.slice (some ⟨w.heap.size, 0, none⟩) 1 1)) (w.alloc (.cells ([a].flatMap mc).toArray mt)) := run_buildM1 w a
theorem good_made (w : World) (l : List Mb) (hok : ∀ x ∈ l, x.ok) (hm : l.length ≤ 1000) : GoodW (w.alloc (.cells (l.flatMap mc).toArray mt)) l (some ⟨w.heap.size, 0, none⟩) l.length :=
  goodW_blk (rest := []) (by simpa using Blk.new w (l.flatMap mc).toArray mt) hok rfl (Nat.le_refl _) (by unfold maxLen; omega)
/-- A Take whose answer and rest are known. -/
theorem take_known {R : GRepT} (F : PGossip R) {b : Nat} {fp : List Nat} {N : Nat} {l l2 : List Tl} {t : List Mb} {n : Int} {w : World} (h : R w b fp (N, l)) (hn : -9223372036854775808 ≤ n ∧ n ≤ 9223372036854775807) (h1 : Gs.told l n = t) (h2 : Gs.left N l n = l2) (hok : ∀ x ∈ t, x.ok) :
    Calls Try.prog 11 #[optr b, v64 n] w fun e w' => ∃ q c fp', e = .returned (.slice q t.length c) ∧ GoodW w' t q c ∧ R w' b fp' (N, l2) ∧ Touch fp w w' ∧ From fp fp' w := by
  refine (F.take b fp N l n w h hn).mono ?_
  rintro e w' ⟨v, fp', rfl, ho, hr, ht, hf, _⟩
  rw [h1] at ho
  rw [h2] at hr
  obtain ⟨q, c, rfl, _, hg⟩ := own_goodM ho hok
  exact ⟨q, c, fp', rfl, hg, hr, ht, hf⟩
section
attribute [local go_sem ↓] execOp_loadM execOp_storeM execOp_eqlM execOp_buildM

set_option maxRecDepth 100000 in
set_option maxHeartbeats 4000000 in
theorem begun_any {R : GRepT} (F : PGossip R) (w : World) : Calls Try.prog 20 #[] w fun e w' => ∃ b fp, e = .returned (optr b) ∧ Solo R w w' b fp (5, g0) := by
  have K := Lib.hid F.held
  go_enter Try.func20, Try.ntmps20
  go_wp2_with fail
  refine (F.new 5 w (by omega)).mono ?_
  rintro e w1 ⟨hb1, ⟨_, b, fp, rfl, hr, hn⟩ | ⟨hz, _⟩⟩
  rotate_left
  · exact absurd ⟨by decide, by decide⟩ hz
  have S0 := Lib.hid (show Solo R w w1 b fp (5, []) from ⟨hr, hn, hb1⟩)
  clear hb1 hr hn
  have HL := Lib.hid (F.lim b fp 5 [] w1 S0.out.one)
  rw [lim_5] at HL
  go_wp2_with fail
  refine HL.out.mono ?_
  rintro e _ ⟨rfl, kl, rfl⟩
  have S1 := Lib.hid (S0.out.on K.out (below_drewN (Below.refl _ _) kl))
  clear HL S0
  generalize w1.drewN kl = w2 at *
  go_wp2_with fail
  refine (gof_any 2 1 1 _).mono ?_
  rintro e wo1 ⟨rfl, hbo⟩
  have S1m := Lib.hid (S1.out.on K.out hbo)
  clear hbo S1
  have HA := Lib.hid (adds_any F b fp 5 [] ⟨2, 1, 1⟩ true wo1 S1m.out.one (by rw [add_1]))
  rw [add_1] at HA
  go_wp2_with fail
  refine HA.out.mono ?_
  rintro e w2 ⟨rfl, fp2, hr, ht, hf⟩
  have S2 := Lib.hid (S1m.out.step (s' := (5, [⟨⟨2, 1, 1⟩, 0⟩])) hr ht hf)
  clear hr ht hf HA S1m
  go_wp2_with fail
  refine (gof_any 2 1 0 _).mono ?_
  rintro e wo2 ⟨rfl, hbo⟩
  have S2m := Lib.hid (S2.out.on K.out hbo)
  clear hbo S2
  have HA := Lib.hid (adds_any F b fp2 5 [⟨⟨2, 1, 1⟩, 0⟩] ⟨2, 1, 0⟩ false wo2 S2m.out.one (by rw [add_2]))
  rw [add_2] at HA
  go_wp2_with fail
  refine HA.out.mono ?_
  rintro e w3 ⟨rfl, fp3, hr, ht, hf⟩
  have S3 := Lib.hid (S2m.out.step (s' := (5, [⟨⟨2, 1, 1⟩, 0⟩])) hr ht hf)
  clear hr ht hf HA S2m
  go_wp2_with fail
  refine (gof_any 2 3 1 _).mono ?_
  rintro e wo3 ⟨rfl, hbo⟩
  have S3m := Lib.hid (S3.out.on K.out hbo)
  clear hbo S3
  have HA := Lib.hid (adds_any F b fp3 5 [⟨⟨2, 1, 1⟩, 0⟩] ⟨2, 3, 1⟩ true wo3 S3m.out.one (by rw [add_3]))
  rw [add_3] at HA
  go_wp2_with fail
  refine HA.out.mono ?_
  rintro e w4 ⟨rfl, fp4, hr, ht, hf⟩
  have S4 := Lib.hid (S3m.out.step (s' := (5, [⟨gd, 0⟩])) hr ht hf)
  clear hr ht hf HA S3m
  go_wp2_with fail
  refine (gof_any 1 1 0 _).mono ?_
  rintro e wo4 ⟨rfl, hbo⟩
  have S4m := Lib.hid (S4.out.on K.out hbo)
  clear hbo S4
  have HA := Lib.hid (adds_any F b fp4 5 [⟨gd, 0⟩] ⟨1, 1, 0⟩ true wo4 S4m.out.one (by rw [add_4]))
  rw [add_4] at HA
  go_wp2_with fail
  refine HA.out.mono ?_
  rintro e w5 ⟨rfl, fp5, hr, ht, hf⟩
  have S5 := Lib.hid (S4m.out.step (s' := (5, g0)) hr ht hf)
  clear hr ht hf HA S4m
  have HN := Lib.hid (F.len b fp5 5 g0 w5 S5.out.one)
  go_wp2_with fail
  refine HN.out.mono ?_
  rintro e _ ⟨rfl, kn, rfl⟩
  have S6 := Lib.hid (S5.out.on K.out (below_drewN (Below.refl _ _) kn))
  clear HN S5
  generalize w5.drewN kn = w6 at *
  have e2 : (v64 (g0.length : Nat)) = .int .i64 2 := rfl
  rw [e2]
  go_wp2_with fail
  go_ret
  exact ⟨b, fp5, rfl, S6.out⟩
set_option maxRecDepth 100000 in
set_option maxHeartbeats 4000000 in
theorem gawake_any {R : GRepT} (F : PGossip R) (w : World) : Calls Try.prog 10 #[] w (BoolDone true w) := by
  have K := Lib.hid F.held
  go_enter Try.func10, Try.ntmps10
  go_wp2_with fail
  refine (begun_any F w).mono ?_
  rintro e w1 ⟨b, fp1, rfl, hs⟩
  have S1 := Lib.hid hs
  clear hs
  have HT := Lib.hid (take_known F S1.out.one (n := 1) (by omega) told_1 left_1 ga_ok)
  go_wp2_with fail
  refine HT.out.mono ?_
  rintro e wt1 ⟨q, c, fp2, rfl, hg, hr, ht, hf⟩
  have S1t := Lib.hid (S1.out.step (s' := (5, g1)) hr ht hf)
  have HG := Lib.hid hg
  have g1b := hg.le
  have g2b := hg.max
  clear hg hr ht hf HT S1
  go_wp2_with fail
  refine (gof_any 1 1 0 _).mono ?_
  rintro e wo1_0 ⟨rfl, hbo⟩
  replace S1t := Lib.hid (S1t.out.on K.out hbo)
  replace HG := Lib.hid (HG.out.below hbo)
  clear hbo
  have cB := run_buildM1g wo1_0 ⟨1, 1, 0⟩
  have HG2 := Lib.hid (show GoodW (wo1_0.alloc (.cells (([⟨1, 1, 0⟩] : List Mb).flatMap mc).toArray mt)) [⟨1, 1, 0⟩] (some ⟨wo1_0.heap.size, 0, none⟩) 1 from good_made wo1_0 [⟨1, 1, 0⟩] ga_ok (by decide))
  replace HG := Lib.hid (HG.out.below ((Below.refl _ _).alloc (Nat.le_refl _) (.cells (([⟨1, 1, 0⟩] : List Mb).flatMap mc).toArray mt)))
  replace S1t := Lib.hid (S1t.out.on K.out ((Below.refl _ _).alloc (Nat.le_refl _) (.cells (([⟨1, 1, 0⟩] : List Mb).flatMap mc).toArray mt)))
  generalize wo1_0.alloc (.cells (([⟨1, 1, 0⟩] : List Mb).flatMap mc).toArray mt) = wb1 at *
  go_wp2_with fail
  refine (words_any [ga] [⟨1, 1, 0⟩] 1 1 q _ c 1 _ rfl rfl HG.out HG2.out).mono ?_
  rw [show decide (([ga] : List Mb) = [⟨1, 1, 0⟩]) = true from by decide]
  rintro e w2 ⟨rfl, hb⟩
  have S2 := Lib.hid (S1t.out.on K.out hb)
  clear hb S1t HG HG2 cB g1b g2b
  go_wp2_with fail
  go_ret
  exact ⟨rfl, S2.out.below⟩
set_option maxRecDepth 100000 in
set_option maxHeartbeats 8000000 in
theorem gknown_any {R : GRepT} (F : PGossip R) (w : World) : Calls Try.prog 5 #[] w (BoolDone true w) := by
  have K := Lib.hid F.held
  go_enter Try.func5, Try.ntmps5
  go_wp2_with fail
  refine (begun_any F w).mono ?_
  rintro e w1 ⟨b, fp1, rfl, hs⟩
  have S1 := Lib.hid hs
  clear hs
  have HT := Lib.hid (take_known F S1.out.one (n := 1) (by omega) told_1 left_1 ga_ok)
  go_wp2_with fail
  refine HT.out.mono ?_
  rintro e wt1 ⟨q, c, fp2, rfl, hg, hr, ht, hf⟩
  have S1t := Lib.hid (S1.out.step (s' := (5, g1)) hr ht hf)
  have HG := Lib.hid hg
  have g1b := hg.le
  have g2b := hg.max
  clear hg hr ht hf HT S1
  go_wp2_with fail
  refine (gof_any 1 1 0 _).mono ?_
  rintro e wo1_0 ⟨rfl, hbo⟩
  replace S1t := Lib.hid (S1t.out.on K.out hbo)
  replace HG := Lib.hid (HG.out.below hbo)
  clear hbo
  have cB := run_buildM1g wo1_0 ⟨1, 1, 0⟩
  have HG2 := Lib.hid (show GoodW (wo1_0.alloc (.cells (([⟨1, 1, 0⟩] : List Mb).flatMap mc).toArray mt)) [⟨1, 1, 0⟩] (some ⟨wo1_0.heap.size, 0, none⟩) 1 from good_made wo1_0 [⟨1, 1, 0⟩] ga_ok (by decide))
  replace HG := Lib.hid (HG.out.below ((Below.refl _ _).alloc (Nat.le_refl _) (.cells (([⟨1, 1, 0⟩] : List Mb).flatMap mc).toArray mt)))
  replace S1t := Lib.hid (S1t.out.on K.out ((Below.refl _ _).alloc (Nat.le_refl _) (.cells (([⟨1, 1, 0⟩] : List Mb).flatMap mc).toArray mt)))
  generalize wo1_0.alloc (.cells (([⟨1, 1, 0⟩] : List Mb).flatMap mc).toArray mt) = wb1 at *
  go_wp2_with fail
  refine (words_any [ga] [⟨1, 1, 0⟩] 1 1 q _ c 1 _ rfl rfl HG.out HG2.out).mono ?_
  rw [show decide (([ga] : List Mb) = [⟨1, 1, 0⟩]) = true from by decide]
  rintro e w2 ⟨rfl, hb⟩
  have S2 := Lib.hid (S1t.out.on K.out hb)
  clear hb S1t HG HG2 cB g1b g2b
  have HT := Lib.hid (take_known F S2.out.one (n := 1) (by omega) told_2 left_2 gd_ok)
  go_wp2_with fail
  refine HT.out.mono ?_
  rintro e wt2 ⟨q, c, fp3, rfl, hg, hr, ht, hf⟩
  have S2t := Lib.hid (S2.out.step (s' := (5, g2)) hr ht hf)
  have HG := Lib.hid hg
  have g1b := hg.le
  have g2b := hg.max
  clear hg hr ht hf HT S2
  go_wp2_with fail
  refine (gof_any 2 3 1 _).mono ?_
  rintro e wo2_0 ⟨rfl, hbo⟩
  replace S2t := Lib.hid (S2t.out.on K.out hbo)
  replace HG := Lib.hid (HG.out.below hbo)
  clear hbo
  have cB := run_buildM1g wo2_0 ⟨2, 3, 1⟩
  have HG2 := Lib.hid (show GoodW (wo2_0.alloc (.cells (([⟨2, 3, 1⟩] : List Mb).flatMap mc).toArray mt)) [⟨2, 3, 1⟩] (some ⟨wo2_0.heap.size, 0, none⟩) 1 from good_made wo2_0 [⟨2, 3, 1⟩] gd_ok (by decide))
  replace HG := Lib.hid (HG.out.below ((Below.refl _ _).alloc (Nat.le_refl _) (.cells (([⟨2, 3, 1⟩] : List Mb).flatMap mc).toArray mt)))
  replace S2t := Lib.hid (S2t.out.on K.out ((Below.refl _ _).alloc (Nat.le_refl _) (.cells (([⟨2, 3, 1⟩] : List Mb).flatMap mc).toArray mt)))
  generalize wo2_0.alloc (.cells (([⟨2, 3, 1⟩] : List Mb).flatMap mc).toArray mt) = wb2 at *
  go_wp2_with fail
  refine (words_any [gd] [⟨2, 3, 1⟩] 1 1 q _ c 1 _ rfl rfl HG.out HG2.out).mono ?_
  rw [show decide (([gd] : List Mb) = [⟨2, 3, 1⟩]) = true from by decide]
  rintro e w3 ⟨rfl, hb⟩
  have S3 := Lib.hid (S2t.out.on K.out hb)
  clear hb S2t HG HG2 cB g1b g2b
  have HT := Lib.hid (take_known F S3.out.one (n := 5) (by omega) told_3 left_3 gg_ok)
  go_wp2_with fail
  refine HT.out.mono ?_
  rintro e wt3 ⟨q, c, fp4, rfl, hg, hr, ht, hf⟩
  have S3t := Lib.hid (S3.out.step (s' := (5, g3)) hr ht hf)
  have HG := Lib.hid hg
  have g1b := hg.le
  have g2b := hg.max
  clear hg hr ht hf HT S3
  go_wp2_with fail
  refine (gof_any 1 1 0 _).mono ?_
  rintro e wo3_0 ⟨rfl, hbo⟩
  replace S3t := Lib.hid (S3t.out.on K.out hbo)
  replace HG := Lib.hid (HG.out.below hbo)
  clear hbo
  go_wp2_with fail
  refine (gof_any 2 3 1 _).mono ?_
  rintro e wo3_1 ⟨rfl, hbo⟩
  replace S3t := Lib.hid (S3t.out.on K.out hbo)
  replace HG := Lib.hid (HG.out.below hbo)
  clear hbo
  have cB := run_buildM2g wo3_1 ⟨1, 1, 0⟩ ⟨2, 3, 1⟩
  have HG2 := Lib.hid (show GoodW (wo3_1.alloc (.cells (([⟨1, 1, 0⟩, ⟨2, 3, 1⟩] : List Mb).flatMap mc).toArray mt)) [⟨1, 1, 0⟩, ⟨2, 3, 1⟩] (some ⟨wo3_1.heap.size, 0, none⟩) 2 from good_made wo3_1 [⟨1, 1, 0⟩, ⟨2, 3, 1⟩] gg_ok (by decide))
  replace HG := Lib.hid (HG.out.below ((Below.refl _ _).alloc (Nat.le_refl _) (.cells (([⟨1, 1, 0⟩, ⟨2, 3, 1⟩] : List Mb).flatMap mc).toArray mt)))
  replace S3t := Lib.hid (S3t.out.on K.out ((Below.refl _ _).alloc (Nat.le_refl _) (.cells (([⟨1, 1, 0⟩, ⟨2, 3, 1⟩] : List Mb).flatMap mc).toArray mt)))
  generalize wo3_1.alloc (.cells (([⟨1, 1, 0⟩, ⟨2, 3, 1⟩] : List Mb).flatMap mc).toArray mt) = wb3 at *
  go_wp2_with fail
  refine (words_any [ga, gd] [⟨1, 1, 0⟩, ⟨2, 3, 1⟩] 2 2 q _ c 2 _ rfl rfl HG.out HG2.out).mono ?_
  rw [show decide (([ga, gd] : List Mb) = [⟨1, 1, 0⟩, ⟨2, 3, 1⟩]) = true from by decide]
  rintro e w4 ⟨rfl, hb⟩
  have S4 := Lib.hid (S3t.out.on K.out hb)
  clear hb S3t HG HG2 cB g1b g2b
  have HT := Lib.hid (take_known F S4.out.one (n := 0) (by omega) told_4 left_4 (by intro x hx; cases hx))
  go_wp2_with fail
  refine HT.out.mono ?_
  rintro e w5 ⟨q, c, fp5, rfl, hg, hr, ht, hf⟩
  have S5 := Lib.hid (S4.out.step (s' := (5, g3)) hr ht hf)
  clear hg hr ht hf HT S4
  go_wp2_with fail
  refine (F.new 0 w5 (by omega)).mono ?_
  rintro e w6 ⟨hb6, ⟨hz, _⟩ | ⟨_, rfl⟩⟩
  · exact absurd hz (by decide)
  have S6 := Lib.hid (S5.out.on K.out hb6)
  clear hb6 S5
  go_wp2_with fail
  refine (gof_any 6 1 0 _).mono ?_
  rintro e w7 ⟨rfl, hb7⟩
  have S7 := Lib.hid (S6.out.on K.out hb7)
  clear hb7 S6
  have HA := Lib.hid (F.add b fp5 5 g3 ⟨6, 1, 0⟩ w7 S7.out.one)
  rw [add_5] at HA
  go_wp2_with fail
  refine HA.out.mono ?_
  rintro e w8 ⟨rfl, fp8, hr, ht, hf⟩
  have S8 := Lib.hid (S7.out.step hr ht hf)
  clear hr ht hf HA S7
  go_wp2_with fail
  go_ret
  exact ⟨rfl, S8.out.below⟩
end
end Go.Proofs.Ytgohapbobbkaeaa
