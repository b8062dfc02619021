/-
  The program's cut: some first things, or one, taken out of a line; slices.Clone at tellings.
-/
import Derived.Test.YtgohapbobbkaeaaTPut
namespace Go.Proofs.Ytgohapbobbkaeaa
set_option linter.unusedSimpArgs false
set_option linter.unusedVariables false
open Go.RowKit Sha
section
attribute [local go_sem ↓] execOp_loadM execOp_loadT execOp_storeT execOp_buildT execOp_sliceT
theorem own_emptyT (w : World) (B : Nat) (hB : B ≤ w.heap.size) : (w.alloc (.cells #[] tt)).ownsRow B tt 4 (.slice (some ⟨w.heap.size, 0, none⟩) 0 0) 0 [] :=
  ⟨rfl, Or.inr ⟨w.heap.size, 0, #[], rfl, hB, heap_alloc_new w _, Nat.le_refl _, by simp [maxLen], rfl, rfl⟩⟩
theorem run_nilT (w : World) (p : Option Addr) (n c : Nat) : (binOp .eql 42 (.slice p n c) (.slice none 0 0)).run Try.prog w = .ok (.bool p.isNone) w := Lib.run_eql_slice_nil w _ _ p n c 0 0 Try.underlying42
set_option maxRecDepth 100000 in
set_option maxHeartbeats 4000000 in
theorem clone_T (xs : List Value) (n : Nat) (a : Addr) (c : Nat) (w : World) (hA : At w (some a) xs) (hn : xs.length = n * 4) (h1 : ∀ u ∈ xs, u.oneCell' = true) (hc : n ≤ c) (hs : n ≤ 100000) :
    Calls Try.prog 44 #[.slice (some a) n c] w fun e w' => ∃ v, e = .returned v ∧ w'.ownsRow w.heap.size tt 4 v n xs ∧ Below w.heap.size w w' := by
  have HA := Lib.hid hA
  have HN := Lib.hid hn
  have H1 := Lib.hid h1
  have qn := fun w n c => run_nilT w (some a) n c
  clear hA hn h1
  have c0 := run_buildT0 w
  have O0 := own_emptyT w w.heap.size (Nat.le_refl _)
  have BA := Lib.hid (show Below w.heap.size w (w.alloc (.cells #[] tt)) from (Below.refl _ _).alloc (Nat.le_refl _) _)
  have LA := Lib.hid (HA.out.below BA.out)
  generalize w.alloc (.cells #[] tt) = wa at *
  go_enter Try.func44, Try.ntmps44
  go_wp2_with (refine wpList_app_s rfl _ _ 42 rfl w.heap.size tt (z := .agg #[.int .i64 0, .int .i64 0, .int .i64 0, .int .i64 0]) (by decide) Try.underlying42 tl_info rfl _ 0 [] rfl O0 (some a) n c xs rfl LA.out HN.out (fun h => by cases h) hc H1.out (by omega) (by unfold maxLen; omega) BA.out.size ?_; intro v1 w7 hv1 hgr1 _; (have B7 := Lib.hid (grown_below BA.out hgr1 (fun g e => (own_base_w O0 g e).1) BA.out.size)); rw [Nat.zero_add, List.nil_append] at hv1; (have O7 := Lib.hid hv1); clear hv1 hgr1)
  go_ret
  exact ⟨_, rfl, O7.out, B7.out⟩
/-- What is cut out, and what is left. -/
def CutDone (b : Nat) (fp : List Nat) (p0 p1 : Value) (l : List Tl) (i j : Nat) (w : World) (e : Ending) (w' : World) : Prop :=
  ∃ v, e = .returned v ∧ w'.ownsRow w.heap.size tt 4 v (j - i) (((l.take j).drop i).flatMap tc) ∧ LineRep w' b fp p0 p1 (l.take i ++ l.drop j) ∧ Touch fp w w'
set_option maxRecDepth 100000 in
set_option maxHeartbeats 4000000 in
theorem cut_none (b : Nat) (fp : List Nat) (p0 p1 : Value) (l : List Tl) (i : Nat) (z : Int) (w : World) (h : LineRep w b fp p0 p1 l) (hz : z ≤ i ∨ l.length ≤ i) (hi : (i : Int) ≤ 100000) (hz2 : -9223372036854775808 ≤ z) (hn : l.length ≤ 1000) :
    Calls Try.prog 29 #[lpt b, .int .i64 i, .int .i64 z] w fun e w' => e = .returned (.slice none 0 0) ∧ w' = w := by
  obtain ⟨v, rfl, hb, ho, hne⟩ := h
  obtain ⟨q, c, hv, hle, hm, hA, _, hnil⟩ := own_at_s ho
  have c2 : w.cell? ⟨b, 2, none⟩ = some v := hb.cell 2
  obtain ⟨n, hnl⟩ : ∃ n, n = l.length := ⟨_, rfl⟩
  rw [← hnl] at hv hn hz
  rw [hv] at c2
  clear hb ho hne hv hle hm hA hnil hnl
  by_cases hzn : z ≤ n
  · have t1 : decide (z ≤ (i : Int)) = true := decide_eq_true (by omega)
    clear hz
    go_enter Try.func29, Try.ntmps29
    go_wp2_with fail
    go_ret
    exact ⟨rfl, rfl⟩
  · have t1 : decide (n ≤ i) = true := decide_eq_true (by omega)
    have hzn2 : (n : Int) < z := by omega
    clear hz hzn
    go_enter Try.func29, Try.ntmps29
    go_wp2_with fail
    go_ret
    exact ⟨rfl, rfl⟩
theorem cut_end {w w1 w2 : World} {b g i j k : Nat} {p0 p1 v v1 v2 : Value} {l : List Tl} {xs : List Value} (hb : Blk w b [p0, p1, v, snf] gt) (hv : v.ownBlock = some g) (hgb : g ≠ b) (hg : g < w.heap.size) (B1 : Below w.heap.size w w1) (O1 : w1.ownsRow w.heap.size tt 4 v1 k xs) (G2 : w1.grownBy w2 (some g)) (hv2 : v2.ownBlock = some g)
    (O2 : w2.ownsRow 0 tt 4 v2 (l.take i ++ l.drop j).length ((l.take i ++ l.drop j).flatMap tc)) :
    (w2.setCell ⟨b, 2, none⟩ v2).ownsRow w.heap.size tt 4 v1 k xs ∧ LineRep (w2.setCell ⟨b, 2, none⟩ v2) b (b :: v.ownBlock.toList) p0 p1 (l.take i ++ l.drop j) ∧ Touch (b :: v.ownBlock.toList) w (w2.setCell ⟨b, 2, none⟩ v2) := by
  have K2 := blk_past hb B1 G2 (fun e => hgb (by injection e))
  have hlt := hb.lt
  refine ⟨ownsRow_keep O1 fun k e => ?_, ⟨v2, by rw [hv, hv2], K2.set 2 _, ownsRow_keep O2 fun k e => Below.heap_setCell _ _ _ _ (fun h => hgb (by rw [hv2] at e; injection e with e; rw [e, h])), by rw [hv2]; intro h; exact hgb (by injection h)⟩, ?_⟩
  · have h1 := own_base_w O1 k e
    rw [Below.heap_setCell _ _ _ _ (fun h => by have h : k = b := h; omega)]
    exact G2.block k h1.2 (fun h => by injection h with h; omega)
  · have t1 : Touch (b :: v.ownBlock.toList) w w1 := Touch.of_below B1
    have t2 : Touch (b :: v.ownBlock.toList) w1 w2 := ⟨G2.os, G2.tape, G2.output, G2.size, fun k hk hn => G2.block k hk fun h => hn (by rw [hv]; injection h with h; rw [h]; simp)⟩
    exact (t1.trans t2 (From.refl _ _)).setIn (by simp) _
theorem tflat_mid (l : List Tl) (i j : Nat) : ((l.take j).drop i).flatMap tc = ((l.flatMap tc).take (j * 4)).drop (i * 4) := by rw [tflat_take, tflat_drop]
set_option maxRecDepth 100000 in
set_option maxHeartbeats 4000000 in
theorem cut_any (b : Nat) (fp : List Nat) (p0 p1 : Value) (l : List Tl) (i j : Nat) (z : Int) (w : World) (h : LineRep w b fp p0 p1 l) (hij : i < j) (hj : (z ≤ l.length ∧ z = j) ∨ ((l.length : Int) < z ∧ j = l.length)) (hn : l.length ≤ 1000) :
    Calls Try.prog 29 #[lpt b, .int .i64 i, .int .i64 z] w (CutDone b fp p0 p1 l i j w) := by
  obtain ⟨v, rfl, hb, ho, hne⟩ := h
  have hjl : j ≤ l.length := by omega
  obtain ⟨g, c, rest, hv, _, hle, hm, hk, hl1, hl2⟩ := own_whole ho (by omega)
  subst hv
  have hgb : g ≠ b := fun e => hne (by rw [e]; rfl)
  have hglt := hk.lt
  obtain ⟨n, hnl⟩ : ∃ n, n = l.length := ⟨_, rfl⟩
  -- the parts of the row
  have e1 : l = l.take i ++ (l.take j).drop i ++ l.drop j := by
    have h1 : l.take i = (l.take j).take i := by rw [List.take_take, Nat.min_eq_left (by omega)]
    rw [h1, List.take_append_drop, List.take_append_drop]
  have hA : ((l.take i).flatMap tc).length = i * 4 := by rw [tflat_length, List.length_take]; omega
  have hM : (((l.take j).drop i).flatMap tc).length = (j - i) * 4 := by rw [tflat_length, List.length_drop, List.length_take]; omega
  have hD : ((l.drop j).flatMap tc).length = (n - j) * 4 := by rw [tflat_length, List.length_drop, hnl]
  have hk' : Blk w g ((l.take i).flatMap tc ++ ((l.take j).drop i).flatMap tc ++ (l.drop j).flatMap tc ++ rest) tt := by
    have e2 : l.flatMap tc = (l.take i).flatMap tc ++ ((l.take j).drop i).flatMap tc ++ (l.drop j).flatMap tc := by
      rw [← List.flatMap_append, ← List.flatMap_append, ← e1]
    rw [← e2]; exact hk
  have hrest : rest.length = (c - n) * 4 := by rw [List.length_append, hl1] at hl2; omega
  have hAM : At w (some ⟨g, i * 4, none⟩) (((l.take j).drop i).flatMap tc) := by
    refine Or.inr ⟨g, i * 4, rfl, fun k u hu => ?_⟩
    have := cells_in (w := w) (pre := (l.take i).flatMap tc) (cs := ((l.take j).drop i).flatMap tc) (post := (l.drop j).flatMap tc ++ rest) (by rw [← List.append_assoc]; exact hk') hA k u hu
    simpa [Addr.add_mid] using this
  have HCL := Lib.hid (clone_T (((l.take j).drop i).flatMap tc) (j - i) ⟨g, i * 4, none⟩ (c - i) w hAM hM (tflat_one _) (by omega) (by omega))
  have HDL := Lib.hid (fun w' (hb : Below w.heap.size w w') => delete_T w' 0 g n (l.take i ++ l.drop j).length c i j _ _ _ rest hA hM hD hrest hij (by omega) (by rw [List.length_append, List.length_take, List.length_drop, hnl]; omega) (by omega) (by rw [hnl]; exact hle) hm (Nat.zero_le _) (hk'.upon hb) (tflat_one _))
  have c2 : w.cell? ⟨b, 2, none⟩ = some (.slice (some ⟨g, 0, none⟩) l.length c) := hb.cell 2
  rw [← hnl] at c2 hj
  have cS := fun w => run_sliceOp (run_cutS_lh13 (P := Try.prog) Try.underlying42 isize_T (some ⟨g, 0, none⟩) n c i j (by omega) (by omega) w)
  rw [if_neg (by omega)] at cS
  simp only [Option.map_some, Addr.add_mid, Nat.zero_add] at cS
  rw [← hnl] at hb
  have HB := Lib.hid hb
  have HFM := Lib.hid (show (l.take i).flatMap tc ++ (l.drop j).flatMap tc = (l.take i ++ l.drop j).flatMap tc from List.flatMap_append.symm)
  have HG := Lib.hid (⟨hgb, hglt⟩ : g ≠ b ∧ g < w.heap.size)
  obtain ⟨xs, hxs⟩ : ∃ xs, xs = ((l.take j).drop i).flatMap tc := ⟨_, rfl⟩
  rw [← hxs] at HCL
  have HXS := Lib.hid hxs
  clear hb ho hne hle hm hk hl1 hl2 hgb hglt e1 hA hM hD hk' hrest hAM hjl hn hnl hxs
  go_enter Try.func29, Try.ntmps29
  obtain ⟨m, hmm⟩ : ∃ m, m = (l.take i ++ l.drop j).length := ⟨_, rfl⟩
  rw [← hmm] at HDL
  have HM := Lib.hid hmm
  clear hmm
  rcases hj with ⟨hz, rfl⟩ | ⟨hz, rfl⟩
  · have hij2 : decide (j ≤ i) = false := decide_eq_false (by omega)
    go_wp2_with fail
    refine HCL.out.mono ?_
    rintro e w1 ⟨v1, rfl, ho1, hb1⟩
    have B1 := Lib.hid hb1
    have O1 := Lib.hid ho1
    have c3 : w1.cell? ⟨b, 2, none⟩ = some (.slice (some ⟨g, 0, none⟩) n c) := (HB.out.upon hb1).cell 2
    obtain ⟨q1, k1, hv1, _⟩ := own_at_s ho1
    subst hv1
    have HD2 := Lib.hid (HDL.out w1 hb1)
    clear HCL HDL ho1 hb1
    go_wp2_with fail
    refine HD2.out.mono ?_
    rintro e w2 ⟨v2, rfl, ho2, hg2, hw2⟩
    obtain ⟨q2, k2, hv2, _⟩ := own_at_s ho2
    subst hv2
    have K2 := Lib.hid (blk_past HB.out B1.out hg2 (fun e => HG.out.1 (by injection e)))
    have f2 : w2.frozen? ⟨b, 2, none⟩ = false := K2.out.free 2
    have d2 := K2.out.cell 2
    have HE := Lib.hid (cut_end (l := l) (i := i) (j := j) HB.out (show Value.ownBlock _ = some g from rfl) HG.out.1 HG.out.2 B1.out O1.out hg2 hw2 (by rw [← HM.out, ← HFM.out]; exact ho2))
    clear ho2 hg2 hw2
    go_wp2_with fail
    go_ret
    exact ⟨_, rfl, HXS.out ▸ HE.out.1, HE.out.2.1, HE.out.2.2⟩
  · have hij2 : decide (j ≤ i) = false := decide_eq_false (by omega)
    go_wp2_with fail
    refine HCL.out.mono ?_
    rintro e w1 ⟨v1, rfl, ho1, hb1⟩
    have B1 := Lib.hid hb1
    have O1 := Lib.hid ho1
    have c3 : w1.cell? ⟨b, 2, none⟩ = some (.slice (some ⟨g, 0, none⟩) j c) := (HB.out.upon hb1).cell 2
    obtain ⟨q1, k1, hv1, _⟩ := own_at_s ho1
    subst hv1
    have HD2 := Lib.hid (HDL.out w1 hb1)
    clear HCL HDL ho1 hb1
    go_wp2_with fail
    refine HD2.out.mono ?_
    rintro e w2 ⟨v2, rfl, ho2, hg2, hw2⟩
    obtain ⟨q2, k2, hv2, _⟩ := own_at_s ho2
    subst hv2
    have K2 := Lib.hid (blk_past HB.out B1.out hg2 (fun e => HG.out.1 (by injection e)))
    have f2 : w2.frozen? ⟨b, 2, none⟩ = false := K2.out.free 2
    have d2 := K2.out.cell 2
    have HE := Lib.hid (cut_end (l := l) (i := i) (j := j) HB.out (show Value.ownBlock _ = some g from rfl) HG.out.1 HG.out.2 B1.out O1.out hg2 hw2 (by rw [← HM.out, ← HFM.out]; exact ho2))
    clear ho2 hg2 hw2
    go_wp2_with fail
    go_ret
    exact ⟨_, rfl, HXS.out ▸ HE.out.1, HE.out.2.1, HE.out.2.2⟩
end
end Go.Proofs.Ytgohapbobbkaeaa
