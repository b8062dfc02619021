/-
  bytes.Equal; slices.Equal over ids and words (written by mknwn15.py).
  The wire package's Same (out of XNteC's text by mknwn15.py).
-/
import Derived.Test.YteepaoklibflpaaR12
import Derived.Test.YteepaoklibflpaaR14
import Derived.BigQuiet
namespace Go.Proofs.Yteepaoklibflpaa
section
set_option linter.unusedSimpArgs false
set_option linter.unusedVariables false
open Go.RowKit Sha Nte
@[irreducible] def convN (v : Value) : Sem Next := do pure (.value (← convert 28 9 v))
theorem execOp_convN (ρ : Operand → Value) (dst : Option Tmp) (x : Operand) (ty : TypeId) (pos : String) (after : Array Edge) (guard : Option (Nat × Bool)) :
    execOp ρ { dst := dst, op := .convert 28 9 x, type := ty, pos := pos, after := after, guard := guard } = convN (ρ x) := by unfold convN; rfl
theorem run_convN (w : World) (xs : List Int) (n : Nat) (p : Option Addr) (c : Nat) (hn : xs.length = n) (hA : At w p (xs.map v8)) : (convN (.slice p n c)).run Try.prog w = .ok (.value (.string (strOfNums xs))) w := by
  unfold convN
  simp only [Sem.run_bind, run_conv_at (P := Try.prog) w 28 9 5 Try.underlying28 Try.underlying5 Try.underlying9 xs n p c hn hA, Result.andThen_ok, Sem.run_pure]
theorem execOp_eqStrN (ρ : Operand → Value) (dst : Option Tmp) (x y : Operand) (r : TypeId) (ty : TypeId) (pos : String) (after : Array Edge) (guard : Option (Nat × Bool)) :
    execOp ρ { dst := dst, op := .binOp .eql 9 x y r, type := ty, pos := pos, after := after, guard := guard } = eqO 9 x y (ρ x) (ρ y) := by unfold eqO; rfl
theorem run_eqStrN (x y : Operand) (xs ys : List Int) (hx : ∀ n ∈ xs, 0 ≤ n ∧ n ≤ 255) (hy : ∀ n ∈ ys, 0 ≤ n ∧ n ≤ 255) (w : World) : (eqO 9 x y (.string (strOfNums xs)) (.string (strOfNums ys))).run Try.prog w = .ok (.value (.bool (decide (xs = ys)))) w := by
  have h := strOfNums_inj xs ys hx hy
  unfold eqO
  simp only [binOp]
  simp [eqGuard, Op.stringOp, run_underlying Try.underlying9]
  simpa using h
theorem execOp_neIdN (ρ : Operand → Value) (dst : Option Tmp) (x y : Operand) (r : TypeId) (ty : TypeId) (pos : String) (after : Array Edge) (guard : Option (Nat × Bool)) :
    execOp ρ { dst := dst, op := .binOp .neq 27 x y r, type := ty, pos := pos, after := after, guard := guard } = neO 27 x y (ρ x) (ρ y) := by unfold neO; rfl
section
attribute [local go_sem ↓] execOp_convN execOp_eqStrN
set_option maxHeartbeats 1000000 in
theorem bytesEqN_any (xs ys : List Int) (n m : Nat) (p q : Option Addr) (c d : Nat) (w : World) (h1 : xs.length = n) (h2 : ys.length = m) (ha : At w p (xs.map v8)) (hb : At w q (ys.map v8)) (hx : ∀ n ∈ xs, 0 ≤ n ∧ n ≤ 255) (hy : ∀ n ∈ ys, 0 ≤ n ∧ n ≤ 255) :
    Calls Try.prog 26 #[.slice p n c, .slice q m d] w fun e w' => e = .returned (.bool (decide (xs = ys))) ∧ w = w' := by
  have ca := run_convN w xs n p c h1 ha
  have cb := run_convN w ys m q d h2 hb
  have es := fun o1 o2 => run_eqStrN o1 o2 xs ys hx hy w
  generalize strOfNums xs = sx at *
  generalize strOfNums ys = sy at *
  obtain ⟨bb, hbb⟩ : ∃ b, b = decide (xs = ys) := ⟨_, rfl⟩
  rw [← hbb] at es ⊢
  clear h1 h2 ha hb hx hy hbb
  go_enter Try.func26, Try.ntmps26
  go_wp2_with fail
  go_ret
  exact ⟨rfl, rfl⟩
end
theorem run_neIdN (x y : Operand) (xs ys : List Int) (hx : xs.length = 32) (hy : ys.length = 32) (e : Bool) (he : e = decide (xs ≠ ys)) (w : World) : (neO 27 x y (.agg (xs.map v8).toArray) (.agg (ys.map v8).toArray)).run Try.prog w = .ok (.value (.bool e)) w := by
  have hr := run_neq_arr (P := Try.prog) w x y 27 5 32 .u8 Try.underlying27 Try.underlying5 kslice1 xs ys hx hy
  subst he
  unfold neO
  simp only [Sem.run_bind, Sem.run_pure, Result.andThen_ok] at hr ⊢
  rw [hr, show decide (xs ≠ ys) = !decide (xs = ys) from by simp]
  rfl
section
attribute [local go_sem ↓] execOp_loadId execOp_loadWord execOp_neIdN execOp_neWord
set_option maxRecDepth 100000 in
set_option maxHeartbeats 2000000 in
theorem idsEqN_any (l l' : List (List Int)) (n m : Nat) (q p : Option Addr) (c d : Nat) (w : World) (hl : sI.Told w q n c l) (hl' : sI.Told w p m d l') :
    Calls Try.prog 27 #[.slice q n c, .slice p m d] w fun e w' => e = .returned (.bool (decide (l = l'))) ∧ Below w.heap.size w w' := by
  have HL := Lib.hid hl
  have HR := Lib.hid hl'
  have HN := Lib.hid hl.len
  have HM := Lib.hid hl'.len
  have b1 := hl.le
  have b2 := hl.max
  have b3 := hl'.le
  have b4 := hl'.max
  clear hl hl'
  by_cases hnm : n = m
  · subst hnm
    have t0 : ((n : Int) != (n : Int)) = false := by simp
    go_enter Try.func27, Try.ntmps27
    go_wp2_with fail
    go_loopw [13] (fun i wr => ∃ k : Nat, i = .int .i64 k ∧ k ≤ n ∧ Hid (l.take k = l'.take k) ∧ Hid (Below w.heap.size w wr)) (fun i _ => n - (intOf i).toNat)
    case atStart => exact ⟨0, rfl, by omega, Lib.hid rfl, Lib.hid (Below.refl _ _)⟩
    case round =>
      obtain ⟨k, rfl, hk, HT, HB⟩ := hrel
      by_cases hlt : k < n
      · have hk1 : k < l.length := by rw [← HN.out]; exact hlt
        have hk2 : k < l'.length := by rw [← HM.out]; exact hlt
        obtain ⟨b, off, q1, c1, rfl, hr, hg⟩ := HL.out.rows.get k hk1
        obtain ⟨b', off', q2, c2, rfl, hr', hg'⟩ := HR.out.rows.get k hk2
        have hr : w.rangeAt b (off + k * 32) (List.map v8 l[k]) := hr
        have hr' : w.rangeAt b' (off' + k * 32) (List.map v8 l'[k]) := hr'
        have jk : (0 : Int) ≤ (k : Int) ∧ (k : Int) < (n : Int) := by omega
        obtain ⟨I, W, hC⟩ := cls_of wr
        have hne : Nonempty I := hC.ne
        have k1 := hg.ok
        have k2 := hg'.ok
        have m1 := fun i => load_idr (k1).2 (rangeN_on hr (HB.out.trans ((hC.back i).mono HB.out.size)))
        have m2 := fun i => load_idr (k2).2 (rangeN_on hr' (HB.out.trans ((hC.back i).mono HB.out.size)))
        have HC := Lib.hid hC
        have HS := Lib.hid (take_next l l' k hk1 hk2 HT.out)
        have HNE := Lib.hid (show l[k] ≠ l'[k] → l ≠ l' from fun h e => h (by simp [e]))
        generalize l[k] = x at *
        generalize l'[k] = y at *
        clear hC hr hr' hk1 hk2 HT hg hg'
        by_cases hxy : x = y
        · have HT2 := Lib.hid (HS.out.2 hxy)
          have HQ := fun o1 o2 w => run_neIdN o1 o2 x y k1.2 k2.2 false (by simp [hxy]) w
          clear hxy HS HNE k1 k2
          go_wp2_with fail
          refine wp_region_cls W (by kernel_rfl) (by kernel_rfl) HC.out.one ?_
          repeat go_big_quiet_step (fail)
          refine wpQuiet_nil ?_
          rintro _ ⟨mm, rfl⟩
          have B2 := Lib.hid (HB.out.trans ((HC.out.back mm).mono HB.out.size))
          clear m1 m2 HQ HC
          generalize W mm = wv at *
          go_wp2_with fail
          go_roundw
          case rel => exact ⟨k + 1, by go_num, by omega, HT2, B2⟩
          case measure => simp [intOf]; omega
        · have HV := Lib.hid (decide_eq_false (HNE.out hxy))
          have HQ := fun o1 o2 w => run_neIdN o1 o2 x y k1.2 k2.2 true (by simp [hxy]) w
          clear hxy HS HNE k1 k2
          go_wp2_with fail
          refine wp_region_cls W (by kernel_rfl) (by kernel_rfl) HC.out.one ?_
          repeat go_big_quiet_step (fail)
          refine wpQuiet_nil ?_
          rintro _ ⟨mm, rfl⟩
          have B2 := Lib.hid (HB.out.trans ((HC.out.back mm).mono HB.out.size))
          clear m1 m2 HQ HC
          generalize W mm = wv at *
          go_wp2_with fail
          go_ret
          exact ⟨by rw [HV.out]; rfl, B2.out⟩
      · obtain rfl : n = k := by omega
        have HV := Lib.hid (show decide (l = l') = true from decide_eq_true (by
          have := HT.out
          rwa [List.take_of_length_le (by rw [← HN.out]; exact Nat.le_refl _), List.take_of_length_le (by rw [← HM.out]; exact Nat.le_refl _)] at this))
        clear HT
        go_wp2_with fail
        go_ret
        exact ⟨by rw [HV.out]; rfl, HB.out⟩
  · have t0 : ((n : Int) != (m : Int)) = true := by simpa using (show (n : Int) ≠ (m : Int) by omega)
    have HV := Lib.hid (show decide (l = l') = false from decide_eq_false (fun e => hnm (by rw [HN.out, HM.out, e])))
    clear hnm
    go_enter Try.func27, Try.ntmps27
    go_wp2_with fail
    go_ret
    exact ⟨by rw [HV.out]; rfl, Below.refl _ _⟩
set_option maxRecDepth 100000 in
set_option maxHeartbeats 2000000 in
theorem wordsEqN_any (l l' : List Mb) (n m : Nat) (q p : Option Addr) (c d : Nat) (w : World) (hl : sW.Told w q n c l) (hl' : sW.Told w p m d l') :
    Calls Try.prog 28 #[.slice q n c, .slice p m d] w fun e w' => e = .returned (.bool (decide (l = l'))) ∧ Below w.heap.size w w' := by
  have HL := Lib.hid hl
  have HR := Lib.hid hl'
  have HN := Lib.hid hl.len
  have HM := Lib.hid hl'.len
  have b1 := hl.le
  have b2 := hl.max
  have b3 := hl'.le
  have b4 := hl'.max
  clear hl hl'
  by_cases hnm : n = m
  · subst hnm
    have t0 : ((n : Int) != (n : Int)) = false := by simp
    go_enter Try.func28, Try.ntmps28
    go_wp2_with fail
    go_loopw [13] (fun i wr => ∃ k : Nat, i = .int .i64 k ∧ k ≤ n ∧ Hid (l.take k = l'.take k) ∧ Hid (Below w.heap.size w wr)) (fun i _ => n - (intOf i).toNat)
    case atStart => exact ⟨0, rfl, by omega, Lib.hid rfl, Lib.hid (Below.refl _ _)⟩
    case round =>
      obtain ⟨k, rfl, hk, HT, HB⟩ := hrel
      by_cases hlt : k < n
      · have hk1 : k < l.length := by rw [← HN.out]; exact hlt
        have hk2 : k < l'.length := by rw [← HM.out]; exact hlt
        obtain ⟨b, off, q1, c1, rfl, hr, hg⟩ := HL.out.rows.get k hk1
        obtain ⟨b', off', q2, c2, rfl, hr', hg'⟩ := HR.out.rows.get k hk2
        have hr : w.rangeAt b (off + k * 3) (nmc l[k]) := hr
        have hr' : w.rangeAt b' (off' + k * 3) (nmc l'[k]) := hr'
        have jk : (0 : Int) ≤ (k : Int) ∧ (k : Int) < (n : Int) := by omega
        obtain ⟨I, W, hC⟩ := cls_of wr
        have hne : Nonempty I := hC.ne
        have k1 := hg.ok
        have k2 := hg'.ok
        have m1 := fun i => load_word (rangeN_on hr (HB.out.trans ((hC.back i).mono HB.out.size)))
        have m2 := fun i => load_word (rangeN_on hr' (HB.out.trans ((hC.back i).mono HB.out.size)))
        have HC := Lib.hid hC
        have HS := Lib.hid (take_next l l' k hk1 hk2 HT.out)
        have HNE := Lib.hid (show l[k] ≠ l'[k] → l ≠ l' from fun h e => h (by simp [e]))
        generalize l[k] = x at *
        generalize l'[k] = y at *
        clear hC hr hr' hk1 hk2 HT hg hg'
        by_cases hxy : x = y
        · have HT2 := Lib.hid (HS.out.2 hxy)
          have HQ := fun o1 o2 w => run_neWord x y false (by simp [hxy]) o1 o2 w
          clear hxy HS HNE k1 k2
          go_wp2_with fail
          refine wp_region_cls W (by kernel_rfl) (by kernel_rfl) HC.out.one ?_
          repeat go_big_quiet_step (fail)
          refine wpQuiet_nil ?_
          rintro _ ⟨mm, rfl⟩
          have B2 := Lib.hid (HB.out.trans ((HC.out.back mm).mono HB.out.size))
          clear m1 m2 HQ HC
          generalize W mm = wv at *
          go_wp2_with fail
          go_roundw
          case rel => exact ⟨k + 1, by go_num, by omega, HT2, B2⟩
          case measure => simp [intOf]; omega
        · have HV := Lib.hid (decide_eq_false (HNE.out hxy))
          have HQ := fun o1 o2 w => run_neWord x y true (by simp [hxy]) o1 o2 w
          clear hxy HS HNE k1 k2
          go_wp2_with fail
          refine wp_region_cls W (by kernel_rfl) (by kernel_rfl) HC.out.one ?_
          repeat go_big_quiet_step (fail)
          refine wpQuiet_nil ?_
          rintro _ ⟨mm, rfl⟩
          have B2 := Lib.hid (HB.out.trans ((HC.out.back mm).mono HB.out.size))
          clear m1 m2 HQ HC
          generalize W mm = wv at *
          go_wp2_with fail
          go_ret
          exact ⟨by rw [HV.out]; rfl, B2.out⟩
      · obtain rfl : n = k := by omega
        have HV := Lib.hid (show decide (l = l') = true from decide_eq_true (by
          have := HT.out
          rwa [List.take_of_length_le (by rw [← HN.out]; exact Nat.le_refl _), List.take_of_length_le (by rw [← HM.out]; exact Nat.le_refl _)] at this))
        clear HT
        go_wp2_with fail
        go_ret
        exact ⟨by rw [HV.out]; rfl, HB.out⟩
  · have t0 : ((n : Int) != (m : Int)) = true := by simpa using (show (n : Int) ≠ (m : Int) by omega)
    have HV := Lib.hid (show decide (l = l') = false from decide_eq_false (fun e => hnm (by rw [HN.out, HM.out, e])))
    clear hnm
    go_enter Try.func28, Try.ntmps28
    go_wp2_with fail
    go_ret
    exact ⟨by rw [HV.out]; rfl, Below.refl _ _⟩
end
end
section
set_option linter.unusedSimpArgs false
set_option linter.unusedVariables false
open Go.RowKit Sha Nte
attribute [local go_sem ↓] execOp_loadInt execOp_loadBool execOp_loadBytes execOp_loadIds execOp_loadWords execOp_boxNote execOp_loadId execOp_loadCall execOp_loadBall execOp_eqId execOp_eqCall execOp_eqBall
set_option maxRecDepth 100000 in
set_option maxHeartbeats 40000000 in
theorem wsame_any (x y : Not) (h k : NHd) (w : World) (hx : NGood w x h) (hy : NGood w y k) :
    Calls Try.prog 14 #[.agg (ncells x h).toArray, .agg (ncells y k).toArray] w fun e w' => e = .returned (.bool (decide (x = y))) ∧ Below w.heap.size w w' := by
  have HX := Lib.hid hx
  have HY := Lib.hid hy
  obtain ⟨z, hz⟩ : ∃ z, z = decide (x = y) := ⟨_, rfl⟩
  rw [← hz]
  rw [not_ext] at hz
  have HZ := Lib.hid hz
  clear hz hx hy
  obtain ⟨n1, hn1⟩ : ∃ n, n = x.X.length := ⟨_, rfl⟩
  obtain ⟨n2, hn2⟩ : ∃ n, n = x.I.length := ⟨_, rfl⟩
  obtain ⟨n3, hn3⟩ : ∃ n, n = x.W.length := ⟨_, rfl⟩
  obtain ⟨m1, hm1⟩ : ∃ n, n = y.X.length := ⟨_, rfl⟩
  obtain ⟨m2, hm2⟩ : ∃ n, n = y.I.length := ⟨_, rfl⟩
  obtain ⟨m3, hm3⟩ : ∃ n, n = y.W.length := ⟨_, rfl⟩
  have N1 := Lib.hid hn1
  have N2 := Lib.hid hn2
  have N3 := Lib.hid hn3
  have M1 := Lib.hid hm1
  have M2 := Lib.hid hm2
  have M3 := Lib.hid hm3
  clear hn1 hn2 hn3 hm1 hm2 hm3
  obtain ⟨b0, e0⟩ : ∃ b, (x.K == y.K) = b := ⟨_, rfl⟩
  obtain ⟨b1, e1⟩ : ∃ b, (x.F == y.F) = b := ⟨_, rfl⟩
  obtain ⟨b2, e2⟩ : ∃ b, (x.T == y.T) = b := ⟨_, rfl⟩
  obtain ⟨b3, e3⟩ : ∃ b, b = decide (x.C1 = y.C1 ∧ x.C2 = y.C2 ∧ x.C3 = y.C3) := ⟨_, rfl⟩
  obtain ⟨b4, e4⟩ : ∃ b, (x.S == y.S) = b := ⟨_, rfl⟩
  obtain ⟨b5, e5⟩ : ∃ b, (x.H == y.H) = b := ⟨_, rfl⟩
  obtain ⟨b6, e6⟩ : ∃ b, b = decide (x.B1 = y.B1 ∧ x.B2 = y.B2) := ⟨_, rfl⟩
  obtain ⟨b7, e7⟩ : ∃ b, b = decide (x.O1 = y.O1 ∧ x.O2 = y.O2) := ⟨_, rfl⟩
  obtain ⟨b8, e8⟩ : ∃ b, (x.Y == y.Y) = b := ⟨_, rfl⟩
  obtain ⟨b9, e9⟩ : ∃ b, b = decide (x.D = y.D) := ⟨_, rfl⟩
  obtain ⟨b10, e10⟩ : ∃ b, b = decide (x.X = y.X) := ⟨_, rfl⟩
  obtain ⟨b11, e11⟩ : ∃ b, b = decide (x.I = y.I) := ⟨_, rfl⟩
  obtain ⟨b12, e12⟩ : ∃ b, b = decide (x.W = y.W) := ⟨_, rfl⟩
  have HZ := Lib.hid (show z = (b0 && b1 && b2 && b3 && b4 && b5 && b6 && b7 && b8 && b9 && b10 && b11 && b12) from by rw [HZ.out, e0, e1, e2, ← e3, e4, e5, ← e6, ← e7, e8, ← e9, ← e10, ← e11, ← e12])
  have E10 := Lib.hid e10
  have E11 := Lib.hid e11
  have E12 := Lib.hid e12
  have E0 := Lib.hid e0
  have E1 := Lib.hid e1
  have E2 := Lib.hid e2
  have E3 := Lib.hid e3
  have E4 := Lib.hid e4
  have E5 := Lib.hid e5
  have E6 := Lib.hid e6
  have E7 := Lib.hid e7
  have E8 := Lib.hid e8
  have E9 := Lib.hid e9
  clear e0 e1 e2 e3 e4 e5 e6 e7 e8 e9 e10 e11 e12
  obtain ⟨g, w1, r1, hg1, hl1, K1, B1⟩ := box_note w x h
  obtain ⟨g2, w2, r2, hg2, hl2, K2, B2⟩ := box_note w1 y k
  have R1 := Lib.hid (K1.below B2 hl1).range
  have R2 := Lib.hid K2.range
  have P1 := Lib.hid (nblk_of R1.out HX.out.ok.len)
  have P2 := Lib.hid (nblk_of R2.out HY.out.ok.len)
  have HB2 := Lib.hid (B1.trans (B2.mono B1.size))
  clear K1 B1 K2 B2 hg1 hg2 hl1 hl2
  cases b0; rotate_left; cases b1; rotate_left; cases b2; rotate_left; cases b3; rotate_left; cases b4; rotate_left; cases b5; rotate_left; cases b6; rotate_left; cases b7; rotate_left; cases b8; rotate_left; cases b9; rotate_left; cases b10; rotate_left; cases b11; rotate_left; cases b12; rotate_left
  all_goals
    go_enter Try.func14, Try.ntmps14
    go_wp2_with fail
    clear r1 r2
    try (have a := P1.out.c0; have d := P2.out.c0; have e := E0.out; go_simp; go_wp2_with fail; clear a d e)
    try (have a := P1.out.c1; have d := P2.out.c1; have e := E1.out; go_simp; go_wp2_with fail; clear a d e)
    try (have a := P1.out.c2; have d := P2.out.c2; have e := E2.out; go_simp; go_wp2_with fail; clear a d e)
    try (have a := P1.out.c3; have d := P2.out.c3; have e := run_eqCall _ _ _ _ _ _ _ E3.out; go_simp; go_wp2_with fail; clear a d e)
    try (have a := P1.out.c6; have d := P2.out.c6; have e := E4.out; go_simp; go_wp2_with fail; clear a d e)
    try (have a := P1.out.c7; have d := P2.out.c7; have e := E5.out; go_simp; go_wp2_with fail; clear a d e)
    try (have a := P1.out.c8; have d := P2.out.c8; have e := run_eqBall _ _ _ _ _ E6.out; go_simp; go_wp2_with fail; clear a d e)
    try (have a := P1.out.c10; have d := P2.out.c10; have e := run_eqBall _ _ _ _ _ E7.out; go_simp; go_wp2_with fail; clear a d e)
    try (have a := P1.out.c12; have d := P2.out.c12; have e := E8.out; go_simp; go_wp2_with fail; clear a d e)
    try (have a := P1.out.c13; have d := P2.out.c13; have e := fun o1 o2 => run_eqId o1 o2 _ _ HX.out.ok.len HY.out.ok.len _ E9.out; go_simp; go_wp2_with fail; clear a d e)
    try (have a := P1.out.c45; have d := P2.out.c45; rw [← N1.out] at a; rw [← M1.out] at d; go_simp; go_wp2_with fail; refine (bytesEqN_any x.X y.X n1 m1 h.q k.q h.c k.c w2 N1.out.symm M1.out.symm (HX.out.X.below HB2.out) (HY.out.X.below HB2.out) HX.out.ok.X HY.out.ok.X).mono ?_; rw [← E10.out]; rintro e w' ⟨rfl, rfl⟩; clear a d; go_wp2_with fail)
    try (have a := P1.out.c46; have d := P2.out.c46; rw [← N2.out] at a; rw [← M2.out] at d; go_simp; go_wp2_with fail; have g1 := HX.out.I.below HB2.out; have g3 := HY.out.I.below HB2.out; rw [← N2.out] at g1; rw [← M2.out] at g3; refine (idsEqN_any x.I y.I n2 m2 h.r k.r h.d k.d w2 g1 g3).mono ?_; clear g1 g3; rw [← E11.out]; rintro e w3 ⟨rfl, hb⟩; have HB3 := Lib.hid (HB2.out.trans (hb.mono HB2.out.size)); have A47 := Lib.hid (nblk_of (rangeN_on R1.out hb) HX.out.ok.len).c47; have D47 := Lib.hid (nblk_of (rangeN_on R2.out hb) HY.out.ok.len).c47; clear a d hb; go_wp2_with fail)
    try (have a := A47.out; have d := D47.out; rw [← N3.out] at a; rw [← M3.out] at d; go_simp; go_wp2_with fail; have g1 := HX.out.W.below HB3.out; have g3 := HY.out.W.below HB3.out; rw [← N3.out] at g1; rw [← M3.out] at g3; refine (wordsEqN_any x.W y.W n3 m3 h.s k.s h.e k.e w3 g1 g3).mono ?_; clear g1 g3; rw [← E12.out]; rintro e w4 ⟨rfl, hb⟩; have HB4 := Lib.hid (HB3.out.trans (hb.mono HB3.out.size)); clear hb a d; go_wp2_with fail)
    go_ret
    first
      | exact ⟨by rw [HZ.out]; simp; done, HB4.out⟩
      | exact ⟨by rw [HZ.out]; simp; done, HB3.out⟩
      | exact ⟨by rw [HZ.out]; simp; done, HB2.out⟩
end
end Go.Proofs.Yteepaoklibflpaa
