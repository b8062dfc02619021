/-
  The law ViewKnown.
-/
import Derived.Test.YtocfcfoocmkkdaaQ10
namespace Go.Proofs.Ytocfcfoocmkkdaa
section
set_option linter.unusedSimpArgs false
set_option linter.unusedVariables false
open Go.RowKit Sha
theorem goodN_lit (w : World) (xs : List Int) (t : TypeId) (hb : ∀ n ∈ xs, -9223372036854775808 ≤ n ∧ n ≤ 9223372036854775807) (hm : xs.length ≤ 1000) : GoodN (w.alloc (.cells (xs.map v64).toArray t)) xs (some ⟨w.heap.size, 0, none⟩) xs.length :=
  ⟨hb, Or.inr ⟨w.heap.size, 0, rfl, fun i v h => by rw [Nat.zero_add, (Blk.new w (xs.map v64).toArray t).cell]; exact h⟩, Nat.le_refl _, by omega, fun h => by cases h⟩
theorem live_ex : Vw.live [v1, v3] = [1, 3] := by decide +kernel
theorem alive_ex : Vw.alive [v1, v3] = [1] := by decide +kernel
theorem get3_ex : Vw.get [v1, v3] 3 = (v3, 0) := by decide +kernel
theorem get2_ex : Vw.get [v1, v3] 2 = (Mb.none, 6) := by decide +kernel
def o65 : Mb := ⟨65, 1, 0⟩
def o3 : Mb := ⟨3, 1, 0⟩
theorem mrg65_ex : Vw.mrg [v1, v3] [o65] = ([], [], 2) := by decide +kernel
theorem odd_ex : Vw.err [o3, v1] = 2 := by decide +kernel
theorem get_at (V : ViewOK) {nd : Int} {z : Mb × Int} (h : Vw.get [v1, v3] nd = z) (hn : -9223372036854775808 ≤ nd ∧ nd ≤ 9223372036854775807) {g : Nat} {w0 w : World} (N : NewW w0 [v1, v3] g w) : Calls Try.prog 13 #[.slice (some ⟨g, 0, none⟩) 2 2, .int .i64 nd] w (GetDone z w) := by
  subst h; exact V.get [v1, v3] 2 _ 2 nd w rfl (N.good v_ok rfl (by omega)) (by omega) hn
section
attribute [local go_sem ↓] execOp_loadM execOp_storeM execOp_eqlM execOp_neqM execOp_buildM
set_option maxRecDepth 100000 in
set_option maxHeartbeats 16000000 in
theorem known_any (V : ViewOK) (w : World) : Calls Try.prog 5 #[] w (BoolDone true w) := by
  go_enter Try.func5, Try.ntmps5
  go_wp2_with fail
  refine (two_any _).mono ?_
  rintro e w1 ⟨g1, rfl, N1⟩
  have HG1 := Lib.hid (get_at V get3_ex (by decide) N1)
  have B1 := Lib.hid N1.below
  clear N1
  go_wp2_with fail
  refine HG1.out.mono ?_
  rintro e w2 ⟨rfl, hb2⟩
  have s2 := put_run w2 v3
  have P2 := Lib.hid (put_blk w2 v3)
  have B2 := Lib.hid (below_next B1.out (Below.go hb2 (put_below w2 v3)))
  clear hb2 HG1
  generalize putM w2 v3 = w3 at *
  go_wp2_with fail
  refine (two_any _).mono ?_
  rintro e w4 ⟨g4, rfl, N4⟩
  have HG4 := Lib.hid (get_at V get2_ex (by decide) N4)
  have B4 := Lib.hid (below_next B2.out N4.below)
  have P4 := Lib.hid (P2.out.upon N4.below)
  clear N4 s2
  generalize w2.heap.size = gm at *
  go_wp2_with fail
  refine HG4.out.mono ?_
  rintro e w5 ⟨rfl, hb5⟩
  have s5 := put_run w5 Mb.none
  have hb6 := Below.go hb5 (put_below w5 Mb.none)
  have B6 := Lib.hid (below_next B4.out hb6)
  have P6 := Lib.hid (P4.out.upon hb6)
  clear hb5 hb6 HG4
  generalize putM w5 Mb.none = w6 at *
  go_wp2_with fail
  refine (two_any _).mono ?_
  rintro e w7 ⟨g7, rfl, N7⟩
  have c7 : (buildM 22 1 #[(0, .agg #[.int .i64 65, .int .i64 1, .int .i64 0])]).run Try.prog w7 = .ok (.value (.slice (some ⟨w7.heap.size, 0, none⟩) 1 1)) (w7.alloc (.cells ([o65].flatMap mc).toArray mt)) := run_buildM1 w7 o65
  have O7 := NewW.made w7 [o65]
  have N7' := N7.on O7.below
  have hb7 := Below.go N7.below O7.below
  have B7 := Lib.hid (below_next B6.out hb7)
  have P7 := Lib.hid (P6.out.upon hb7)
  have HM := Lib.hid (V.merge [v1, v3] [o65] 2 1 _ _ 2 1 _ rfl rfl (N7'.good v_ok rfl (by omega)) (O7.good (fun x hx => by simp at hx; subst hx; exact ⟨by decide, by decide, by decide⟩) rfl (by omega)) (by omega) (by omega))
  rw [mrg65_ex] at HM
  clear N7 N7' hb7 O7 s5
  generalize w7.alloc (.cells ([o65].flatMap mc).toArray mt) = w8 at *
  go_wp2_with fail
  refine HM.out.mono ?_
  rintro e w10 ⟨r1, r2, rfl, _, _, _, hb10⟩
  have c10 : (buildM 22 2 #[(0, .agg #[.int .i64 3, .int .i64 1, .int .i64 0]), (1, .agg #[.int .i64 1, .int .i64 1, .int .i64 0])]).run Try.prog w10 = .ok (.value (.slice (some ⟨w10.heap.size, 0, none⟩) 2 2)) (w10.alloc (.cells ([o3, v1].flatMap mc).toArray mt)) := run_buildM2 w10 o3 v1
  have O9 := NewW.made w10 [o3, v1]
  have hb9 := Below.go hb10 O9.below
  have B8 := Lib.hid (below_next B7.out hb9)
  have P8 := Lib.hid (P7.out.upon hb9)
  have HC := Lib.hid (V.check [o3, v1] 2 _ 2 _ rfl (O9.good (fun x hx => by simp at hx; rcases hx with rfl | rfl <;> exact ⟨by decide, by decide, by decide⟩) rfl (by omega)) (by omega))
  rw [odd_ex] at HC
  clear hb10 hb9 O9 HM c7
  generalize w10.alloc (.cells ([o3, v1].flatMap mc).toArray mt) = w11 at *
  go_wp2_with fail
  refine HC.out.mono ?_
  rintro e w9 ⟨rfl, hb9⟩
  have B9 := Lib.hid (below_next B8.out hb9)
  have P9 := Lib.hid (P8.out.upon hb9)
  clear hb9 HC P2 P4 P6 P7 P8 B1 B2 B4 B6 B7 B8 c10
  have E1 := Lib.hid (fun W (hb : Below w9.heap.size w9 W) => run_loadM (rangeM_of (P9.out.upon hb)))
  have HQ := run_eqlM v3 v3 true (by simp)
  have hb0 : Below w9.heap.size w9 w9.drew := (Below.refl _ _).drew
  go_wp2_with fail
  refine wp_region_held_drew (S := (fun w' => Below w9.heap.size w9 w' ∧ (loadM mt (.pointer (some ⟨gm, 0, none⟩))).run Try.prog w' = .ok (.value (mv v3)) w')) (by kernel_rfl) ⟨(by (repeat (first | exact Below.refl _ _ | assumption | refine below_drew0 ?_ | refine below_alloc0 ?_ _))), E1.out _ (by (repeat (first | exact Below.refl _ _ | assumption | refine below_drew0 ?_ | refine below_alloc0 ?_ _)))⟩ (fun hHeld => ?_)
  refine ready_at 0 (by kernel_rfl) (by kernel_rfl) (fun K hK => ?_)
  simp only [List.getElem_cons_succ, List.getElem_cons_zero]
  go_simp
  go_at_call 9
  refine (awake_any V _).mono ?_
  rintro e w101 ⟨rfl, b101⟩
  have hb101 : Below w9.heap.size w9 w101 := below_next hb0 b101
  (try go_wp2_with fail)
  refine hK.out _ _ ⟨(by (repeat (first | exact Below.refl _ _ | assumption | refine below_drew0 ?_ | refine below_alloc0 ?_ _))), E1.out _ (by (repeat (first | exact Below.refl _ _ | assumption | refine below_drew0 ?_ | refine below_alloc0 ?_ _)))⟩ (fun hHeld => ?_)
  clear hK K
  try simp only [List.getElem_cons_succ, List.getElem_cons_zero, Act.put, List.setIfInBounds_toArray, List.set_cons_zero, List.set_cons_succ]
  refine take_at 1 (by kernel_rfl) (v := ?v1) (by kernel_rfl) (by kernel_rfl) (by kernel_rfl) (fun _ _ _ h => h) (by rfl) ?y1 (by assumption) ?r1
  case y1 => (intro w hSw; (try dsimp only at hSw); simp only [List.getElem_cons_succ, List.getElem_cons_zero]; go_simp; (try with_reducible rfl))
  try simp only [List.getElem_cons_succ, List.getElem_cons_zero, Act.put, List.setIfInBounds_toArray, List.set_cons_zero, List.set_cons_succ]
  refine ready2_at 2 4 (by kernel_rfl) (by kernel_rfl) (by kernel_rfl) ?_ ?_
  · intro K hK
    simp only [List.getElem_cons_succ, List.getElem_cons_zero]
    go_simp
    go_at_call 25
    refine (two_any _).mono ?_
    rintro e w102 ⟨g102, rfl, N102⟩
    have hb102 : Below w9.heap.size w9 w102 := below_next hb101 N102.below
    (try go_wp2_with fail)
    refine hK.out _ _ ⟨(by (repeat (first | exact Below.refl _ _ | assumption | refine below_drew0 ?_ | refine below_alloc0 ?_ _))), E1.out _ (by (repeat (first | exact Below.refl _ _ | assumption | refine below_drew0 ?_ | refine below_alloc0 ?_ _)))⟩ (fun hHeld => ?_)
    clear hK K
    try simp only [List.getElem_cons_succ, List.getElem_cons_zero, Act.put, List.setIfInBounds_toArray, List.set_cons_zero, List.set_cons_succ]
    refine ready2_at 3 4 (by kernel_rfl) (by kernel_rfl) (by kernel_rfl) ?_ ?_
    · intro K hK
      simp only [List.getElem_cons_succ, List.getElem_cons_zero]
      go_simp
      go_at_call 15
      refine (V.live [v1, v3] 2 _ 2 _ rfl (N102.good v_ok rfl (by omega)) (by omega)).mono ?_
      rw [live_ex]
      rintro e w103 ⟨r103, rfl, o103, b103⟩
      have hb103 : Below w9.heap.size w9 w103 := below_next hb102 b103
      obtain ⟨q103, c103, rfl, _, G103⟩ := o103.good (by decide)
      have f103a := G103.le
      have f103b := G103.max
      simp only [List.length_cons, List.length_nil] at f103a
      clear o103
      (try go_wp2_with fail)
      refine hK.out _ _ ⟨(by (repeat (first | exact Below.refl _ _ | assumption | refine below_drew0 ?_ | refine below_alloc0 ?_ _))), E1.out _ (by (repeat (first | exact Below.refl _ _ | assumption | refine below_drew0 ?_ | refine below_alloc0 ?_ _)))⟩ (fun hHeld => ?_)
      clear hK K
      try simp only [List.getElem_cons_succ, List.getElem_cons_zero, Act.put, List.setIfInBounds_toArray, List.set_cons_zero, List.set_cons_succ]
      refine ready_at 4 (by kernel_rfl) (by kernel_rfl) (fun K hK => ?_)
      simp only [List.getElem_cons_succ, List.getElem_cons_zero]
      go_simp
      have A104 : GoodN (w103.alloc (.cells #[.int .i64 1, .int .i64 3] 3)) [1, 3] (some ⟨w103.heap.size, 0, none⟩) 2 := goodN_lit w103 [1, 3] 3 (by decide) (by decide)
      have b104 : Below w103.heap.size w103 (w103.alloc (.cells #[.int .i64 1, .int .i64 3] 3)) := (Below.refl _ _).alloc (Nat.le_refl _) _
      have hb104 := below_next hb103 b104
      have G103 := G103.below b104
      generalize hw104 : w103.alloc (.cells #[.int .i64 1, .int .i64 3] 3) = w104 at *
      refine hK.out _ _ ⟨(by (repeat (first | exact Below.refl _ _ | assumption | refine below_drew0 ?_ | refine below_alloc0 ?_ _))), E1.out _ (by (repeat (first | exact Below.refl _ _ | assumption | refine below_drew0 ?_ | refine below_alloc0 ?_ _)))⟩ (fun hHeld => ?_)
      clear hK K
      try simp only [List.getElem_cons_succ, List.getElem_cons_zero, Act.put, List.setIfInBounds_toArray, List.set_cons_zero, List.set_cons_succ]
      refine ready_at 5 (by kernel_rfl) (by kernel_rfl) (fun K hK => ?_)
      simp only [List.getElem_cons_succ, List.getElem_cons_zero]
      go_simp
      go_at_call 17
      refine (sameN_any [1, 3] [1, 3] 2 2 _ _ _ 2 _ rfl rfl G103 A104).mono ?_
      rintro e _ ⟨rfl, m105, rfl⟩
      have hb105 : Below w9.heap.size w9 (w104.drewN m105) := below_drewN hb104 m105
      generalize w104.drewN m105 = w105 at *
      (try go_wp2_with fail)
      refine hK.out _ _ ⟨(by (repeat (first | exact Below.refl _ _ | assumption | refine below_drew0 ?_ | refine below_alloc0 ?_ _))), E1.out _ (by (repeat (first | exact Below.refl _ _ | assumption | refine below_drew0 ?_ | refine below_alloc0 ?_ _)))⟩ (fun hHeld => ?_)
      clear hK K
      try simp only [List.getElem_cons_succ, List.getElem_cons_zero, Act.put, List.setIfInBounds_toArray, List.set_cons_zero, List.set_cons_succ]
      refine take_at 6 (by kernel_rfl) (v := ?v2) (by kernel_rfl) (by kernel_rfl) (by kernel_rfl) (fun _ _ _ h => h) (by rfl) ?y2 (by assumption) ?r2
      case y2 => (intro w hSw; (try dsimp only at hSw); simp only [List.getElem_cons_succ, List.getElem_cons_zero]; go_simp; (try with_reducible rfl))
      try simp only [List.getElem_cons_succ, List.getElem_cons_zero, Act.put, List.setIfInBounds_toArray, List.set_cons_zero, List.set_cons_succ]
      refine take_at 7 (by kernel_rfl) (v := ?v3) (by kernel_rfl) (by kernel_rfl) (by kernel_rfl) (fun _ _ _ h => h) (by rfl) ?y3 (by assumption) ?r3
      case y3 => (intro w hSw; (try dsimp only at hSw); simp only [List.getElem_cons_succ, List.getElem_cons_zero]; go_simp; (try with_reducible rfl))
      try simp only [List.getElem_cons_succ, List.getElem_cons_zero, Act.put, List.setIfInBounds_toArray, List.set_cons_zero, List.set_cons_succ]
      refine ready2_at 8 10 (by kernel_rfl) (by kernel_rfl) (by kernel_rfl) ?_ ?_
      · intro K hK
        simp only [List.getElem_cons_succ, List.getElem_cons_zero]
        go_simp
        go_at_call 25
        refine (two_any _).mono ?_
        rintro e w106 ⟨g106, rfl, N106⟩
        have hb106 : Below w9.heap.size w9 w106 := below_next hb105 N106.below
        (try go_wp2_with fail)
        refine hK.out _ _ ⟨(by (repeat (first | exact Below.refl _ _ | assumption | refine below_drew0 ?_ | refine below_alloc0 ?_ _))), E1.out _ (by (repeat (first | exact Below.refl _ _ | assumption | refine below_drew0 ?_ | refine below_alloc0 ?_ _)))⟩ (fun hHeld => ?_)
        clear hK K
        try simp only [List.getElem_cons_succ, List.getElem_cons_zero, Act.put, List.setIfInBounds_toArray, List.set_cons_zero, List.set_cons_succ]
        refine ready2_at 9 10 (by kernel_rfl) (by kernel_rfl) (by kernel_rfl) ?_ ?_
        · intro K hK
          simp only [List.getElem_cons_succ, List.getElem_cons_zero]
          go_simp
          go_at_call 16
          refine (V.alive [v1, v3] 2 _ 2 _ rfl (N106.good v_ok rfl (by omega)) (by omega)).mono ?_
          rw [alive_ex]
          rintro e w107 ⟨r107, rfl, o107, b107⟩
          have hb107 : Below w9.heap.size w9 w107 := below_next hb106 b107
          obtain ⟨q107, c107, rfl, _, G107⟩ := o107.good (by decide)
          have f107a := G107.le
          have f107b := G107.max
          simp only [List.length_cons, List.length_nil] at f107a
          clear o107
          (try go_wp2_with fail)
          refine hK.out _ _ ⟨(by (repeat (first | exact Below.refl _ _ | assumption | refine below_drew0 ?_ | refine below_alloc0 ?_ _))), E1.out _ (by (repeat (first | exact Below.refl _ _ | assumption | refine below_drew0 ?_ | refine below_alloc0 ?_ _)))⟩ (fun hHeld => ?_)
          clear hK K
          try simp only [List.getElem_cons_succ, List.getElem_cons_zero, Act.put, List.setIfInBounds_toArray, List.set_cons_zero, List.set_cons_succ]
          refine ready_at 10 (by kernel_rfl) (by kernel_rfl) (fun K hK => ?_)
          simp only [List.getElem_cons_succ, List.getElem_cons_zero]
          go_simp
          have A108 : GoodN (w107.alloc (.cells #[.int .i64 1] 3)) [1] (some ⟨w107.heap.size, 0, none⟩) 1 := goodN_lit w107 [1] 3 (by decide) (by decide)
          have b108 : Below w107.heap.size w107 (w107.alloc (.cells #[.int .i64 1] 3)) := (Below.refl _ _).alloc (Nat.le_refl _) _
          have hb108 := below_next hb107 b108
          have G107 := G107.below b108
          generalize hw108 : w107.alloc (.cells #[.int .i64 1] 3) = w108 at *
          refine hK.out _ _ ⟨(by (repeat (first | exact Below.refl _ _ | assumption | refine below_drew0 ?_ | refine below_alloc0 ?_ _))), E1.out _ (by (repeat (first | exact Below.refl _ _ | assumption | refine below_drew0 ?_ | refine below_alloc0 ?_ _)))⟩ (fun hHeld => ?_)
          clear hK K
          try simp only [List.getElem_cons_succ, List.getElem_cons_zero, Act.put, List.setIfInBounds_toArray, List.set_cons_zero, List.set_cons_succ]
          refine ready_at 11 (by kernel_rfl) (by kernel_rfl) (fun K hK => ?_)
          simp only [List.getElem_cons_succ, List.getElem_cons_zero]
          go_simp
          go_at_call 17
          refine (sameN_any [1] [1] 1 1 _ _ _ 1 _ rfl rfl G107 A108).mono ?_
          rintro e _ ⟨rfl, m109, rfl⟩
          have hb109 : Below w9.heap.size w9 (w108.drewN m109) := below_drewN hb108 m109
          generalize w108.drewN m109 = w109 at *
          (try go_wp2_with fail)
          refine hK.out _ _ ⟨(by (repeat (first | exact Below.refl _ _ | assumption | refine below_drew0 ?_ | refine below_alloc0 ?_ _))), E1.out _ (by (repeat (first | exact Below.refl _ _ | assumption | refine below_drew0 ?_ | refine below_alloc0 ?_ _)))⟩ (fun hHeld => ?_)
          clear hK K
          try simp only [List.getElem_cons_succ, List.getElem_cons_zero, Act.put, List.setIfInBounds_toArray, List.set_cons_zero, List.set_cons_succ]
          refine take_at 12 (by kernel_rfl) (v := ?v4) (by kernel_rfl) (by kernel_rfl) (by kernel_rfl) (fun _ _ _ h => h) (by rfl) ?y4 (by assumption) ?r4
          case y4 => (intro w hSw; (try dsimp only at hSw); simp only [List.getElem_cons_succ, List.getElem_cons_zero]; go_simp; (try with_reducible rfl))
          try simp only [List.getElem_cons_succ, List.getElem_cons_zero, Act.put, List.setIfInBounds_toArray, List.set_cons_zero, List.set_cons_succ]
          refine take_at 13 (by kernel_rfl) (v := ?v5) (by kernel_rfl) (by kernel_rfl) (by kernel_rfl) (fun _ _ _ h => h) (by rfl) ?y5 (by assumption) ?r5
          case y5 => (intro w hSw; (try dsimp only at hSw); simp only [List.getElem_cons_succ, List.getElem_cons_zero]; go_simp; (try with_reducible rfl))
          try simp only [List.getElem_cons_succ, List.getElem_cons_zero, Act.put, List.setIfInBounds_toArray, List.set_cons_zero, List.set_cons_succ]
          refine take_at 14 (by kernel_rfl) (v := ?v6) (by kernel_rfl) (by kernel_rfl) (by kernel_rfl) (fun _ _ _ h => h) (by rfl) ?y6 (by assumption) ?r6
          case y6 => (intro w hSw; (try dsimp only at hSw); simp only [List.getElem_cons_succ, List.getElem_cons_zero]; go_simp; (try with_reducible rfl))
          try simp only [List.getElem_cons_succ, List.getElem_cons_zero, Act.put, List.setIfInBounds_toArray, List.set_cons_zero, List.set_cons_succ]
          refine take_at 15 (by kernel_rfl) (v := ?v7) (by kernel_rfl) (by kernel_rfl) (by kernel_rfl) (fun _ _ _ h => h) (by rfl) ?y7 (by assumption) ?r7
          case y7 => (intro w hSw; (try dsimp only at hSw); simp only [List.getElem_cons_succ, List.getElem_cons_zero]; go_simp; (try with_reducible rfl))
          try simp only [List.getElem_cons_succ, List.getElem_cons_zero, Act.put, List.setIfInBounds_toArray, List.set_cons_zero, List.set_cons_succ]
          refine take_at 16 (by kernel_rfl) (v := ?v8) (by kernel_rfl) (by kernel_rfl) (by kernel_rfl) (fun _ _ _ h => h) (by rfl) ?y8 (by assumption) ?r8
          case y8 => (intro w hSw; (try dsimp only at hSw); simp only [List.getElem_cons_succ, List.getElem_cons_zero]; go_simp; (try with_reducible rfl))
          try simp only [List.getElem_cons_succ, List.getElem_cons_zero, Act.put, List.setIfInBounds_toArray, List.set_cons_zero, List.set_cons_succ]
          refine take_at 17 (by kernel_rfl) (v := ?v9) (by kernel_rfl) (by kernel_rfl) (by kernel_rfl) (fun _ _ _ h => h) (by rfl) ?y9 (by assumption) ?r9
          case y9 => (intro w hSw; (try dsimp only at hSw); simp only [List.getElem_cons_succ, List.getElem_cons_zero]; go_simp; (try with_reducible rfl))
          try simp only [List.getElem_cons_succ, List.getElem_cons_zero, Act.put, List.setIfInBounds_toArray, List.set_cons_zero, List.set_cons_succ]
          refine take_at 18 (by kernel_rfl) (v := ?v10) (by kernel_rfl) (by kernel_rfl) (by kernel_rfl) (fun _ _ _ h => h) (by rfl) ?y10 (by assumption) ?r10
          case y10 => (intro w hSw; (try dsimp only at hSw); simp only [List.getElem_cons_succ, List.getElem_cons_zero]; go_simp; (try with_reducible rfl))
          try simp only [List.getElem_cons_succ, List.getElem_cons_zero, Act.put, List.setIfInBounds_toArray, List.set_cons_zero, List.set_cons_succ]
          refine ready_at 19 (by kernel_rfl) (by kernel_rfl) (fun K hK => ?_)
          simp only [List.getElem_cons_succ, List.getElem_cons_zero]
          go_simp
          go_at_call 25
          refine (two_any _).mono ?_
          rintro e w110 ⟨g110, rfl, N110⟩
          have hb110 : Below w9.heap.size w9 w110 := below_next hb109 N110.below
          have l110 : (loadM mt (.pointer (some ⟨g110, 3, none⟩))).run Try.prog w110 = .ok (.value (mv v3)) w110 := N110.load 1 (by decide)
          (try go_wp2_with fail)
          refine hK.out _ _ ⟨(by (repeat (first | exact Below.refl _ _ | assumption | refine below_drew0 ?_ | refine below_alloc0 ?_ _))), E1.out _ (by (repeat (first | exact Below.refl _ _ | assumption | refine below_drew0 ?_ | refine below_alloc0 ?_ _)))⟩ (fun hHeld => ?_)
          clear hK K
          try simp only [List.getElem_cons_succ, List.getElem_cons_zero, Act.put, List.setIfInBounds_toArray, List.set_cons_zero, List.set_cons_succ]
          refine take_at 20 (by kernel_rfl) (v := ?v11) (by kernel_rfl) (by kernel_rfl) (by kernel_rfl) (fun _ _ _ h => h) (by rfl) ?y11 (by assumption) ?r11
          case y11 => (intro w hSw; (try dsimp only at hSw); simp only [List.getElem_cons_succ, List.getElem_cons_zero]; go_simp; (try with_reducible rfl))
          try simp only [List.getElem_cons_succ, List.getElem_cons_zero, Act.put, List.setIfInBounds_toArray, List.set_cons_zero, List.set_cons_succ]
          refine ready_at 21 (by kernel_rfl) (by kernel_rfl) (fun K hK => ?_)
          simp only [List.getElem_cons_succ, List.getElem_cons_zero]
          go_simp
          refine hK.out _ _ ⟨(by (repeat (first | exact Below.refl _ _ | assumption | refine below_drew0 ?_ | refine below_alloc0 ?_ _))), E1.out _ (by (repeat (first | exact Below.refl _ _ | assumption | refine below_drew0 ?_ | refine below_alloc0 ?_ _)))⟩ (fun hHeld => ?_)
          clear hK K
          try simp only [List.getElem_cons_succ, List.getElem_cons_zero, Act.put, List.setIfInBounds_toArray, List.set_cons_zero, List.set_cons_succ]
          refine take_at 22 (by kernel_rfl) (v := ?v12) (by kernel_rfl) (by kernel_rfl) (by kernel_rfl) (fun _ _ _ h => h) (by rfl) ?y12 (by assumption) ?r12
          case y12 => (intro w hSw; (try dsimp only at hSw); simp only [List.getElem_cons_succ, List.getElem_cons_zero]; go_simp; (try with_reducible rfl))
          try simp only [List.getElem_cons_succ, List.getElem_cons_zero, Act.put, List.setIfInBounds_toArray, List.set_cons_zero, List.set_cons_succ]
          refine take_at 23 (by kernel_rfl) (v := ?v13) (by kernel_rfl) (by kernel_rfl) (by kernel_rfl) (fun _ _ _ h => h) (by rfl) ?y13 (by assumption) ?r13
          case y13 => (intro w hSw; (try dsimp only at hSw); simp only [List.getElem_cons_succ, List.getElem_cons_zero]; go_simp; (try with_reducible rfl))
          try simp only [List.getElem_cons_succ, List.getElem_cons_zero, Act.put, List.setIfInBounds_toArray, List.set_cons_zero, List.set_cons_succ]
          refine take_at 24 (by kernel_rfl) (v := ?v14) (by kernel_rfl) (by kernel_rfl) (by kernel_rfl) (fun _ _ _ h => h) (by rfl) ?y14 (by assumption) ?r14
          case y14 => (intro w hSw; (try dsimp only at hSw); simp only [List.getElem_cons_succ, List.getElem_cons_zero]; go_simp; (try with_reducible rfl))
          try simp only [List.getElem_cons_succ, List.getElem_cons_zero, Act.put, List.setIfInBounds_toArray, List.set_cons_zero, List.set_cons_succ]
          refine take_at 25 (by kernel_rfl) (v := ?v15) (by kernel_rfl) (by kernel_rfl) (by kernel_rfl) (fun _ _ _ h => h) (by rfl) ?y15 (by assumption) ?r15
          case y15 => (intro w hSw; (try dsimp only at hSw); simp only [List.getElem_cons_succ, List.getElem_cons_zero]; go_simp; (try with_reducible rfl))
          try simp only [List.getElem_cons_succ, List.getElem_cons_zero, Act.put, List.setIfInBounds_toArray, List.set_cons_zero, List.set_cons_succ]
          refine take_at 26 (by kernel_rfl) (v := ?v16) (by kernel_rfl) (by kernel_rfl) (by kernel_rfl) (fun _ _ _ h => h) (by rfl) ?y16 (by assumption) ?r16
          case y16 => (intro w hSw; (try dsimp only at hSw); simp only [List.getElem_cons_succ, List.getElem_cons_zero]; go_simp; (try with_reducible rfl))
          try simp only [List.getElem_cons_succ, List.getElem_cons_zero, Act.put, List.setIfInBounds_toArray, List.set_cons_zero, List.set_cons_succ]
          refine take_at 27 (by kernel_rfl) (v := ?v17) (by kernel_rfl) (by kernel_rfl) (by kernel_rfl) (fun _ _ _ h => h) (by rfl) ?y17 (by assumption) ?r17
          case y17 => (intro w hSw; (try dsimp only at hSw); simp only [List.getElem_cons_succ, List.getElem_cons_zero]; go_simp; (try with_reducible rfl))
          try simp only [List.getElem_cons_succ, List.getElem_cons_zero, Act.put, List.setIfInBounds_toArray, List.set_cons_zero, List.set_cons_succ]
          refine take_at 28 (by kernel_rfl) (v := ?v18) (by kernel_rfl) (by kernel_rfl) (by kernel_rfl) (fun _ _ _ h => h) (by rfl) ?y18 (by assumption) ?r18
          case y18 => (intro w hSw; (try dsimp only at hSw); simp only [List.getElem_cons_succ, List.getElem_cons_zero]; go_simp; (try with_reducible rfl))
          try simp only [List.getElem_cons_succ, List.getElem_cons_zero, Act.put, List.setIfInBounds_toArray, List.set_cons_zero, List.set_cons_succ]
          refine take_at 29 (by kernel_rfl) (v := ?v19) (by kernel_rfl) (by kernel_rfl) (by kernel_rfl) (fun _ _ _ h => h) (by rfl) ?y19 (by assumption) ?r19
          case y19 => (intro w hSw; (try dsimp only at hSw); simp only [List.getElem_cons_succ, List.getElem_cons_zero]; go_simp; (try with_reducible rfl))
          try simp only [List.getElem_cons_succ, List.getElem_cons_zero, Act.put, List.setIfInBounds_toArray, List.set_cons_zero, List.set_cons_succ]
          refine take_at 30 (by kernel_rfl) (v := ?v20) (by kernel_rfl) (by kernel_rfl) (by kernel_rfl) (fun _ _ _ h => h) (by rfl) ?y20 (by assumption) ?r20
          case y20 => (intro w hSw; (try dsimp only at hSw); simp only [List.getElem_cons_succ, List.getElem_cons_zero]; go_simp; (try with_reducible rfl))
          try simp only [List.getElem_cons_succ, List.getElem_cons_zero, Act.put, List.setIfInBounds_toArray, List.set_cons_zero, List.set_cons_succ]
          refine take_at 31 (by kernel_rfl) (v := ?v21) (by kernel_rfl) (by kernel_rfl) (by kernel_rfl) (fun _ _ _ h => h) (by rfl) ?y21 (by assumption) ?r21
          case y21 => (intro w hSw; (try dsimp only at hSw); simp only [List.getElem_cons_succ, List.getElem_cons_zero]; go_simp; (try with_reducible rfl))
          try simp only [List.getElem_cons_succ, List.getElem_cons_zero, Act.put, List.setIfInBounds_toArray, List.set_cons_zero, List.set_cons_succ]
          refine take_at 32 (by kernel_rfl) (v := ?v22) (by kernel_rfl) (by kernel_rfl) (by kernel_rfl) (fun _ _ _ h => h) (by rfl) ?y22 (by assumption) ?r22
          case y22 => (intro w hSw; (try dsimp only at hSw); simp only [List.getElem_cons_succ, List.getElem_cons_zero]; go_simp; (try with_reducible rfl))
          try simp only [List.getElem_cons_succ, List.getElem_cons_zero, Act.put, List.setIfInBounds_toArray, List.set_cons_zero, List.set_cons_succ]
          refine take_at 33 (by kernel_rfl) (v := ?v23) (by kernel_rfl) (by kernel_rfl) (by kernel_rfl) (fun _ _ _ h => h) (by rfl) ?y23 (by assumption) ?r23
          case y23 => (intro w hSw; (try dsimp only at hSw); simp only [List.getElem_cons_succ, List.getElem_cons_zero]; go_simp; (try with_reducible rfl))
          try simp only [List.getElem_cons_succ, List.getElem_cons_zero, Act.put, List.setIfInBounds_toArray, List.set_cons_zero, List.set_cons_succ]
          refine take_at 34 (by kernel_rfl) (v := ?v24) (by kernel_rfl) (by kernel_rfl) (by kernel_rfl) (fun _ _ _ h => h) (by rfl) ?y24 (by assumption) ?r24
          case y24 => (intro w hSw; (try dsimp only at hSw); simp only [List.getElem_cons_succ, List.getElem_cons_zero]; go_simp; (try with_reducible rfl))
          try simp only [List.getElem_cons_succ, List.getElem_cons_zero, Act.put, List.setIfInBounds_toArray, List.set_cons_zero, List.set_cons_succ]
          refine take_at 35 (by kernel_rfl) (v := ?v25) (by kernel_rfl) (by kernel_rfl) (by kernel_rfl) (fun _ _ _ h => h) (by rfl) ?y25 (by assumption) ?r25
          case y25 => (intro w hSw; (try dsimp only at hSw); simp only [List.getElem_cons_succ, List.getElem_cons_zero]; go_simp; (try with_reducible rfl))
          try simp only [List.getElem_cons_succ, List.getElem_cons_zero, Act.put, List.setIfInBounds_toArray, List.set_cons_zero, List.set_cons_succ]
          refine take_at 36 (by kernel_rfl) (v := ?v26) (by kernel_rfl) (by kernel_rfl) (by kernel_rfl) (fun _ _ _ h => h) (by rfl) ?y26 (by assumption) ?r26
          case y26 => (intro w hSw; (try dsimp only at hSw); simp only [List.getElem_cons_succ, List.getElem_cons_zero]; go_simp; (try with_reducible rfl))
          try simp only [List.getElem_cons_succ, List.getElem_cons_zero, Act.put, List.setIfInBounds_toArray, List.set_cons_zero, List.set_cons_succ]
          refine wpAnyH_done (by kernel_rfl) ?_ _
          go_wp2_with fail
          go_ret
          exact ⟨rfl, below_next B9.out hb110⟩
        · intro K hK
          simp only [List.getElem_cons_succ, List.getElem_cons_zero]
          go_simp
          have A111 : GoodN (w106.alloc (.cells #[.int .i64 1] 3)) [1] (some ⟨w106.heap.size, 0, none⟩) 1 := goodN_lit w106 [1] 3 (by decide) (by decide)
          have b111 : Below w106.heap.size w106 (w106.alloc (.cells #[.int .i64 1] 3)) := (Below.refl _ _).alloc (Nat.le_refl _) _
          have hb111 := below_next hb106 b111
          have N106 := N106.on b111
          generalize hw111 : w106.alloc (.cells #[.int .i64 1] 3) = w111 at *
          refine hK.out _ _ ⟨(by (repeat (first | exact Below.refl _ _ | assumption | refine below_drew0 ?_ | refine below_alloc0 ?_ _))), E1.out _ (by (repeat (first | exact Below.refl _ _ | assumption | refine below_drew0 ?_ | refine below_alloc0 ?_ _)))⟩ (fun hHeld => ?_)
          clear hK K
          try simp only [List.getElem_cons_succ, List.getElem_cons_zero, Act.put, List.setIfInBounds_toArray, List.set_cons_zero, List.set_cons_succ]
          refine ready_at 9 (by kernel_rfl) (by kernel_rfl) (fun K hK => ?_)
          simp only [List.getElem_cons_succ, List.getElem_cons_zero]
          go_simp
          go_at_call 16
          refine (V.alive [v1, v3] 2 _ 2 _ rfl (N106.good v_ok rfl (by omega)) (by omega)).mono ?_
          rw [alive_ex]
          rintro e w112 ⟨r112, rfl, o112, b112⟩
          have hb112 : Below w9.heap.size w9 w112 := below_next hb111 b112
          obtain ⟨q112, c112, rfl, _, G112⟩ := o112.good (by decide)
          have f112a := G112.le
          have f112b := G112.max
          simp only [List.length_cons, List.length_nil] at f112a
          clear o112
          have A111 := A111.below b112
          (try go_wp2_with fail)
          refine hK.out _ _ ⟨(by (repeat (first | exact Below.refl _ _ | assumption | refine below_drew0 ?_ | refine below_alloc0 ?_ _))), E1.out _ (by (repeat (first | exact Below.refl _ _ | assumption | refine below_drew0 ?_ | refine below_alloc0 ?_ _)))⟩ (fun hHeld => ?_)
          clear hK K
          try simp only [List.getElem_cons_succ, List.getElem_cons_zero, Act.put, List.setIfInBounds_toArray, List.set_cons_zero, List.set_cons_succ]
          refine ready_at 11 (by kernel_rfl) (by kernel_rfl) (fun K hK => ?_)
          simp only [List.getElem_cons_succ, List.getElem_cons_zero]
          go_simp
          go_at_call 17
          refine (sameN_any [1] [1] 1 1 _ _ _ 1 _ rfl rfl G112 A111).mono ?_
          rintro e _ ⟨rfl, m113, rfl⟩
          have hb113 : Below w9.heap.size w9 (w112.drewN m113) := below_drewN hb112 m113
          generalize w112.drewN m113 = w113 at *
          (try go_wp2_with fail)
          refine hK.out _ _ ⟨(by (repeat (first | exact Below.refl _ _ | assumption | refine below_drew0 ?_ | refine below_alloc0 ?_ _))), E1.out _ (by (repeat (first | exact Below.refl _ _ | assumption | refine below_drew0 ?_ | refine below_alloc0 ?_ _)))⟩ (fun hHeld => ?_)
          clear hK K
          try simp only [List.getElem_cons_succ, List.getElem_cons_zero, Act.put, List.setIfInBounds_toArray, List.set_cons_zero, List.set_cons_succ]
          refine take_at 12 (by kernel_rfl) (v := ?v27) (by kernel_rfl) (by kernel_rfl) (by kernel_rfl) (fun _ _ _ h => h) (by rfl) ?y27 (by assumption) ?r27
          case y27 => (intro w hSw; (try dsimp only at hSw); simp only [List.getElem_cons_succ, List.getElem_cons_zero]; go_simp; (try with_reducible rfl))
          try simp only [List.getElem_cons_succ, List.getElem_cons_zero, Act.put, List.setIfInBounds_toArray, List.set_cons_zero, List.set_cons_succ]
          refine take_at 13 (by kernel_rfl) (v := ?v28) (by kernel_rfl) (by kernel_rfl) (by kernel_rfl) (fun _ _ _ h => h) (by rfl) ?y28 (by assumption) ?r28
          case y28 => (intro w hSw; (try dsimp only at hSw); simp only [List.getElem_cons_succ, List.getElem_cons_zero]; go_simp; (try with_reducible rfl))
          try simp only [List.getElem_cons_succ, List.getElem_cons_zero, Act.put, List.setIfInBounds_toArray, List.set_cons_zero, List.set_cons_succ]
          refine take_at 14 (by kernel_rfl) (v := ?v29) (by kernel_rfl) (by kernel_rfl) (by kernel_rfl) (fun _ _ _ h => h) (by rfl) ?y29 (by assumption) ?r29
          case y29 => (intro w hSw; (try dsimp only at hSw); simp only [List.getElem_cons_succ, List.getElem_cons_zero]; go_simp; (try with_reducible rfl))
          try simp only [List.getElem_cons_succ, List.getElem_cons_zero, Act.put, List.setIfInBounds_toArray, List.set_cons_zero, List.set_cons_succ]
          refine take_at 15 (by kernel_rfl) (v := ?v30) (by kernel_rfl) (by kernel_rfl) (by kernel_rfl) (fun _ _ _ h => h) (by rfl) ?y30 (by assumption) ?r30
          case y30 => (intro w hSw; (try dsimp only at hSw); simp only [List.getElem_cons_succ, List.getElem_cons_zero]; go_simp; (try with_reducible rfl))
          try simp only [List.getElem_cons_succ, List.getElem_cons_zero, Act.put, List.setIfInBounds_toArray, List.set_cons_zero, List.set_cons_succ]
          refine take_at 16 (by kernel_rfl) (v := ?v31) (by kernel_rfl) (by kernel_rfl) (by kernel_rfl) (fun _ _ _ h => h) (by rfl) ?y31 (by assumption) ?r31
          case y31 => (intro w hSw; (try dsimp only at hSw); simp only [List.getElem_cons_succ, List.getElem_cons_zero]; go_simp; (try with_reducible rfl))
          try simp only [List.getElem_cons_succ, List.getElem_cons_zero, Act.put, List.setIfInBounds_toArray, List.set_cons_zero, List.set_cons_succ]
          refine take_at 17 (by kernel_rfl) (v := ?v32) (by kernel_rfl) (by kernel_rfl) (by kernel_rfl) (fun _ _ _ h => h) (by rfl) ?y32 (by assumption) ?r32
          case y32 => (intro w hSw; (try dsimp only at hSw); simp only [List.getElem_cons_succ, List.getElem_cons_zero]; go_simp; (try with_reducible rfl))
          try simp only [List.getElem_cons_succ, List.getElem_cons_zero, Act.put, List.setIfInBounds_toArray, List.set_cons_zero, List.set_cons_succ]
          refine take_at 18 (by kernel_rfl) (v := ?v33) (by kernel_rfl) (by kernel_rfl) (by kernel_rfl) (fun _ _ _ h => h) (by rfl) ?y33 (by assumption) ?r33
          case y33 => (intro w hSw; (try dsimp only at hSw); simp only [List.getElem_cons_succ, List.getElem_cons_zero]; go_simp; (try with_reducible rfl))
          try simp only [List.getElem_cons_succ, List.getElem_cons_zero, Act.put, List.setIfInBounds_toArray, List.set_cons_zero, List.set_cons_succ]
          refine ready_at 19 (by kernel_rfl) (by kernel_rfl) (fun K hK => ?_)
          simp only [List.getElem_cons_succ, List.getElem_cons_zero]
          go_simp
          go_at_call 25
          refine (two_any _).mono ?_
          rintro e w114 ⟨g114, rfl, N114⟩
          have hb114 : Below w9.heap.size w9 w114 := below_next hb113 N114.below
          have l114 : (loadM mt (.pointer (some ⟨g114, 3, none⟩))).run Try.prog w114 = .ok (.value (mv v3)) w114 := N114.load 1 (by decide)
          (try go_wp2_with fail)
          refine hK.out _ _ ⟨(by (repeat (first | exact Below.refl _ _ | assumption | refine below_drew0 ?_ | refine below_alloc0 ?_ _))), E1.out _ (by (repeat (first | exact Below.refl _ _ | assumption | refine below_drew0 ?_ | refine below_alloc0 ?_ _)))⟩ (fun hHeld => ?_)
          clear hK K
          try simp only [List.getElem_cons_succ, List.getElem_cons_zero, Act.put, List.setIfInBounds_toArray, List.set_cons_zero, List.set_cons_succ]
          refine take_at 20 (by kernel_rfl) (v := ?v34) (by kernel_rfl) (by kernel_rfl) (by kernel_rfl) (fun _ _ _ h => h) (by rfl) ?y34 (by assumption) ?r34
          case y34 => (intro w hSw; (try dsimp only at hSw); simp only [List.getElem_cons_succ, List.getElem_cons_zero]; go_simp; (try with_reducible rfl))
          try simp only [List.getElem_cons_succ, List.getElem_cons_zero, Act.put, List.setIfInBounds_toArray, List.set_cons_zero, List.set_cons_succ]
          refine ready_at 21 (by kernel_rfl) (by kernel_rfl) (fun K hK => ?_)
          simp only [List.getElem_cons_succ, List.getElem_cons_zero]
          go_simp
          refine hK.out _ _ ⟨(by (repeat (first | exact Below.refl _ _ | assumption | refine below_drew0 ?_ | refine below_alloc0 ?_ _))), E1.out _ (by (repeat (first | exact Below.refl _ _ | assumption | refine below_drew0 ?_ | refine below_alloc0 ?_ _)))⟩ (fun hHeld => ?_)
          clear hK K
          try simp only [List.getElem_cons_succ, List.getElem_cons_zero, Act.put, List.setIfInBounds_toArray, List.set_cons_zero, List.set_cons_succ]
          refine take_at 22 (by kernel_rfl) (v := ?v35) (by kernel_rfl) (by kernel_rfl) (by kernel_rfl) (fun _ _ _ h => h) (by rfl) ?y35 (by assumption) ?r35
          case y35 => (intro w hSw; (try dsimp only at hSw); simp only [List.getElem_cons_succ, List.getElem_cons_zero]; go_simp; (try with_reducible rfl))
          try simp only [List.getElem_cons_succ, List.getElem_cons_zero, Act.put, List.setIfInBounds_toArray, List.set_cons_zero, List.set_cons_succ]
          refine take_at 23 (by kernel_rfl) (v := ?v36) (by kernel_rfl) (by kernel_rfl) (by kernel_rfl) (fun _ _ _ h => h) (by rfl) ?y36 (by assumption) ?r36
          case y36 => (intro w hSw; (try dsimp only at hSw); simp only [List.getElem_cons_succ, List.getElem_cons_zero]; go_simp; (try with_reducible rfl))
          try simp only [List.getElem_cons_succ, List.getElem_cons_zero, Act.put, List.setIfInBounds_toArray, List.set_cons_zero, List.set_cons_succ]
          refine take_at 24 (by kernel_rfl) (v := ?v37) (by kernel_rfl) (by kernel_rfl) (by kernel_rfl) (fun _ _ _ h => h) (by rfl) ?y37 (by assumption) ?r37
          case y37 => (intro w hSw; (try dsimp only at hSw); simp only [List.getElem_cons_succ, List.getElem_cons_zero]; go_simp; (try with_reducible rfl))
          try simp only [List.getElem_cons_succ, List.getElem_cons_zero, Act.put, List.setIfInBounds_toArray, List.set_cons_zero, List.set_cons_succ]
          refine take_at 25 (by kernel_rfl) (v := ?v38) (by kernel_rfl) (by kernel_rfl) (by kernel_rfl) (fun _ _ _ h => h) (by rfl) ?y38 (by assumption) ?r38
          case y38 => (intro w hSw; (try dsimp only at hSw); simp only [List.getElem_cons_succ, List.getElem_cons_zero]; go_simp; (try with_reducible rfl))
          try simp only [List.getElem_cons_succ, List.getElem_cons_zero, Act.put, List.setIfInBounds_toArray, List.set_cons_zero, List.set_cons_succ]
          refine take_at 26 (by kernel_rfl) (v := ?v39) (by kernel_rfl) (by kernel_rfl) (by kernel_rfl) (fun _ _ _ h => h) (by rfl) ?y39 (by assumption) ?r39
          case y39 => (intro w hSw; (try dsimp only at hSw); simp only [List.getElem_cons_succ, List.getElem_cons_zero]; go_simp; (try with_reducible rfl))
          try simp only [List.getElem_cons_succ, List.getElem_cons_zero, Act.put, List.setIfInBounds_toArray, List.set_cons_zero, List.set_cons_succ]
          refine take_at 27 (by kernel_rfl) (v := ?v40) (by kernel_rfl) (by kernel_rfl) (by kernel_rfl) (fun _ _ _ h => h) (by rfl) ?y40 (by assumption) ?r40
          case y40 => (intro w hSw; (try dsimp only at hSw); simp only [List.getElem_cons_succ, List.getElem_cons_zero]; go_simp; (try with_reducible rfl))
          try simp only [List.getElem_cons_succ, List.getElem_cons_zero, Act.put, List.setIfInBounds_toArray, List.set_cons_zero, List.set_cons_succ]
          refine take_at 28 (by kernel_rfl) (v := ?v41) (by kernel_rfl) (by kernel_rfl) (by kernel_rfl) (fun _ _ _ h => h) (by rfl) ?y41 (by assumption) ?r41
          case y41 => (intro w hSw; (try dsimp only at hSw); simp only [List.getElem_cons_succ, List.getElem_cons_zero]; go_simp; (try with_reducible rfl))
          try simp only [List.getElem_cons_succ, List.getElem_cons_zero, Act.put, List.setIfInBounds_toArray, List.set_cons_zero, List.set_cons_succ]
          refine take_at 29 (by kernel_rfl) (v := ?v42) (by kernel_rfl) (by kernel_rfl) (by kernel_rfl) (fun _ _ _ h => h) (by rfl) ?y42 (by assumption) ?r42
          case y42 => (intro w hSw; (try dsimp only at hSw); simp only [List.getElem_cons_succ, List.getElem_cons_zero]; go_simp; (try with_reducible rfl))
          try simp only [List.getElem_cons_succ, List.getElem_cons_zero, Act.put, List.setIfInBounds_toArray, List.set_cons_zero, List.set_cons_succ]
          refine take_at 30 (by kernel_rfl) (v := ?v43) (by kernel_rfl) (by kernel_rfl) (by kernel_rfl) (fun _ _ _ h => h) (by rfl) ?y43 (by assumption) ?r43
          case y43 => (intro w hSw; (try dsimp only at hSw); simp only [List.getElem_cons_succ, List.getElem_cons_zero]; go_simp; (try with_reducible rfl))
          try simp only [List.getElem_cons_succ, List.getElem_cons_zero, Act.put, List.setIfInBounds_toArray, List.set_cons_zero, List.set_cons_succ]
          refine take_at 31 (by kernel_rfl) (v := ?v44) (by kernel_rfl) (by kernel_rfl) (by kernel_rfl) (fun _ _ _ h => h) (by rfl) ?y44 (by assumption) ?r44
          case y44 => (intro w hSw; (try dsimp only at hSw); simp only [List.getElem_cons_succ, List.getElem_cons_zero]; go_simp; (try with_reducible rfl))
          try simp only [List.getElem_cons_succ, List.getElem_cons_zero, Act.put, List.setIfInBounds_toArray, List.set_cons_zero, List.set_cons_succ]
          refine take_at 32 (by kernel_rfl) (v := ?v45) (by kernel_rfl) (by kernel_rfl) (by kernel_rfl) (fun _ _ _ h => h) (by rfl) ?y45 (by assumption) ?r45
          case y45 => (intro w hSw; (try dsimp only at hSw); simp only [List.getElem_cons_succ, List.getElem_cons_zero]; go_simp; (try with_reducible rfl))
          try simp only [List.getElem_cons_succ, List.getElem_cons_zero, Act.put, List.setIfInBounds_toArray, List.set_cons_zero, List.set_cons_succ]
          refine take_at 33 (by kernel_rfl) (v := ?v46) (by kernel_rfl) (by kernel_rfl) (by kernel_rfl) (fun _ _ _ h => h) (by rfl) ?y46 (by assumption) ?r46
          case y46 => (intro w hSw; (try dsimp only at hSw); simp only [List.getElem_cons_succ, List.getElem_cons_zero]; go_simp; (try with_reducible rfl))
          try simp only [List.getElem_cons_succ, List.getElem_cons_zero, Act.put, List.setIfInBounds_toArray, List.set_cons_zero, List.set_cons_succ]
          refine take_at 34 (by kernel_rfl) (v := ?v47) (by kernel_rfl) (by kernel_rfl) (by kernel_rfl) (fun _ _ _ h => h) (by rfl) ?y47 (by assumption) ?r47
          case y47 => (intro w hSw; (try dsimp only at hSw); simp only [List.getElem_cons_succ, List.getElem_cons_zero]; go_simp; (try with_reducible rfl))
          try simp only [List.getElem_cons_succ, List.getElem_cons_zero, Act.put, List.setIfInBounds_toArray, List.set_cons_zero, List.set_cons_succ]
          refine take_at 35 (by kernel_rfl) (v := ?v48) (by kernel_rfl) (by kernel_rfl) (by kernel_rfl) (fun _ _ _ h => h) (by rfl) ?y48 (by assumption) ?r48
          case y48 => (intro w hSw; (try dsimp only at hSw); simp only [List.getElem_cons_succ, List.getElem_cons_zero]; go_simp; (try with_reducible rfl))
          try simp only [List.getElem_cons_succ, List.getElem_cons_zero, Act.put, List.setIfInBounds_toArray, List.set_cons_zero, List.set_cons_succ]
          refine take_at 36 (by kernel_rfl) (v := ?v49) (by kernel_rfl) (by kernel_rfl) (by kernel_rfl) (fun _ _ _ h => h) (by rfl) ?y49 (by assumption) ?r49
          case y49 => (intro w hSw; (try dsimp only at hSw); simp only [List.getElem_cons_succ, List.getElem_cons_zero]; go_simp; (try with_reducible rfl))
          try simp only [List.getElem_cons_succ, List.getElem_cons_zero, Act.put, List.setIfInBounds_toArray, List.set_cons_zero, List.set_cons_succ]
          refine wpAnyH_done (by kernel_rfl) ?_ _
          go_wp2_with fail
          go_ret
          exact ⟨rfl, below_next B9.out hb114⟩
      · intro K hK
        simp only [List.getElem_cons_succ, List.getElem_cons_zero]
        go_simp
        have A115 : GoodN (w105.alloc (.cells #[.int .i64 1] 3)) [1] (some ⟨w105.heap.size, 0, none⟩) 1 := goodN_lit w105 [1] 3 (by decide) (by decide)
        have b115 : Below w105.heap.size w105 (w105.alloc (.cells #[.int .i64 1] 3)) := (Below.refl _ _).alloc (Nat.le_refl _) _
        have hb115 := below_next hb105 b115
        generalize hw115 : w105.alloc (.cells #[.int .i64 1] 3) = w115 at *
        refine hK.out _ _ ⟨(by (repeat (first | exact Below.refl _ _ | assumption | refine below_drew0 ?_ | refine below_alloc0 ?_ _))), E1.out _ (by (repeat (first | exact Below.refl _ _ | assumption | refine below_drew0 ?_ | refine below_alloc0 ?_ _)))⟩ (fun hHeld => ?_)
        clear hK K
        try simp only [List.getElem_cons_succ, List.getElem_cons_zero, Act.put, List.setIfInBounds_toArray, List.set_cons_zero, List.set_cons_succ]
        refine ready_at 8 (by kernel_rfl) (by kernel_rfl) (fun K hK => ?_)
        simp only [List.getElem_cons_succ, List.getElem_cons_zero]
        go_simp
        go_at_call 25
        refine (two_any _).mono ?_
        rintro e w116 ⟨g116, rfl, N116⟩
        have hb116 : Below w9.heap.size w9 w116 := below_next hb115 N116.below
        have A115 := A115.below N116.below
        (try go_wp2_with fail)
        refine hK.out _ _ ⟨(by (repeat (first | exact Below.refl _ _ | assumption | refine below_drew0 ?_ | refine below_alloc0 ?_ _))), E1.out _ (by (repeat (first | exact Below.refl _ _ | assumption | refine below_drew0 ?_ | refine below_alloc0 ?_ _)))⟩ (fun hHeld => ?_)
        clear hK K
        try simp only [List.getElem_cons_succ, List.getElem_cons_zero, Act.put, List.setIfInBounds_toArray, List.set_cons_zero, List.set_cons_succ]
        refine ready_at 9 (by kernel_rfl) (by kernel_rfl) (fun K hK => ?_)
        simp only [List.getElem_cons_succ, List.getElem_cons_zero]
        go_simp
        go_at_call 16
        refine (V.alive [v1, v3] 2 _ 2 _ rfl (N116.good v_ok rfl (by omega)) (by omega)).mono ?_
        rw [alive_ex]
        rintro e w117 ⟨r117, rfl, o117, b117⟩
        have hb117 : Below w9.heap.size w9 w117 := below_next hb116 b117
        obtain ⟨q117, c117, rfl, _, G117⟩ := o117.good (by decide)
        have f117a := G117.le
        have f117b := G117.max
        simp only [List.length_cons, List.length_nil] at f117a
        clear o117
        have A115 := A115.below b117
        (try go_wp2_with fail)
        refine hK.out _ _ ⟨(by (repeat (first | exact Below.refl _ _ | assumption | refine below_drew0 ?_ | refine below_alloc0 ?_ _))), E1.out _ (by (repeat (first | exact Below.refl _ _ | assumption | refine below_drew0 ?_ | refine below_alloc0 ?_ _)))⟩ (fun hHeld => ?_)
        clear hK K
        try simp only [List.getElem_cons_succ, List.getElem_cons_zero, Act.put, List.setIfInBounds_toArray, List.set_cons_zero, List.set_cons_succ]
        refine ready_at 11 (by kernel_rfl) (by kernel_rfl) (fun K hK => ?_)
        simp only [List.getElem_cons_succ, List.getElem_cons_zero]
        go_simp
        go_at_call 17
        refine (sameN_any [1] [1] 1 1 _ _ _ 1 _ rfl rfl G117 A115).mono ?_
        rintro e _ ⟨rfl, m118, rfl⟩
        have hb118 : Below w9.heap.size w9 (w117.drewN m118) := below_drewN hb117 m118
        generalize w117.drewN m118 = w118 at *
        (try go_wp2_with fail)
        refine hK.out _ _ ⟨(by (repeat (first | exact Below.refl _ _ | assumption | refine below_drew0 ?_ | refine below_alloc0 ?_ _))), E1.out _ (by (repeat (first | exact Below.refl _ _ | assumption | refine below_drew0 ?_ | refine below_alloc0 ?_ _)))⟩ (fun hHeld => ?_)
        clear hK K
        try simp only [List.getElem_cons_succ, List.getElem_cons_zero, Act.put, List.setIfInBounds_toArray, List.set_cons_zero, List.set_cons_succ]
        refine take_at 12 (by kernel_rfl) (v := ?v50) (by kernel_rfl) (by kernel_rfl) (by kernel_rfl) (fun _ _ _ h => h) (by rfl) ?y50 (by assumption) ?r50
        case y50 => (intro w hSw; (try dsimp only at hSw); simp only [List.getElem_cons_succ, List.getElem_cons_zero]; go_simp; (try with_reducible rfl))
        try simp only [List.getElem_cons_succ, List.getElem_cons_zero, Act.put, List.setIfInBounds_toArray, List.set_cons_zero, List.set_cons_succ]
        refine take_at 13 (by kernel_rfl) (v := ?v51) (by kernel_rfl) (by kernel_rfl) (by kernel_rfl) (fun _ _ _ h => h) (by rfl) ?y51 (by assumption) ?r51
        case y51 => (intro w hSw; (try dsimp only at hSw); simp only [List.getElem_cons_succ, List.getElem_cons_zero]; go_simp; (try with_reducible rfl))
        try simp only [List.getElem_cons_succ, List.getElem_cons_zero, Act.put, List.setIfInBounds_toArray, List.set_cons_zero, List.set_cons_succ]
        refine take_at 14 (by kernel_rfl) (v := ?v52) (by kernel_rfl) (by kernel_rfl) (by kernel_rfl) (fun _ _ _ h => h) (by rfl) ?y52 (by assumption) ?r52
        case y52 => (intro w hSw; (try dsimp only at hSw); simp only [List.getElem_cons_succ, List.getElem_cons_zero]; go_simp; (try with_reducible rfl))
        try simp only [List.getElem_cons_succ, List.getElem_cons_zero, Act.put, List.setIfInBounds_toArray, List.set_cons_zero, List.set_cons_succ]
        refine take_at 15 (by kernel_rfl) (v := ?v53) (by kernel_rfl) (by kernel_rfl) (by kernel_rfl) (fun _ _ _ h => h) (by rfl) ?y53 (by assumption) ?r53
        case y53 => (intro w hSw; (try dsimp only at hSw); simp only [List.getElem_cons_succ, List.getElem_cons_zero]; go_simp; (try with_reducible rfl))
        try simp only [List.getElem_cons_succ, List.getElem_cons_zero, Act.put, List.setIfInBounds_toArray, List.set_cons_zero, List.set_cons_succ]
        refine take_at 16 (by kernel_rfl) (v := ?v54) (by kernel_rfl) (by kernel_rfl) (by kernel_rfl) (fun _ _ _ h => h) (by rfl) ?y54 (by assumption) ?r54
        case y54 => (intro w hSw; (try dsimp only at hSw); simp only [List.getElem_cons_succ, List.getElem_cons_zero]; go_simp; (try with_reducible rfl))
        try simp only [List.getElem_cons_succ, List.getElem_cons_zero, Act.put, List.setIfInBounds_toArray, List.set_cons_zero, List.set_cons_succ]
        refine take_at 17 (by kernel_rfl) (v := ?v55) (by kernel_rfl) (by kernel_rfl) (by kernel_rfl) (fun _ _ _ h => h) (by rfl) ?y55 (by assumption) ?r55
        case y55 => (intro w hSw; (try dsimp only at hSw); simp only [List.getElem_cons_succ, List.getElem_cons_zero]; go_simp; (try with_reducible rfl))
        try simp only [List.getElem_cons_succ, List.getElem_cons_zero, Act.put, List.setIfInBounds_toArray, List.set_cons_zero, List.set_cons_succ]
        refine take_at 18 (by kernel_rfl) (v := ?v56) (by kernel_rfl) (by kernel_rfl) (by kernel_rfl) (fun _ _ _ h => h) (by rfl) ?y56 (by assumption) ?r56
        case y56 => (intro w hSw; (try dsimp only at hSw); simp only [List.getElem_cons_succ, List.getElem_cons_zero]; go_simp; (try with_reducible rfl))
        try simp only [List.getElem_cons_succ, List.getElem_cons_zero, Act.put, List.setIfInBounds_toArray, List.set_cons_zero, List.set_cons_succ]
        refine ready_at 19 (by kernel_rfl) (by kernel_rfl) (fun K hK => ?_)
        simp only [List.getElem_cons_succ, List.getElem_cons_zero]
        go_simp
        go_at_call 25
        refine (two_any _).mono ?_
        rintro e w119 ⟨g119, rfl, N119⟩
        have hb119 : Below w9.heap.size w9 w119 := below_next hb118 N119.below
        have l119 : (loadM mt (.pointer (some ⟨g119, 3, none⟩))).run Try.prog w119 = .ok (.value (mv v3)) w119 := N119.load 1 (by decide)
        (try go_wp2_with fail)
        refine hK.out _ _ ⟨(by (repeat (first | exact Below.refl _ _ | assumption | refine below_drew0 ?_ | refine below_alloc0 ?_ _))), E1.out _ (by (repeat (first | exact Below.refl _ _ | assumption | refine below_drew0 ?_ | refine below_alloc0 ?_ _)))⟩ (fun hHeld => ?_)
        clear hK K
        try simp only [List.getElem_cons_succ, List.getElem_cons_zero, Act.put, List.setIfInBounds_toArray, List.set_cons_zero, List.set_cons_succ]
        refine take_at 20 (by kernel_rfl) (v := ?v57) (by kernel_rfl) (by kernel_rfl) (by kernel_rfl) (fun _ _ _ h => h) (by rfl) ?y57 (by assumption) ?r57
        case y57 => (intro w hSw; (try dsimp only at hSw); simp only [List.getElem_cons_succ, List.getElem_cons_zero]; go_simp; (try with_reducible rfl))
        try simp only [List.getElem_cons_succ, List.getElem_cons_zero, Act.put, List.setIfInBounds_toArray, List.set_cons_zero, List.set_cons_succ]
        refine ready_at 21 (by kernel_rfl) (by kernel_rfl) (fun K hK => ?_)
        simp only [List.getElem_cons_succ, List.getElem_cons_zero]
        go_simp
        refine hK.out _ _ ⟨(by (repeat (first | exact Below.refl _ _ | assumption | refine below_drew0 ?_ | refine below_alloc0 ?_ _))), E1.out _ (by (repeat (first | exact Below.refl _ _ | assumption | refine below_drew0 ?_ | refine below_alloc0 ?_ _)))⟩ (fun hHeld => ?_)
        clear hK K
        try simp only [List.getElem_cons_succ, List.getElem_cons_zero, Act.put, List.setIfInBounds_toArray, List.set_cons_zero, List.set_cons_succ]
        refine take_at 22 (by kernel_rfl) (v := ?v58) (by kernel_rfl) (by kernel_rfl) (by kernel_rfl) (fun _ _ _ h => h) (by rfl) ?y58 (by assumption) ?r58
        case y58 => (intro w hSw; (try dsimp only at hSw); simp only [List.getElem_cons_succ, List.getElem_cons_zero]; go_simp; (try with_reducible rfl))
        try simp only [List.getElem_cons_succ, List.getElem_cons_zero, Act.put, List.setIfInBounds_toArray, List.set_cons_zero, List.set_cons_succ]
        refine take_at 23 (by kernel_rfl) (v := ?v59) (by kernel_rfl) (by kernel_rfl) (by kernel_rfl) (fun _ _ _ h => h) (by rfl) ?y59 (by assumption) ?r59
        case y59 => (intro w hSw; (try dsimp only at hSw); simp only [List.getElem_cons_succ, List.getElem_cons_zero]; go_simp; (try with_reducible rfl))
        try simp only [List.getElem_cons_succ, List.getElem_cons_zero, Act.put, List.setIfInBounds_toArray, List.set_cons_zero, List.set_cons_succ]
        refine take_at 24 (by kernel_rfl) (v := ?v60) (by kernel_rfl) (by kernel_rfl) (by kernel_rfl) (fun _ _ _ h => h) (by rfl) ?y60 (by assumption) ?r60
        case y60 => (intro w hSw; (try dsimp only at hSw); simp only [List.getElem_cons_succ, List.getElem_cons_zero]; go_simp; (try with_reducible rfl))
        try simp only [List.getElem_cons_succ, List.getElem_cons_zero, Act.put, List.setIfInBounds_toArray, List.set_cons_zero, List.set_cons_succ]
        refine take_at 25 (by kernel_rfl) (v := ?v61) (by kernel_rfl) (by kernel_rfl) (by kernel_rfl) (fun _ _ _ h => h) (by rfl) ?y61 (by assumption) ?r61
        case y61 => (intro w hSw; (try dsimp only at hSw); simp only [List.getElem_cons_succ, List.getElem_cons_zero]; go_simp; (try with_reducible rfl))
        try simp only [List.getElem_cons_succ, List.getElem_cons_zero, Act.put, List.setIfInBounds_toArray, List.set_cons_zero, List.set_cons_succ]
        refine take_at 26 (by kernel_rfl) (v := ?v62) (by kernel_rfl) (by kernel_rfl) (by kernel_rfl) (fun _ _ _ h => h) (by rfl) ?y62 (by assumption) ?r62
        case y62 => (intro w hSw; (try dsimp only at hSw); simp only [List.getElem_cons_succ, List.getElem_cons_zero]; go_simp; (try with_reducible rfl))
        try simp only [List.getElem_cons_succ, List.getElem_cons_zero, Act.put, List.setIfInBounds_toArray, List.set_cons_zero, List.set_cons_succ]
        refine take_at 27 (by kernel_rfl) (v := ?v63) (by kernel_rfl) (by kernel_rfl) (by kernel_rfl) (fun _ _ _ h => h) (by rfl) ?y63 (by assumption) ?r63
        case y63 => (intro w hSw; (try dsimp only at hSw); simp only [List.getElem_cons_succ, List.getElem_cons_zero]; go_simp; (try with_reducible rfl))
        try simp only [List.getElem_cons_succ, List.getElem_cons_zero, Act.put, List.setIfInBounds_toArray, List.set_cons_zero, List.set_cons_succ]
        refine take_at 28 (by kernel_rfl) (v := ?v64) (by kernel_rfl) (by kernel_rfl) (by kernel_rfl) (fun _ _ _ h => h) (by rfl) ?y64 (by assumption) ?r64
        case y64 => (intro w hSw; (try dsimp only at hSw); simp only [List.getElem_cons_succ, List.getElem_cons_zero]; go_simp; (try with_reducible rfl))
        try simp only [List.getElem_cons_succ, List.getElem_cons_zero, Act.put, List.setIfInBounds_toArray, List.set_cons_zero, List.set_cons_succ]
        refine take_at 29 (by kernel_rfl) (v := ?v65) (by kernel_rfl) (by kernel_rfl) (by kernel_rfl) (fun _ _ _ h => h) (by rfl) ?y65 (by assumption) ?r65
        case y65 => (intro w hSw; (try dsimp only at hSw); simp only [List.getElem_cons_succ, List.getElem_cons_zero]; go_simp; (try with_reducible rfl))
        try simp only [List.getElem_cons_succ, List.getElem_cons_zero, Act.put, List.setIfInBounds_toArray, List.set_cons_zero, List.set_cons_succ]
        refine take_at 30 (by kernel_rfl) (v := ?v66) (by kernel_rfl) (by kernel_rfl) (by kernel_rfl) (fun _ _ _ h => h) (by rfl) ?y66 (by assumption) ?r66
        case y66 => (intro w hSw; (try dsimp only at hSw); simp only [List.getElem_cons_succ, List.getElem_cons_zero]; go_simp; (try with_reducible rfl))
        try simp only [List.getElem_cons_succ, List.getElem_cons_zero, Act.put, List.setIfInBounds_toArray, List.set_cons_zero, List.set_cons_succ]
        refine take_at 31 (by kernel_rfl) (v := ?v67) (by kernel_rfl) (by kernel_rfl) (by kernel_rfl) (fun _ _ _ h => h) (by rfl) ?y67 (by assumption) ?r67
        case y67 => (intro w hSw; (try dsimp only at hSw); simp only [List.getElem_cons_succ, List.getElem_cons_zero]; go_simp; (try with_reducible rfl))
        try simp only [List.getElem_cons_succ, List.getElem_cons_zero, Act.put, List.setIfInBounds_toArray, List.set_cons_zero, List.set_cons_succ]
        refine take_at 32 (by kernel_rfl) (v := ?v68) (by kernel_rfl) (by kernel_rfl) (by kernel_rfl) (fun _ _ _ h => h) (by rfl) ?y68 (by assumption) ?r68
        case y68 => (intro w hSw; (try dsimp only at hSw); simp only [List.getElem_cons_succ, List.getElem_cons_zero]; go_simp; (try with_reducible rfl))
        try simp only [List.getElem_cons_succ, List.getElem_cons_zero, Act.put, List.setIfInBounds_toArray, List.set_cons_zero, List.set_cons_succ]
        refine take_at 33 (by kernel_rfl) (v := ?v69) (by kernel_rfl) (by kernel_rfl) (by kernel_rfl) (fun _ _ _ h => h) (by rfl) ?y69 (by assumption) ?r69
        case y69 => (intro w hSw; (try dsimp only at hSw); simp only [List.getElem_cons_succ, List.getElem_cons_zero]; go_simp; (try with_reducible rfl))
        try simp only [List.getElem_cons_succ, List.getElem_cons_zero, Act.put, List.setIfInBounds_toArray, List.set_cons_zero, List.set_cons_succ]
        refine take_at 34 (by kernel_rfl) (v := ?v70) (by kernel_rfl) (by kernel_rfl) (by kernel_rfl) (fun _ _ _ h => h) (by rfl) ?y70 (by assumption) ?r70
        case y70 => (intro w hSw; (try dsimp only at hSw); simp only [List.getElem_cons_succ, List.getElem_cons_zero]; go_simp; (try with_reducible rfl))
        try simp only [List.getElem_cons_succ, List.getElem_cons_zero, Act.put, List.setIfInBounds_toArray, List.set_cons_zero, List.set_cons_succ]
        refine take_at 35 (by kernel_rfl) (v := ?v71) (by kernel_rfl) (by kernel_rfl) (by kernel_rfl) (fun _ _ _ h => h) (by rfl) ?y71 (by assumption) ?r71
        case y71 => (intro w hSw; (try dsimp only at hSw); simp only [List.getElem_cons_succ, List.getElem_cons_zero]; go_simp; (try with_reducible rfl))
        try simp only [List.getElem_cons_succ, List.getElem_cons_zero, Act.put, List.setIfInBounds_toArray, List.set_cons_zero, List.set_cons_succ]
        refine take_at 36 (by kernel_rfl) (v := ?v72) (by kernel_rfl) (by kernel_rfl) (by kernel_rfl) (fun _ _ _ h => h) (by rfl) ?y72 (by assumption) ?r72
        case y72 => (intro w hSw; (try dsimp only at hSw); simp only [List.getElem_cons_succ, List.getElem_cons_zero]; go_simp; (try with_reducible rfl))
        try simp only [List.getElem_cons_succ, List.getElem_cons_zero, Act.put, List.setIfInBounds_toArray, List.set_cons_zero, List.set_cons_succ]
        refine wpAnyH_done (by kernel_rfl) ?_ _
        go_wp2_with fail
        go_ret
        exact ⟨rfl, below_next B9.out hb119⟩
    · intro K hK
      simp only [List.getElem_cons_succ, List.getElem_cons_zero]
      go_simp
      have A120 : GoodN (w102.alloc (.cells #[.int .i64 1, .int .i64 3] 3)) [1, 3] (some ⟨w102.heap.size, 0, none⟩) 2 := goodN_lit w102 [1, 3] 3 (by decide) (by decide)
      have b120 : Below w102.heap.size w102 (w102.alloc (.cells #[.int .i64 1, .int .i64 3] 3)) := (Below.refl _ _).alloc (Nat.le_refl _) _
      have hb120 := below_next hb102 b120
      have N102 := N102.on b120
      generalize hw120 : w102.alloc (.cells #[.int .i64 1, .int .i64 3] 3) = w120 at *
      refine hK.out _ _ ⟨(by (repeat (first | exact Below.refl _ _ | assumption | refine below_drew0 ?_ | refine below_alloc0 ?_ _))), E1.out _ (by (repeat (first | exact Below.refl _ _ | assumption | refine below_drew0 ?_ | refine below_alloc0 ?_ _)))⟩ (fun hHeld => ?_)
      clear hK K
      try simp only [List.getElem_cons_succ, List.getElem_cons_zero, Act.put, List.setIfInBounds_toArray, List.set_cons_zero, List.set_cons_succ]
      refine ready_at 3 (by kernel_rfl) (by kernel_rfl) (fun K hK => ?_)
      simp only [List.getElem_cons_succ, List.getElem_cons_zero]
      go_simp
      go_at_call 15
      refine (V.live [v1, v3] 2 _ 2 _ rfl (N102.good v_ok rfl (by omega)) (by omega)).mono ?_
      rw [live_ex]
      rintro e w121 ⟨r121, rfl, o121, b121⟩
      have hb121 : Below w9.heap.size w9 w121 := below_next hb120 b121
      obtain ⟨q121, c121, rfl, _, G121⟩ := o121.good (by decide)
      have f121a := G121.le
      have f121b := G121.max
      simp only [List.length_cons, List.length_nil] at f121a
      clear o121
      have A120 := A120.below b121
      (try go_wp2_with fail)
      refine hK.out _ _ ⟨(by (repeat (first | exact Below.refl _ _ | assumption | refine below_drew0 ?_ | refine below_alloc0 ?_ _))), E1.out _ (by (repeat (first | exact Below.refl _ _ | assumption | refine below_drew0 ?_ | refine below_alloc0 ?_ _)))⟩ (fun hHeld => ?_)
      clear hK K
      try simp only [List.getElem_cons_succ, List.getElem_cons_zero, Act.put, List.setIfInBounds_toArray, List.set_cons_zero, List.set_cons_succ]
      refine ready_at 5 (by kernel_rfl) (by kernel_rfl) (fun K hK => ?_)
      simp only [List.getElem_cons_succ, List.getElem_cons_zero]
      go_simp
      go_at_call 17
      refine (sameN_any [1, 3] [1, 3] 2 2 _ _ _ 2 _ rfl rfl G121 A120).mono ?_
      rintro e _ ⟨rfl, m122, rfl⟩
      have hb122 : Below w9.heap.size w9 (w121.drewN m122) := below_drewN hb121 m122
      generalize w121.drewN m122 = w122 at *
      (try go_wp2_with fail)
      refine hK.out _ _ ⟨(by (repeat (first | exact Below.refl _ _ | assumption | refine below_drew0 ?_ | refine below_alloc0 ?_ _))), E1.out _ (by (repeat (first | exact Below.refl _ _ | assumption | refine below_drew0 ?_ | refine below_alloc0 ?_ _)))⟩ (fun hHeld => ?_)
      clear hK K
      try simp only [List.getElem_cons_succ, List.getElem_cons_zero, Act.put, List.setIfInBounds_toArray, List.set_cons_zero, List.set_cons_succ]
      refine take_at 6 (by kernel_rfl) (v := ?v73) (by kernel_rfl) (by kernel_rfl) (by kernel_rfl) (fun _ _ _ h => h) (by rfl) ?y73 (by assumption) ?r73
      case y73 => (intro w hSw; (try dsimp only at hSw); simp only [List.getElem_cons_succ, List.getElem_cons_zero]; go_simp; (try with_reducible rfl))
      try simp only [List.getElem_cons_succ, List.getElem_cons_zero, Act.put, List.setIfInBounds_toArray, List.set_cons_zero, List.set_cons_succ]
      refine take_at 7 (by kernel_rfl) (v := ?v74) (by kernel_rfl) (by kernel_rfl) (by kernel_rfl) (fun _ _ _ h => h) (by rfl) ?y74 (by assumption) ?r74
      case y74 => (intro w hSw; (try dsimp only at hSw); simp only [List.getElem_cons_succ, List.getElem_cons_zero]; go_simp; (try with_reducible rfl))
      try simp only [List.getElem_cons_succ, List.getElem_cons_zero, Act.put, List.setIfInBounds_toArray, List.set_cons_zero, List.set_cons_succ]
      refine ready2_at 8 10 (by kernel_rfl) (by kernel_rfl) (by kernel_rfl) ?_ ?_
      · intro K hK
        simp only [List.getElem_cons_succ, List.getElem_cons_zero]
        go_simp
        go_at_call 25
        refine (two_any _).mono ?_
        rintro e w123 ⟨g123, rfl, N123⟩
        have hb123 : Below w9.heap.size w9 w123 := below_next hb122 N123.below
        (try go_wp2_with fail)
        refine hK.out _ _ ⟨(by (repeat (first | exact Below.refl _ _ | assumption | refine below_drew0 ?_ | refine below_alloc0 ?_ _))), E1.out _ (by (repeat (first | exact Below.refl _ _ | assumption | refine below_drew0 ?_ | refine below_alloc0 ?_ _)))⟩ (fun hHeld => ?_)
        clear hK K
        try simp only [List.getElem_cons_succ, List.getElem_cons_zero, Act.put, List.setIfInBounds_toArray, List.set_cons_zero, List.set_cons_succ]
        refine ready2_at 9 10 (by kernel_rfl) (by kernel_rfl) (by kernel_rfl) ?_ ?_
        · intro K hK
          simp only [List.getElem_cons_succ, List.getElem_cons_zero]
          go_simp
          go_at_call 16
          refine (V.alive [v1, v3] 2 _ 2 _ rfl (N123.good v_ok rfl (by omega)) (by omega)).mono ?_
          rw [alive_ex]
          rintro e w124 ⟨r124, rfl, o124, b124⟩
          have hb124 : Below w9.heap.size w9 w124 := below_next hb123 b124
          obtain ⟨q124, c124, rfl, _, G124⟩ := o124.good (by decide)
          have f124a := G124.le
          have f124b := G124.max
          simp only [List.length_cons, List.length_nil] at f124a
          clear o124
          (try go_wp2_with fail)
          refine hK.out _ _ ⟨(by (repeat (first | exact Below.refl _ _ | assumption | refine below_drew0 ?_ | refine below_alloc0 ?_ _))), E1.out _ (by (repeat (first | exact Below.refl _ _ | assumption | refine below_drew0 ?_ | refine below_alloc0 ?_ _)))⟩ (fun hHeld => ?_)
          clear hK K
          try simp only [List.getElem_cons_succ, List.getElem_cons_zero, Act.put, List.setIfInBounds_toArray, List.set_cons_zero, List.set_cons_succ]
          refine ready_at 10 (by kernel_rfl) (by kernel_rfl) (fun K hK => ?_)
          simp only [List.getElem_cons_succ, List.getElem_cons_zero]
          go_simp
          have A125 : GoodN (w124.alloc (.cells #[.int .i64 1] 3)) [1] (some ⟨w124.heap.size, 0, none⟩) 1 := goodN_lit w124 [1] 3 (by decide) (by decide)
          have b125 : Below w124.heap.size w124 (w124.alloc (.cells #[.int .i64 1] 3)) := (Below.refl _ _).alloc (Nat.le_refl _) _
          have hb125 := below_next hb124 b125
          have G124 := G124.below b125
          generalize hw125 : w124.alloc (.cells #[.int .i64 1] 3) = w125 at *
          refine hK.out _ _ ⟨(by (repeat (first | exact Below.refl _ _ | assumption | refine below_drew0 ?_ | refine below_alloc0 ?_ _))), E1.out _ (by (repeat (first | exact Below.refl _ _ | assumption | refine below_drew0 ?_ | refine below_alloc0 ?_ _)))⟩ (fun hHeld => ?_)
          clear hK K
          try simp only [List.getElem_cons_succ, List.getElem_cons_zero, Act.put, List.setIfInBounds_toArray, List.set_cons_zero, List.set_cons_succ]
          refine ready_at 11 (by kernel_rfl) (by kernel_rfl) (fun K hK => ?_)
          simp only [List.getElem_cons_succ, List.getElem_cons_zero]
          go_simp
          go_at_call 17
          refine (sameN_any [1] [1] 1 1 _ _ _ 1 _ rfl rfl G124 A125).mono ?_
          rintro e _ ⟨rfl, m126, rfl⟩
          have hb126 : Below w9.heap.size w9 (w125.drewN m126) := below_drewN hb125 m126
          generalize w125.drewN m126 = w126 at *
          (try go_wp2_with fail)
          refine hK.out _ _ ⟨(by (repeat (first | exact Below.refl _ _ | assumption | refine below_drew0 ?_ | refine below_alloc0 ?_ _))), E1.out _ (by (repeat (first | exact Below.refl _ _ | assumption | refine below_drew0 ?_ | refine below_alloc0 ?_ _)))⟩ (fun hHeld => ?_)
          clear hK K
          try simp only [List.getElem_cons_succ, List.getElem_cons_zero, Act.put, List.setIfInBounds_toArray, List.set_cons_zero, List.set_cons_succ]
          refine take_at 12 (by kernel_rfl) (v := ?v75) (by kernel_rfl) (by kernel_rfl) (by kernel_rfl) (fun _ _ _ h => h) (by rfl) ?y75 (by assumption) ?r75
          case y75 => (intro w hSw; (try dsimp only at hSw); simp only [List.getElem_cons_succ, List.getElem_cons_zero]; go_simp; (try with_reducible rfl))
          try simp only [List.getElem_cons_succ, List.getElem_cons_zero, Act.put, List.setIfInBounds_toArray, List.set_cons_zero, List.set_cons_succ]
          refine take_at 13 (by kernel_rfl) (v := ?v76) (by kernel_rfl) (by kernel_rfl) (by kernel_rfl) (fun _ _ _ h => h) (by rfl) ?y76 (by assumption) ?r76
          case y76 => (intro w hSw; (try dsimp only at hSw); simp only [List.getElem_cons_succ, List.getElem_cons_zero]; go_simp; (try with_reducible rfl))
          try simp only [List.getElem_cons_succ, List.getElem_cons_zero, Act.put, List.setIfInBounds_toArray, List.set_cons_zero, List.set_cons_succ]
          refine take_at 14 (by kernel_rfl) (v := ?v77) (by kernel_rfl) (by kernel_rfl) (by kernel_rfl) (fun _ _ _ h => h) (by rfl) ?y77 (by assumption) ?r77
          case y77 => (intro w hSw; (try dsimp only at hSw); simp only [List.getElem_cons_succ, List.getElem_cons_zero]; go_simp; (try with_reducible rfl))
          try simp only [List.getElem_cons_succ, List.getElem_cons_zero, Act.put, List.setIfInBounds_toArray, List.set_cons_zero, List.set_cons_succ]
          refine take_at 15 (by kernel_rfl) (v := ?v78) (by kernel_rfl) (by kernel_rfl) (by kernel_rfl) (fun _ _ _ h => h) (by rfl) ?y78 (by assumption) ?r78
          case y78 => (intro w hSw; (try dsimp only at hSw); simp only [List.getElem_cons_succ, List.getElem_cons_zero]; go_simp; (try with_reducible rfl))
          try simp only [List.getElem_cons_succ, List.getElem_cons_zero, Act.put, List.setIfInBounds_toArray, List.set_cons_zero, List.set_cons_succ]
          refine take_at 16 (by kernel_rfl) (v := ?v79) (by kernel_rfl) (by kernel_rfl) (by kernel_rfl) (fun _ _ _ h => h) (by rfl) ?y79 (by assumption) ?r79
          case y79 => (intro w hSw; (try dsimp only at hSw); simp only [List.getElem_cons_succ, List.getElem_cons_zero]; go_simp; (try with_reducible rfl))
          try simp only [List.getElem_cons_succ, List.getElem_cons_zero, Act.put, List.setIfInBounds_toArray, List.set_cons_zero, List.set_cons_succ]
          refine take_at 17 (by kernel_rfl) (v := ?v80) (by kernel_rfl) (by kernel_rfl) (by kernel_rfl) (fun _ _ _ h => h) (by rfl) ?y80 (by assumption) ?r80
          case y80 => (intro w hSw; (try dsimp only at hSw); simp only [List.getElem_cons_succ, List.getElem_cons_zero]; go_simp; (try with_reducible rfl))
          try simp only [List.getElem_cons_succ, List.getElem_cons_zero, Act.put, List.setIfInBounds_toArray, List.set_cons_zero, List.set_cons_succ]
          refine take_at 18 (by kernel_rfl) (v := ?v81) (by kernel_rfl) (by kernel_rfl) (by kernel_rfl) (fun _ _ _ h => h) (by rfl) ?y81 (by assumption) ?r81
          case y81 => (intro w hSw; (try dsimp only at hSw); simp only [List.getElem_cons_succ, List.getElem_cons_zero]; go_simp; (try with_reducible rfl))
          try simp only [List.getElem_cons_succ, List.getElem_cons_zero, Act.put, List.setIfInBounds_toArray, List.set_cons_zero, List.set_cons_succ]
          refine ready_at 19 (by kernel_rfl) (by kernel_rfl) (fun K hK => ?_)
          simp only [List.getElem_cons_succ, List.getElem_cons_zero]
          go_simp
          go_at_call 25
          refine (two_any _).mono ?_
          rintro e w127 ⟨g127, rfl, N127⟩
          have hb127 : Below w9.heap.size w9 w127 := below_next hb126 N127.below
          have l127 : (loadM mt (.pointer (some ⟨g127, 3, none⟩))).run Try.prog w127 = .ok (.value (mv v3)) w127 := N127.load 1 (by decide)
          (try go_wp2_with fail)
          refine hK.out _ _ ⟨(by (repeat (first | exact Below.refl _ _ | assumption | refine below_drew0 ?_ | refine below_alloc0 ?_ _))), E1.out _ (by (repeat (first | exact Below.refl _ _ | assumption | refine below_drew0 ?_ | refine below_alloc0 ?_ _)))⟩ (fun hHeld => ?_)
          clear hK K
          try simp only [List.getElem_cons_succ, List.getElem_cons_zero, Act.put, List.setIfInBounds_toArray, List.set_cons_zero, List.set_cons_succ]
          refine take_at 20 (by kernel_rfl) (v := ?v82) (by kernel_rfl) (by kernel_rfl) (by kernel_rfl) (fun _ _ _ h => h) (by rfl) ?y82 (by assumption) ?r82
          case y82 => (intro w hSw; (try dsimp only at hSw); simp only [List.getElem_cons_succ, List.getElem_cons_zero]; go_simp; (try with_reducible rfl))
          try simp only [List.getElem_cons_succ, List.getElem_cons_zero, Act.put, List.setIfInBounds_toArray, List.set_cons_zero, List.set_cons_succ]
          refine ready_at 21 (by kernel_rfl) (by kernel_rfl) (fun K hK => ?_)
          simp only [List.getElem_cons_succ, List.getElem_cons_zero]
          go_simp
          refine hK.out _ _ ⟨(by (repeat (first | exact Below.refl _ _ | assumption | refine below_drew0 ?_ | refine below_alloc0 ?_ _))), E1.out _ (by (repeat (first | exact Below.refl _ _ | assumption | refine below_drew0 ?_ | refine below_alloc0 ?_ _)))⟩ (fun hHeld => ?_)
          clear hK K
          try simp only [List.getElem_cons_succ, List.getElem_cons_zero, Act.put, List.setIfInBounds_toArray, List.set_cons_zero, List.set_cons_succ]
          refine take_at 22 (by kernel_rfl) (v := ?v83) (by kernel_rfl) (by kernel_rfl) (by kernel_rfl) (fun _ _ _ h => h) (by rfl) ?y83 (by assumption) ?r83
          case y83 => (intro w hSw; (try dsimp only at hSw); simp only [List.getElem_cons_succ, List.getElem_cons_zero]; go_simp; (try with_reducible rfl))
          try simp only [List.getElem_cons_succ, List.getElem_cons_zero, Act.put, List.setIfInBounds_toArray, List.set_cons_zero, List.set_cons_succ]
          refine take_at 23 (by kernel_rfl) (v := ?v84) (by kernel_rfl) (by kernel_rfl) (by kernel_rfl) (fun _ _ _ h => h) (by rfl) ?y84 (by assumption) ?r84
          case y84 => (intro w hSw; (try dsimp only at hSw); simp only [List.getElem_cons_succ, List.getElem_cons_zero]; go_simp; (try with_reducible rfl))
          try simp only [List.getElem_cons_succ, List.getElem_cons_zero, Act.put, List.setIfInBounds_toArray, List.set_cons_zero, List.set_cons_succ]
          refine take_at 24 (by kernel_rfl) (v := ?v85) (by kernel_rfl) (by kernel_rfl) (by kernel_rfl) (fun _ _ _ h => h) (by rfl) ?y85 (by assumption) ?r85
          case y85 => (intro w hSw; (try dsimp only at hSw); simp only [List.getElem_cons_succ, List.getElem_cons_zero]; go_simp; (try with_reducible rfl))
          try simp only [List.getElem_cons_succ, List.getElem_cons_zero, Act.put, List.setIfInBounds_toArray, List.set_cons_zero, List.set_cons_succ]
          refine take_at 25 (by kernel_rfl) (v := ?v86) (by kernel_rfl) (by kernel_rfl) (by kernel_rfl) (fun _ _ _ h => h) (by rfl) ?y86 (by assumption) ?r86
          case y86 => (intro w hSw; (try dsimp only at hSw); simp only [List.getElem_cons_succ, List.getElem_cons_zero]; go_simp; (try with_reducible rfl))
          try simp only [List.getElem_cons_succ, List.getElem_cons_zero, Act.put, List.setIfInBounds_toArray, List.set_cons_zero, List.set_cons_succ]
          refine take_at 26 (by kernel_rfl) (v := ?v87) (by kernel_rfl) (by kernel_rfl) (by kernel_rfl) (fun _ _ _ h => h) (by rfl) ?y87 (by assumption) ?r87
          case y87 => (intro w hSw; (try dsimp only at hSw); simp only [List.getElem_cons_succ, List.getElem_cons_zero]; go_simp; (try with_reducible rfl))
          try simp only [List.getElem_cons_succ, List.getElem_cons_zero, Act.put, List.setIfInBounds_toArray, List.set_cons_zero, List.set_cons_succ]
          refine take_at 27 (by kernel_rfl) (v := ?v88) (by kernel_rfl) (by kernel_rfl) (by kernel_rfl) (fun _ _ _ h => h) (by rfl) ?y88 (by assumption) ?r88
          case y88 => (intro w hSw; (try dsimp only at hSw); simp only [List.getElem_cons_succ, List.getElem_cons_zero]; go_simp; (try with_reducible rfl))
          try simp only [List.getElem_cons_succ, List.getElem_cons_zero, Act.put, List.setIfInBounds_toArray, List.set_cons_zero, List.set_cons_succ]
          refine take_at 28 (by kernel_rfl) (v := ?v89) (by kernel_rfl) (by kernel_rfl) (by kernel_rfl) (fun _ _ _ h => h) (by rfl) ?y89 (by assumption) ?r89
          case y89 => (intro w hSw; (try dsimp only at hSw); simp only [List.getElem_cons_succ, List.getElem_cons_zero]; go_simp; (try with_reducible rfl))
          try simp only [List.getElem_cons_succ, List.getElem_cons_zero, Act.put, List.setIfInBounds_toArray, List.set_cons_zero, List.set_cons_succ]
          refine take_at 29 (by kernel_rfl) (v := ?v90) (by kernel_rfl) (by kernel_rfl) (by kernel_rfl) (fun _ _ _ h => h) (by rfl) ?y90 (by assumption) ?r90
          case y90 => (intro w hSw; (try dsimp only at hSw); simp only [List.getElem_cons_succ, List.getElem_cons_zero]; go_simp; (try with_reducible rfl))
          try simp only [List.getElem_cons_succ, List.getElem_cons_zero, Act.put, List.setIfInBounds_toArray, List.set_cons_zero, List.set_cons_succ]
          refine take_at 30 (by kernel_rfl) (v := ?v91) (by kernel_rfl) (by kernel_rfl) (by kernel_rfl) (fun _ _ _ h => h) (by rfl) ?y91 (by assumption) ?r91
          case y91 => (intro w hSw; (try dsimp only at hSw); simp only [List.getElem_cons_succ, List.getElem_cons_zero]; go_simp; (try with_reducible rfl))
          try simp only [List.getElem_cons_succ, List.getElem_cons_zero, Act.put, List.setIfInBounds_toArray, List.set_cons_zero, List.set_cons_succ]
          refine take_at 31 (by kernel_rfl) (v := ?v92) (by kernel_rfl) (by kernel_rfl) (by kernel_rfl) (fun _ _ _ h => h) (by rfl) ?y92 (by assumption) ?r92
          case y92 => (intro w hSw; (try dsimp only at hSw); simp only [List.getElem_cons_succ, List.getElem_cons_zero]; go_simp; (try with_reducible rfl))
          try simp only [List.getElem_cons_succ, List.getElem_cons_zero, Act.put, List.setIfInBounds_toArray, List.set_cons_zero, List.set_cons_succ]
          refine take_at 32 (by kernel_rfl) (v := ?v93) (by kernel_rfl) (by kernel_rfl) (by kernel_rfl) (fun _ _ _ h => h) (by rfl) ?y93 (by assumption) ?r93
          case y93 => (intro w hSw; (try dsimp only at hSw); simp only [List.getElem_cons_succ, List.getElem_cons_zero]; go_simp; (try with_reducible rfl))
          try simp only [List.getElem_cons_succ, List.getElem_cons_zero, Act.put, List.setIfInBounds_toArray, List.set_cons_zero, List.set_cons_succ]
          refine take_at 33 (by kernel_rfl) (v := ?v94) (by kernel_rfl) (by kernel_rfl) (by kernel_rfl) (fun _ _ _ h => h) (by rfl) ?y94 (by assumption) ?r94
          case y94 => (intro w hSw; (try dsimp only at hSw); simp only [List.getElem_cons_succ, List.getElem_cons_zero]; go_simp; (try with_reducible rfl))
          try simp only [List.getElem_cons_succ, List.getElem_cons_zero, Act.put, List.setIfInBounds_toArray, List.set_cons_zero, List.set_cons_succ]
          refine take_at 34 (by kernel_rfl) (v := ?v95) (by kernel_rfl) (by kernel_rfl) (by kernel_rfl) (fun _ _ _ h => h) (by rfl) ?y95 (by assumption) ?r95
          case y95 => (intro w hSw; (try dsimp only at hSw); simp only [List.getElem_cons_succ, List.getElem_cons_zero]; go_simp; (try with_reducible rfl))
          try simp only [List.getElem_cons_succ, List.getElem_cons_zero, Act.put, List.setIfInBounds_toArray, List.set_cons_zero, List.set_cons_succ]
          refine take_at 35 (by kernel_rfl) (v := ?v96) (by kernel_rfl) (by kernel_rfl) (by kernel_rfl) (fun _ _ _ h => h) (by rfl) ?y96 (by assumption) ?r96
          case y96 => (intro w hSw; (try dsimp only at hSw); simp only [List.getElem_cons_succ, List.getElem_cons_zero]; go_simp; (try with_reducible rfl))
          try simp only [List.getElem_cons_succ, List.getElem_cons_zero, Act.put, List.setIfInBounds_toArray, List.set_cons_zero, List.set_cons_succ]
          refine take_at 36 (by kernel_rfl) (v := ?v97) (by kernel_rfl) (by kernel_rfl) (by kernel_rfl) (fun _ _ _ h => h) (by rfl) ?y97 (by assumption) ?r97
          case y97 => (intro w hSw; (try dsimp only at hSw); simp only [List.getElem_cons_succ, List.getElem_cons_zero]; go_simp; (try with_reducible rfl))
          try simp only [List.getElem_cons_succ, List.getElem_cons_zero, Act.put, List.setIfInBounds_toArray, List.set_cons_zero, List.set_cons_succ]
          refine wpAnyH_done (by kernel_rfl) ?_ _
          go_wp2_with fail
          go_ret
          exact ⟨rfl, below_next B9.out hb127⟩
        · intro K hK
          simp only [List.getElem_cons_succ, List.getElem_cons_zero]
          go_simp
          have A128 : GoodN (w123.alloc (.cells #[.int .i64 1] 3)) [1] (some ⟨w123.heap.size, 0, none⟩) 1 := goodN_lit w123 [1] 3 (by decide) (by decide)
          have b128 : Below w123.heap.size w123 (w123.alloc (.cells #[.int .i64 1] 3)) := (Below.refl _ _).alloc (Nat.le_refl _) _
          have hb128 := below_next hb123 b128
          have N123 := N123.on b128
          generalize hw128 : w123.alloc (.cells #[.int .i64 1] 3) = w128 at *
          refine hK.out _ _ ⟨(by (repeat (first | exact Below.refl _ _ | assumption | refine below_drew0 ?_ | refine below_alloc0 ?_ _))), E1.out _ (by (repeat (first | exact Below.refl _ _ | assumption | refine below_drew0 ?_ | refine below_alloc0 ?_ _)))⟩ (fun hHeld => ?_)
          clear hK K
          try simp only [List.getElem_cons_succ, List.getElem_cons_zero, Act.put, List.setIfInBounds_toArray, List.set_cons_zero, List.set_cons_succ]
          refine ready_at 9 (by kernel_rfl) (by kernel_rfl) (fun K hK => ?_)
          simp only [List.getElem_cons_succ, List.getElem_cons_zero]
          go_simp
          go_at_call 16
          refine (V.alive [v1, v3] 2 _ 2 _ rfl (N123.good v_ok rfl (by omega)) (by omega)).mono ?_
          rw [alive_ex]
          rintro e w129 ⟨r129, rfl, o129, b129⟩
          have hb129 : Below w9.heap.size w9 w129 := below_next hb128 b129
          obtain ⟨q129, c129, rfl, _, G129⟩ := o129.good (by decide)
          have f129a := G129.le
          have f129b := G129.max
          simp only [List.length_cons, List.length_nil] at f129a
          clear o129
          have A128 := A128.below b129
          (try go_wp2_with fail)
          refine hK.out _ _ ⟨(by (repeat (first | exact Below.refl _ _ | assumption | refine below_drew0 ?_ | refine below_alloc0 ?_ _))), E1.out _ (by (repeat (first | exact Below.refl _ _ | assumption | refine below_drew0 ?_ | refine below_alloc0 ?_ _)))⟩ (fun hHeld => ?_)
          clear hK K
          try simp only [List.getElem_cons_succ, List.getElem_cons_zero, Act.put, List.setIfInBounds_toArray, List.set_cons_zero, List.set_cons_succ]
          refine ready_at 11 (by kernel_rfl) (by kernel_rfl) (fun K hK => ?_)
          simp only [List.getElem_cons_succ, List.getElem_cons_zero]
          go_simp
          go_at_call 17
          refine (sameN_any [1] [1] 1 1 _ _ _ 1 _ rfl rfl G129 A128).mono ?_
          rintro e _ ⟨rfl, m130, rfl⟩
          have hb130 : Below w9.heap.size w9 (w129.drewN m130) := below_drewN hb129 m130
          generalize w129.drewN m130 = w130 at *
          (try go_wp2_with fail)
          refine hK.out _ _ ⟨(by (repeat (first | exact Below.refl _ _ | assumption | refine below_drew0 ?_ | refine below_alloc0 ?_ _))), E1.out _ (by (repeat (first | exact Below.refl _ _ | assumption | refine below_drew0 ?_ | refine below_alloc0 ?_ _)))⟩ (fun hHeld => ?_)
          clear hK K
          try simp only [List.getElem_cons_succ, List.getElem_cons_zero, Act.put, List.setIfInBounds_toArray, List.set_cons_zero, List.set_cons_succ]
          refine take_at 12 (by kernel_rfl) (v := ?v98) (by kernel_rfl) (by kernel_rfl) (by kernel_rfl) (fun _ _ _ h => h) (by rfl) ?y98 (by assumption) ?r98
          case y98 => (intro w hSw; (try dsimp only at hSw); simp only [List.getElem_cons_succ, List.getElem_cons_zero]; go_simp; (try with_reducible rfl))
          try simp only [List.getElem_cons_succ, List.getElem_cons_zero, Act.put, List.setIfInBounds_toArray, List.set_cons_zero, List.set_cons_succ]
          refine take_at 13 (by kernel_rfl) (v := ?v99) (by kernel_rfl) (by kernel_rfl) (by kernel_rfl) (fun _ _ _ h => h) (by rfl) ?y99 (by assumption) ?r99
          case y99 => (intro w hSw; (try dsimp only at hSw); simp only [List.getElem_cons_succ, List.getElem_cons_zero]; go_simp; (try with_reducible rfl))
          try simp only [List.getElem_cons_succ, List.getElem_cons_zero, Act.put, List.setIfInBounds_toArray, List.set_cons_zero, List.set_cons_succ]
          refine take_at 14 (by kernel_rfl) (v := ?v100) (by kernel_rfl) (by kernel_rfl) (by kernel_rfl) (fun _ _ _ h => h) (by rfl) ?y100 (by assumption) ?r100
          case y100 => (intro w hSw; (try dsimp only at hSw); simp only [List.getElem_cons_succ, List.getElem_cons_zero]; go_simp; (try with_reducible rfl))
          try simp only [List.getElem_cons_succ, List.getElem_cons_zero, Act.put, List.setIfInBounds_toArray, List.set_cons_zero, List.set_cons_succ]
          refine take_at 15 (by kernel_rfl) (v := ?v101) (by kernel_rfl) (by kernel_rfl) (by kernel_rfl) (fun _ _ _ h => h) (by rfl) ?y101 (by assumption) ?r101
          case y101 => (intro w hSw; (try dsimp only at hSw); simp only [List.getElem_cons_succ, List.getElem_cons_zero]; go_simp; (try with_reducible rfl))
          try simp only [List.getElem_cons_succ, List.getElem_cons_zero, Act.put, List.setIfInBounds_toArray, List.set_cons_zero, List.set_cons_succ]
          refine take_at 16 (by kernel_rfl) (v := ?v102) (by kernel_rfl) (by kernel_rfl) (by kernel_rfl) (fun _ _ _ h => h) (by rfl) ?y102 (by assumption) ?r102
          case y102 => (intro w hSw; (try dsimp only at hSw); simp only [List.getElem_cons_succ, List.getElem_cons_zero]; go_simp; (try with_reducible rfl))
          try simp only [List.getElem_cons_succ, List.getElem_cons_zero, Act.put, List.setIfInBounds_toArray, List.set_cons_zero, List.set_cons_succ]
          refine take_at 17 (by kernel_rfl) (v := ?v103) (by kernel_rfl) (by kernel_rfl) (by kernel_rfl) (fun _ _ _ h => h) (by rfl) ?y103 (by assumption) ?r103
          case y103 => (intro w hSw; (try dsimp only at hSw); simp only [List.getElem_cons_succ, List.getElem_cons_zero]; go_simp; (try with_reducible rfl))
          try simp only [List.getElem_cons_succ, List.getElem_cons_zero, Act.put, List.setIfInBounds_toArray, List.set_cons_zero, List.set_cons_succ]
          refine take_at 18 (by kernel_rfl) (v := ?v104) (by kernel_rfl) (by kernel_rfl) (by kernel_rfl) (fun _ _ _ h => h) (by rfl) ?y104 (by assumption) ?r104
          case y104 => (intro w hSw; (try dsimp only at hSw); simp only [List.getElem_cons_succ, List.getElem_cons_zero]; go_simp; (try with_reducible rfl))
          try simp only [List.getElem_cons_succ, List.getElem_cons_zero, Act.put, List.setIfInBounds_toArray, List.set_cons_zero, List.set_cons_succ]
          refine ready_at 19 (by kernel_rfl) (by kernel_rfl) (fun K hK => ?_)
          simp only [List.getElem_cons_succ, List.getElem_cons_zero]
          go_simp
          go_at_call 25
          refine (two_any _).mono ?_
          rintro e w131 ⟨g131, rfl, N131⟩
          have hb131 : Below w9.heap.size w9 w131 := below_next hb130 N131.below
          have l131 : (loadM mt (.pointer (some ⟨g131, 3, none⟩))).run Try.prog w131 = .ok (.value (mv v3)) w131 := N131.load 1 (by decide)
          (try go_wp2_with fail)
          refine hK.out _ _ ⟨(by (repeat (first | exact Below.refl _ _ | assumption | refine below_drew0 ?_ | refine below_alloc0 ?_ _))), E1.out _ (by (repeat (first | exact Below.refl _ _ | assumption | refine below_drew0 ?_ | refine below_alloc0 ?_ _)))⟩ (fun hHeld => ?_)
          clear hK K
          try simp only [List.getElem_cons_succ, List.getElem_cons_zero, Act.put, List.setIfInBounds_toArray, List.set_cons_zero, List.set_cons_succ]
          refine take_at 20 (by kernel_rfl) (v := ?v105) (by kernel_rfl) (by kernel_rfl) (by kernel_rfl) (fun _ _ _ h => h) (by rfl) ?y105 (by assumption) ?r105
          case y105 => (intro w hSw; (try dsimp only at hSw); simp only [List.getElem_cons_succ, List.getElem_cons_zero]; go_simp; (try with_reducible rfl))
          try simp only [List.getElem_cons_succ, List.getElem_cons_zero, Act.put, List.setIfInBounds_toArray, List.set_cons_zero, List.set_cons_succ]
          refine ready_at 21 (by kernel_rfl) (by kernel_rfl) (fun K hK => ?_)
          simp only [List.getElem_cons_succ, List.getElem_cons_zero]
          go_simp
          refine hK.out _ _ ⟨(by (repeat (first | exact Below.refl _ _ | assumption | refine below_drew0 ?_ | refine below_alloc0 ?_ _))), E1.out _ (by (repeat (first | exact Below.refl _ _ | assumption | refine below_drew0 ?_ | refine below_alloc0 ?_ _)))⟩ (fun hHeld => ?_)
          clear hK K
          try simp only [List.getElem_cons_succ, List.getElem_cons_zero, Act.put, List.setIfInBounds_toArray, List.set_cons_zero, List.set_cons_succ]
          refine take_at 22 (by kernel_rfl) (v := ?v106) (by kernel_rfl) (by kernel_rfl) (by kernel_rfl) (fun _ _ _ h => h) (by rfl) ?y106 (by assumption) ?r106
          case y106 => (intro w hSw; (try dsimp only at hSw); simp only [List.getElem_cons_succ, List.getElem_cons_zero]; go_simp; (try with_reducible rfl))
          try simp only [List.getElem_cons_succ, List.getElem_cons_zero, Act.put, List.setIfInBounds_toArray, List.set_cons_zero, List.set_cons_succ]
          refine take_at 23 (by kernel_rfl) (v := ?v107) (by kernel_rfl) (by kernel_rfl) (by kernel_rfl) (fun _ _ _ h => h) (by rfl) ?y107 (by assumption) ?r107
          case y107 => (intro w hSw; (try dsimp only at hSw); simp only [List.getElem_cons_succ, List.getElem_cons_zero]; go_simp; (try with_reducible rfl))
          try simp only [List.getElem_cons_succ, List.getElem_cons_zero, Act.put, List.setIfInBounds_toArray, List.set_cons_zero, List.set_cons_succ]
          refine take_at 24 (by kernel_rfl) (v := ?v108) (by kernel_rfl) (by kernel_rfl) (by kernel_rfl) (fun _ _ _ h => h) (by rfl) ?y108 (by assumption) ?r108
          case y108 => (intro w hSw; (try dsimp only at hSw); simp only [List.getElem_cons_succ, List.getElem_cons_zero]; go_simp; (try with_reducible rfl))
          try simp only [List.getElem_cons_succ, List.getElem_cons_zero, Act.put, List.setIfInBounds_toArray, List.set_cons_zero, List.set_cons_succ]
          refine take_at 25 (by kernel_rfl) (v := ?v109) (by kernel_rfl) (by kernel_rfl) (by kernel_rfl) (fun _ _ _ h => h) (by rfl) ?y109 (by assumption) ?r109
          case y109 => (intro w hSw; (try dsimp only at hSw); simp only [List.getElem_cons_succ, List.getElem_cons_zero]; go_simp; (try with_reducible rfl))
          try simp only [List.getElem_cons_succ, List.getElem_cons_zero, Act.put, List.setIfInBounds_toArray, List.set_cons_zero, List.set_cons_succ]
          refine take_at 26 (by kernel_rfl) (v := ?v110) (by kernel_rfl) (by kernel_rfl) (by kernel_rfl) (fun _ _ _ h => h) (by rfl) ?y110 (by assumption) ?r110
          case y110 => (intro w hSw; (try dsimp only at hSw); simp only [List.getElem_cons_succ, List.getElem_cons_zero]; go_simp; (try with_reducible rfl))
          try simp only [List.getElem_cons_succ, List.getElem_cons_zero, Act.put, List.setIfInBounds_toArray, List.set_cons_zero, List.set_cons_succ]
          refine take_at 27 (by kernel_rfl) (v := ?v111) (by kernel_rfl) (by kernel_rfl) (by kernel_rfl) (fun _ _ _ h => h) (by rfl) ?y111 (by assumption) ?r111
          case y111 => (intro w hSw; (try dsimp only at hSw); simp only [List.getElem_cons_succ, List.getElem_cons_zero]; go_simp; (try with_reducible rfl))
          try simp only [List.getElem_cons_succ, List.getElem_cons_zero, Act.put, List.setIfInBounds_toArray, List.set_cons_zero, List.set_cons_succ]
          refine take_at 28 (by kernel_rfl) (v := ?v112) (by kernel_rfl) (by kernel_rfl) (by kernel_rfl) (fun _ _ _ h => h) (by rfl) ?y112 (by assumption) ?r112
          case y112 => (intro w hSw; (try dsimp only at hSw); simp only [List.getElem_cons_succ, List.getElem_cons_zero]; go_simp; (try with_reducible rfl))
          try simp only [List.getElem_cons_succ, List.getElem_cons_zero, Act.put, List.setIfInBounds_toArray, List.set_cons_zero, List.set_cons_succ]
          refine take_at 29 (by kernel_rfl) (v := ?v113) (by kernel_rfl) (by kernel_rfl) (by kernel_rfl) (fun _ _ _ h => h) (by rfl) ?y113 (by assumption) ?r113
          case y113 => (intro w hSw; (try dsimp only at hSw); simp only [List.getElem_cons_succ, List.getElem_cons_zero]; go_simp; (try with_reducible rfl))
          try simp only [List.getElem_cons_succ, List.getElem_cons_zero, Act.put, List.setIfInBounds_toArray, List.set_cons_zero, List.set_cons_succ]
          refine take_at 30 (by kernel_rfl) (v := ?v114) (by kernel_rfl) (by kernel_rfl) (by kernel_rfl) (fun _ _ _ h => h) (by rfl) ?y114 (by assumption) ?r114
          case y114 => (intro w hSw; (try dsimp only at hSw); simp only [List.getElem_cons_succ, List.getElem_cons_zero]; go_simp; (try with_reducible rfl))
          try simp only [List.getElem_cons_succ, List.getElem_cons_zero, Act.put, List.setIfInBounds_toArray, List.set_cons_zero, List.set_cons_succ]
          refine take_at 31 (by kernel_rfl) (v := ?v115) (by kernel_rfl) (by kernel_rfl) (by kernel_rfl) (fun _ _ _ h => h) (by rfl) ?y115 (by assumption) ?r115
          case y115 => (intro w hSw; (try dsimp only at hSw); simp only [List.getElem_cons_succ, List.getElem_cons_zero]; go_simp; (try with_reducible rfl))
          try simp only [List.getElem_cons_succ, List.getElem_cons_zero, Act.put, List.setIfInBounds_toArray, List.set_cons_zero, List.set_cons_succ]
          refine take_at 32 (by kernel_rfl) (v := ?v116) (by kernel_rfl) (by kernel_rfl) (by kernel_rfl) (fun _ _ _ h => h) (by rfl) ?y116 (by assumption) ?r116
          case y116 => (intro w hSw; (try dsimp only at hSw); simp only [List.getElem_cons_succ, List.getElem_cons_zero]; go_simp; (try with_reducible rfl))
          try simp only [List.getElem_cons_succ, List.getElem_cons_zero, Act.put, List.setIfInBounds_toArray, List.set_cons_zero, List.set_cons_succ]
          refine take_at 33 (by kernel_rfl) (v := ?v117) (by kernel_rfl) (by kernel_rfl) (by kernel_rfl) (fun _ _ _ h => h) (by rfl) ?y117 (by assumption) ?r117
          case y117 => (intro w hSw; (try dsimp only at hSw); simp only [List.getElem_cons_succ, List.getElem_cons_zero]; go_simp; (try with_reducible rfl))
          try simp only [List.getElem_cons_succ, List.getElem_cons_zero, Act.put, List.setIfInBounds_toArray, List.set_cons_zero, List.set_cons_succ]
          refine take_at 34 (by kernel_rfl) (v := ?v118) (by kernel_rfl) (by kernel_rfl) (by kernel_rfl) (fun _ _ _ h => h) (by rfl) ?y118 (by assumption) ?r118
          case y118 => (intro w hSw; (try dsimp only at hSw); simp only [List.getElem_cons_succ, List.getElem_cons_zero]; go_simp; (try with_reducible rfl))
          try simp only [List.getElem_cons_succ, List.getElem_cons_zero, Act.put, List.setIfInBounds_toArray, List.set_cons_zero, List.set_cons_succ]
          refine take_at 35 (by kernel_rfl) (v := ?v119) (by kernel_rfl) (by kernel_rfl) (by kernel_rfl) (fun _ _ _ h => h) (by rfl) ?y119 (by assumption) ?r119
          case y119 => (intro w hSw; (try dsimp only at hSw); simp only [List.getElem_cons_succ, List.getElem_cons_zero]; go_simp; (try with_reducible rfl))
          try simp only [List.getElem_cons_succ, List.getElem_cons_zero, Act.put, List.setIfInBounds_toArray, List.set_cons_zero, List.set_cons_succ]
          refine take_at 36 (by kernel_rfl) (v := ?v120) (by kernel_rfl) (by kernel_rfl) (by kernel_rfl) (fun _ _ _ h => h) (by rfl) ?y120 (by assumption) ?r120
          case y120 => (intro w hSw; (try dsimp only at hSw); simp only [List.getElem_cons_succ, List.getElem_cons_zero]; go_simp; (try with_reducible rfl))
          try simp only [List.getElem_cons_succ, List.getElem_cons_zero, Act.put, List.setIfInBounds_toArray, List.set_cons_zero, List.set_cons_succ]
          refine wpAnyH_done (by kernel_rfl) ?_ _
          go_wp2_with fail
          go_ret
          exact ⟨rfl, below_next B9.out hb131⟩
      · intro K hK
        simp only [List.getElem_cons_succ, List.getElem_cons_zero]
        go_simp
        have A132 : GoodN (w122.alloc (.cells #[.int .i64 1] 3)) [1] (some ⟨w122.heap.size, 0, none⟩) 1 := goodN_lit w122 [1] 3 (by decide) (by decide)
        have b132 : Below w122.heap.size w122 (w122.alloc (.cells #[.int .i64 1] 3)) := (Below.refl _ _).alloc (Nat.le_refl _) _
        have hb132 := below_next hb122 b132
        generalize hw132 : w122.alloc (.cells #[.int .i64 1] 3) = w132 at *
        refine hK.out _ _ ⟨(by (repeat (first | exact Below.refl _ _ | assumption | refine below_drew0 ?_ | refine below_alloc0 ?_ _))), E1.out _ (by (repeat (first | exact Below.refl _ _ | assumption | refine below_drew0 ?_ | refine below_alloc0 ?_ _)))⟩ (fun hHeld => ?_)
        clear hK K
        try simp only [List.getElem_cons_succ, List.getElem_cons_zero, Act.put, List.setIfInBounds_toArray, List.set_cons_zero, List.set_cons_succ]
        refine ready_at 8 (by kernel_rfl) (by kernel_rfl) (fun K hK => ?_)
        simp only [List.getElem_cons_succ, List.getElem_cons_zero]
        go_simp
        go_at_call 25
        refine (two_any _).mono ?_
        rintro e w133 ⟨g133, rfl, N133⟩
        have hb133 : Below w9.heap.size w9 w133 := below_next hb132 N133.below
        have A132 := A132.below N133.below
        (try go_wp2_with fail)
        refine hK.out _ _ ⟨(by (repeat (first | exact Below.refl _ _ | assumption | refine below_drew0 ?_ | refine below_alloc0 ?_ _))), E1.out _ (by (repeat (first | exact Below.refl _ _ | assumption | refine below_drew0 ?_ | refine below_alloc0 ?_ _)))⟩ (fun hHeld => ?_)
        clear hK K
        try simp only [List.getElem_cons_succ, List.getElem_cons_zero, Act.put, List.setIfInBounds_toArray, List.set_cons_zero, List.set_cons_succ]
        refine ready_at 9 (by kernel_rfl) (by kernel_rfl) (fun K hK => ?_)
        simp only [List.getElem_cons_succ, List.getElem_cons_zero]
        go_simp
        go_at_call 16
        refine (V.alive [v1, v3] 2 _ 2 _ rfl (N133.good v_ok rfl (by omega)) (by omega)).mono ?_
        rw [alive_ex]
        rintro e w134 ⟨r134, rfl, o134, b134⟩
        have hb134 : Below w9.heap.size w9 w134 := below_next hb133 b134
        obtain ⟨q134, c134, rfl, _, G134⟩ := o134.good (by decide)
        have f134a := G134.le
        have f134b := G134.max
        simp only [List.length_cons, List.length_nil] at f134a
        clear o134
        have A132 := A132.below b134
        (try go_wp2_with fail)
        refine hK.out _ _ ⟨(by (repeat (first | exact Below.refl _ _ | assumption | refine below_drew0 ?_ | refine below_alloc0 ?_ _))), E1.out _ (by (repeat (first | exact Below.refl _ _ | assumption | refine below_drew0 ?_ | refine below_alloc0 ?_ _)))⟩ (fun hHeld => ?_)
        clear hK K
        try simp only [List.getElem_cons_succ, List.getElem_cons_zero, Act.put, List.setIfInBounds_toArray, List.set_cons_zero, List.set_cons_succ]
        refine ready_at 11 (by kernel_rfl) (by kernel_rfl) (fun K hK => ?_)
        simp only [List.getElem_cons_succ, List.getElem_cons_zero]
        go_simp
        go_at_call 17
        refine (sameN_any [1] [1] 1 1 _ _ _ 1 _ rfl rfl G134 A132).mono ?_
        rintro e _ ⟨rfl, m135, rfl⟩
        have hb135 : Below w9.heap.size w9 (w134.drewN m135) := below_drewN hb134 m135
        generalize w134.drewN m135 = w135 at *
        (try go_wp2_with fail)
        refine hK.out _ _ ⟨(by (repeat (first | exact Below.refl _ _ | assumption | refine below_drew0 ?_ | refine below_alloc0 ?_ _))), E1.out _ (by (repeat (first | exact Below.refl _ _ | assumption | refine below_drew0 ?_ | refine below_alloc0 ?_ _)))⟩ (fun hHeld => ?_)
        clear hK K
        try simp only [List.getElem_cons_succ, List.getElem_cons_zero, Act.put, List.setIfInBounds_toArray, List.set_cons_zero, List.set_cons_succ]
        refine take_at 12 (by kernel_rfl) (v := ?v121) (by kernel_rfl) (by kernel_rfl) (by kernel_rfl) (fun _ _ _ h => h) (by rfl) ?y121 (by assumption) ?r121
        case y121 => (intro w hSw; (try dsimp only at hSw); simp only [List.getElem_cons_succ, List.getElem_cons_zero]; go_simp; (try with_reducible rfl))
        try simp only [List.getElem_cons_succ, List.getElem_cons_zero, Act.put, List.setIfInBounds_toArray, List.set_cons_zero, List.set_cons_succ]
        refine take_at 13 (by kernel_rfl) (v := ?v122) (by kernel_rfl) (by kernel_rfl) (by kernel_rfl) (fun _ _ _ h => h) (by rfl) ?y122 (by assumption) ?r122
        case y122 => (intro w hSw; (try dsimp only at hSw); simp only [List.getElem_cons_succ, List.getElem_cons_zero]; go_simp; (try with_reducible rfl))
        try simp only [List.getElem_cons_succ, List.getElem_cons_zero, Act.put, List.setIfInBounds_toArray, List.set_cons_zero, List.set_cons_succ]
        refine take_at 14 (by kernel_rfl) (v := ?v123) (by kernel_rfl) (by kernel_rfl) (by kernel_rfl) (fun _ _ _ h => h) (by rfl) ?y123 (by assumption) ?r123
        case y123 => (intro w hSw; (try dsimp only at hSw); simp only [List.getElem_cons_succ, List.getElem_cons_zero]; go_simp; (try with_reducible rfl))
        try simp only [List.getElem_cons_succ, List.getElem_cons_zero, Act.put, List.setIfInBounds_toArray, List.set_cons_zero, List.set_cons_succ]
        refine take_at 15 (by kernel_rfl) (v := ?v124) (by kernel_rfl) (by kernel_rfl) (by kernel_rfl) (fun _ _ _ h => h) (by rfl) ?y124 (by assumption) ?r124
        case y124 => (intro w hSw; (try dsimp only at hSw); simp only [List.getElem_cons_succ, List.getElem_cons_zero]; go_simp; (try with_reducible rfl))
        try simp only [List.getElem_cons_succ, List.getElem_cons_zero, Act.put, List.setIfInBounds_toArray, List.set_cons_zero, List.set_cons_succ]
        refine take_at 16 (by kernel_rfl) (v := ?v125) (by kernel_rfl) (by kernel_rfl) (by kernel_rfl) (fun _ _ _ h => h) (by rfl) ?y125 (by assumption) ?r125
        case y125 => (intro w hSw; (try dsimp only at hSw); simp only [List.getElem_cons_succ, List.getElem_cons_zero]; go_simp; (try with_reducible rfl))
        try simp only [List.getElem_cons_succ, List.getElem_cons_zero, Act.put, List.setIfInBounds_toArray, List.set_cons_zero, List.set_cons_succ]
        refine take_at 17 (by kernel_rfl) (v := ?v126) (by kernel_rfl) (by kernel_rfl) (by kernel_rfl) (fun _ _ _ h => h) (by rfl) ?y126 (by assumption) ?r126
        case y126 => (intro w hSw; (try dsimp only at hSw); simp only [List.getElem_cons_succ, List.getElem_cons_zero]; go_simp; (try with_reducible rfl))
        try simp only [List.getElem_cons_succ, List.getElem_cons_zero, Act.put, List.setIfInBounds_toArray, List.set_cons_zero, List.set_cons_succ]
        refine take_at 18 (by kernel_rfl) (v := ?v127) (by kernel_rfl) (by kernel_rfl) (by kernel_rfl) (fun _ _ _ h => h) (by rfl) ?y127 (by assumption) ?r127
        case y127 => (intro w hSw; (try dsimp only at hSw); simp only [List.getElem_cons_succ, List.getElem_cons_zero]; go_simp; (try with_reducible rfl))
        try simp only [List.getElem_cons_succ, List.getElem_cons_zero, Act.put, List.setIfInBounds_toArray, List.set_cons_zero, List.set_cons_succ]
        refine ready_at 19 (by kernel_rfl) (by kernel_rfl) (fun K hK => ?_)
        simp only [List.getElem_cons_succ, List.getElem_cons_zero]
        go_simp
        go_at_call 25
        refine (two_any _).mono ?_
        rintro e w136 ⟨g136, rfl, N136⟩
        have hb136 : Below w9.heap.size w9 w136 := below_next hb135 N136.below
        have l136 : (loadM mt (.pointer (some ⟨g136, 3, none⟩))).run Try.prog w136 = .ok (.value (mv v3)) w136 := N136.load 1 (by decide)
        (try go_wp2_with fail)
        refine hK.out _ _ ⟨(by (repeat (first | exact Below.refl _ _ | assumption | refine below_drew0 ?_ | refine below_alloc0 ?_ _))), E1.out _ (by (repeat (first | exact Below.refl _ _ | assumption | refine below_drew0 ?_ | refine below_alloc0 ?_ _)))⟩ (fun hHeld => ?_)
        clear hK K
        try simp only [List.getElem_cons_succ, List.getElem_cons_zero, Act.put, List.setIfInBounds_toArray, List.set_cons_zero, List.set_cons_succ]
        refine take_at 20 (by kernel_rfl) (v := ?v128) (by kernel_rfl) (by kernel_rfl) (by kernel_rfl) (fun _ _ _ h => h) (by rfl) ?y128 (by assumption) ?r128
        case y128 => (intro w hSw; (try dsimp only at hSw); simp only [List.getElem_cons_succ, List.getElem_cons_zero]; go_simp; (try with_reducible rfl))
        try simp only [List.getElem_cons_succ, List.getElem_cons_zero, Act.put, List.setIfInBounds_toArray, List.set_cons_zero, List.set_cons_succ]
        refine ready_at 21 (by kernel_rfl) (by kernel_rfl) (fun K hK => ?_)
        simp only [List.getElem_cons_succ, List.getElem_cons_zero]
        go_simp
        refine hK.out _ _ ⟨(by (repeat (first | exact Below.refl _ _ | assumption | refine below_drew0 ?_ | refine below_alloc0 ?_ _))), E1.out _ (by (repeat (first | exact Below.refl _ _ | assumption | refine below_drew0 ?_ | refine below_alloc0 ?_ _)))⟩ (fun hHeld => ?_)
        clear hK K
        try simp only [List.getElem_cons_succ, List.getElem_cons_zero, Act.put, List.setIfInBounds_toArray, List.set_cons_zero, List.set_cons_succ]
        refine take_at 22 (by kernel_rfl) (v := ?v129) (by kernel_rfl) (by kernel_rfl) (by kernel_rfl) (fun _ _ _ h => h) (by rfl) ?y129 (by assumption) ?r129
        case y129 => (intro w hSw; (try dsimp only at hSw); simp only [List.getElem_cons_succ, List.getElem_cons_zero]; go_simp; (try with_reducible rfl))
        try simp only [List.getElem_cons_succ, List.getElem_cons_zero, Act.put, List.setIfInBounds_toArray, List.set_cons_zero, List.set_cons_succ]
        refine take_at 23 (by kernel_rfl) (v := ?v130) (by kernel_rfl) (by kernel_rfl) (by kernel_rfl) (fun _ _ _ h => h) (by rfl) ?y130 (by assumption) ?r130
        case y130 => (intro w hSw; (try dsimp only at hSw); simp only [List.getElem_cons_succ, List.getElem_cons_zero]; go_simp; (try with_reducible rfl))
        try simp only [List.getElem_cons_succ, List.getElem_cons_zero, Act.put, List.setIfInBounds_toArray, List.set_cons_zero, List.set_cons_succ]
        refine take_at 24 (by kernel_rfl) (v := ?v131) (by kernel_rfl) (by kernel_rfl) (by kernel_rfl) (fun _ _ _ h => h) (by rfl) ?y131 (by assumption) ?r131
        case y131 => (intro w hSw; (try dsimp only at hSw); simp only [List.getElem_cons_succ, List.getElem_cons_zero]; go_simp; (try with_reducible rfl))
        try simp only [List.getElem_cons_succ, List.getElem_cons_zero, Act.put, List.setIfInBounds_toArray, List.set_cons_zero, List.set_cons_succ]
        refine take_at 25 (by kernel_rfl) (v := ?v132) (by kernel_rfl) (by kernel_rfl) (by kernel_rfl) (fun _ _ _ h => h) (by rfl) ?y132 (by assumption) ?r132
        case y132 => (intro w hSw; (try dsimp only at hSw); simp only [List.getElem_cons_succ, List.getElem_cons_zero]; go_simp; (try with_reducible rfl))
        try simp only [List.getElem_cons_succ, List.getElem_cons_zero, Act.put, List.setIfInBounds_toArray, List.set_cons_zero, List.set_cons_succ]
        refine take_at 26 (by kernel_rfl) (v := ?v133) (by kernel_rfl) (by kernel_rfl) (by kernel_rfl) (fun _ _ _ h => h) (by rfl) ?y133 (by assumption) ?r133
        case y133 => (intro w hSw; (try dsimp only at hSw); simp only [List.getElem_cons_succ, List.getElem_cons_zero]; go_simp; (try with_reducible rfl))
        try simp only [List.getElem_cons_succ, List.getElem_cons_zero, Act.put, List.setIfInBounds_toArray, List.set_cons_zero, List.set_cons_succ]
        refine take_at 27 (by kernel_rfl) (v := ?v134) (by kernel_rfl) (by kernel_rfl) (by kernel_rfl) (fun _ _ _ h => h) (by rfl) ?y134 (by assumption) ?r134
        case y134 => (intro w hSw; (try dsimp only at hSw); simp only [List.getElem_cons_succ, List.getElem_cons_zero]; go_simp; (try with_reducible rfl))
        try simp only [List.getElem_cons_succ, List.getElem_cons_zero, Act.put, List.setIfInBounds_toArray, List.set_cons_zero, List.set_cons_succ]
        refine take_at 28 (by kernel_rfl) (v := ?v135) (by kernel_rfl) (by kernel_rfl) (by kernel_rfl) (fun _ _ _ h => h) (by rfl) ?y135 (by assumption) ?r135
        case y135 => (intro w hSw; (try dsimp only at hSw); simp only [List.getElem_cons_succ, List.getElem_cons_zero]; go_simp; (try with_reducible rfl))
        try simp only [List.getElem_cons_succ, List.getElem_cons_zero, Act.put, List.setIfInBounds_toArray, List.set_cons_zero, List.set_cons_succ]
        refine take_at 29 (by kernel_rfl) (v := ?v136) (by kernel_rfl) (by kernel_rfl) (by kernel_rfl) (fun _ _ _ h => h) (by rfl) ?y136 (by assumption) ?r136
        case y136 => (intro w hSw; (try dsimp only at hSw); simp only [List.getElem_cons_succ, List.getElem_cons_zero]; go_simp; (try with_reducible rfl))
        try simp only [List.getElem_cons_succ, List.getElem_cons_zero, Act.put, List.setIfInBounds_toArray, List.set_cons_zero, List.set_cons_succ]
        refine take_at 30 (by kernel_rfl) (v := ?v137) (by kernel_rfl) (by kernel_rfl) (by kernel_rfl) (fun _ _ _ h => h) (by rfl) ?y137 (by assumption) ?r137
        case y137 => (intro w hSw; (try dsimp only at hSw); simp only [List.getElem_cons_succ, List.getElem_cons_zero]; go_simp; (try with_reducible rfl))
        try simp only [List.getElem_cons_succ, List.getElem_cons_zero, Act.put, List.setIfInBounds_toArray, List.set_cons_zero, List.set_cons_succ]
        refine take_at 31 (by kernel_rfl) (v := ?v138) (by kernel_rfl) (by kernel_rfl) (by kernel_rfl) (fun _ _ _ h => h) (by rfl) ?y138 (by assumption) ?r138
        case y138 => (intro w hSw; (try dsimp only at hSw); simp only [List.getElem_cons_succ, List.getElem_cons_zero]; go_simp; (try with_reducible rfl))
        try simp only [List.getElem_cons_succ, List.getElem_cons_zero, Act.put, List.setIfInBounds_toArray, List.set_cons_zero, List.set_cons_succ]
        refine take_at 32 (by kernel_rfl) (v := ?v139) (by kernel_rfl) (by kernel_rfl) (by kernel_rfl) (fun _ _ _ h => h) (by rfl) ?y139 (by assumption) ?r139
        case y139 => (intro w hSw; (try dsimp only at hSw); simp only [List.getElem_cons_succ, List.getElem_cons_zero]; go_simp; (try with_reducible rfl))
        try simp only [List.getElem_cons_succ, List.getElem_cons_zero, Act.put, List.setIfInBounds_toArray, List.set_cons_zero, List.set_cons_succ]
        refine take_at 33 (by kernel_rfl) (v := ?v140) (by kernel_rfl) (by kernel_rfl) (by kernel_rfl) (fun _ _ _ h => h) (by rfl) ?y140 (by assumption) ?r140
        case y140 => (intro w hSw; (try dsimp only at hSw); simp only [List.getElem_cons_succ, List.getElem_cons_zero]; go_simp; (try with_reducible rfl))
        try simp only [List.getElem_cons_succ, List.getElem_cons_zero, Act.put, List.setIfInBounds_toArray, List.set_cons_zero, List.set_cons_succ]
        refine take_at 34 (by kernel_rfl) (v := ?v141) (by kernel_rfl) (by kernel_rfl) (by kernel_rfl) (fun _ _ _ h => h) (by rfl) ?y141 (by assumption) ?r141
        case y141 => (intro w hSw; (try dsimp only at hSw); simp only [List.getElem_cons_succ, List.getElem_cons_zero]; go_simp; (try with_reducible rfl))
        try simp only [List.getElem_cons_succ, List.getElem_cons_zero, Act.put, List.setIfInBounds_toArray, List.set_cons_zero, List.set_cons_succ]
        refine take_at 35 (by kernel_rfl) (v := ?v142) (by kernel_rfl) (by kernel_rfl) (by kernel_rfl) (fun _ _ _ h => h) (by rfl) ?y142 (by assumption) ?r142
        case y142 => (intro w hSw; (try dsimp only at hSw); simp only [List.getElem_cons_succ, List.getElem_cons_zero]; go_simp; (try with_reducible rfl))
        try simp only [List.getElem_cons_succ, List.getElem_cons_zero, Act.put, List.setIfInBounds_toArray, List.set_cons_zero, List.set_cons_succ]
        refine take_at 36 (by kernel_rfl) (v := ?v143) (by kernel_rfl) (by kernel_rfl) (by kernel_rfl) (fun _ _ _ h => h) (by rfl) ?y143 (by assumption) ?r143
        case y143 => (intro w hSw; (try dsimp only at hSw); simp only [List.getElem_cons_succ, List.getElem_cons_zero]; go_simp; (try with_reducible rfl))
        try simp only [List.getElem_cons_succ, List.getElem_cons_zero, Act.put, List.setIfInBounds_toArray, List.set_cons_zero, List.set_cons_succ]
        refine wpAnyH_done (by kernel_rfl) ?_ _
        go_wp2_with fail
        go_ret
        exact ⟨rfl, below_next B9.out hb136⟩
  · intro K hK
    simp only [List.getElem_cons_succ, List.getElem_cons_zero]
    go_simp
    have A137 : GoodN (w101.alloc (.cells #[.int .i64 1, .int .i64 3] 3)) [1, 3] (some ⟨w101.heap.size, 0, none⟩) 2 := goodN_lit w101 [1, 3] 3 (by decide) (by decide)
    have b137 : Below w101.heap.size w101 (w101.alloc (.cells #[.int .i64 1, .int .i64 3] 3)) := (Below.refl _ _).alloc (Nat.le_refl _) _
    have hb137 := below_next hb101 b137
    generalize hw137 : w101.alloc (.cells #[.int .i64 1, .int .i64 3] 3) = w137 at *
    refine hK.out _ _ ⟨(by (repeat (first | exact Below.refl _ _ | assumption | refine below_drew0 ?_ | refine below_alloc0 ?_ _))), E1.out _ (by (repeat (first | exact Below.refl _ _ | assumption | refine below_drew0 ?_ | refine below_alloc0 ?_ _)))⟩ (fun hHeld => ?_)
    clear hK K
    try simp only [List.getElem_cons_succ, List.getElem_cons_zero, Act.put, List.setIfInBounds_toArray, List.set_cons_zero, List.set_cons_succ]
    refine ready_at 2 (by kernel_rfl) (by kernel_rfl) (fun K hK => ?_)
    simp only [List.getElem_cons_succ, List.getElem_cons_zero]
    go_simp
    go_at_call 25
    refine (two_any _).mono ?_
    rintro e w138 ⟨g138, rfl, N138⟩
    have hb138 : Below w9.heap.size w9 w138 := below_next hb137 N138.below
    have A137 := A137.below N138.below
    (try go_wp2_with fail)
    refine hK.out _ _ ⟨(by (repeat (first | exact Below.refl _ _ | assumption | refine below_drew0 ?_ | refine below_alloc0 ?_ _))), E1.out _ (by (repeat (first | exact Below.refl _ _ | assumption | refine below_drew0 ?_ | refine below_alloc0 ?_ _)))⟩ (fun hHeld => ?_)
    clear hK K
    try simp only [List.getElem_cons_succ, List.getElem_cons_zero, Act.put, List.setIfInBounds_toArray, List.set_cons_zero, List.set_cons_succ]
    refine ready_at 3 (by kernel_rfl) (by kernel_rfl) (fun K hK => ?_)
    simp only [List.getElem_cons_succ, List.getElem_cons_zero]
    go_simp
    go_at_call 15
    refine (V.live [v1, v3] 2 _ 2 _ rfl (N138.good v_ok rfl (by omega)) (by omega)).mono ?_
    rw [live_ex]
    rintro e w139 ⟨r139, rfl, o139, b139⟩
    have hb139 : Below w9.heap.size w9 w139 := below_next hb138 b139
    obtain ⟨q139, c139, rfl, _, G139⟩ := o139.good (by decide)
    have f139a := G139.le
    have f139b := G139.max
    simp only [List.length_cons, List.length_nil] at f139a
    clear o139
    have A137 := A137.below b139
    (try go_wp2_with fail)
    refine hK.out _ _ ⟨(by (repeat (first | exact Below.refl _ _ | assumption | refine below_drew0 ?_ | refine below_alloc0 ?_ _))), E1.out _ (by (repeat (first | exact Below.refl _ _ | assumption | refine below_drew0 ?_ | refine below_alloc0 ?_ _)))⟩ (fun hHeld => ?_)
    clear hK K
    try simp only [List.getElem_cons_succ, List.getElem_cons_zero, Act.put, List.setIfInBounds_toArray, List.set_cons_zero, List.set_cons_succ]
    refine ready_at 5 (by kernel_rfl) (by kernel_rfl) (fun K hK => ?_)
    simp only [List.getElem_cons_succ, List.getElem_cons_zero]
    go_simp
    go_at_call 17
    refine (sameN_any [1, 3] [1, 3] 2 2 _ _ _ 2 _ rfl rfl G139 A137).mono ?_
    rintro e _ ⟨rfl, m140, rfl⟩
    have hb140 : Below w9.heap.size w9 (w139.drewN m140) := below_drewN hb139 m140
    generalize w139.drewN m140 = w140 at *
    (try go_wp2_with fail)
    refine hK.out _ _ ⟨(by (repeat (first | exact Below.refl _ _ | assumption | refine below_drew0 ?_ | refine below_alloc0 ?_ _))), E1.out _ (by (repeat (first | exact Below.refl _ _ | assumption | refine below_drew0 ?_ | refine below_alloc0 ?_ _)))⟩ (fun hHeld => ?_)
    clear hK K
    try simp only [List.getElem_cons_succ, List.getElem_cons_zero, Act.put, List.setIfInBounds_toArray, List.set_cons_zero, List.set_cons_succ]
    refine take_at 6 (by kernel_rfl) (v := ?v144) (by kernel_rfl) (by kernel_rfl) (by kernel_rfl) (fun _ _ _ h => h) (by rfl) ?y144 (by assumption) ?r144
    case y144 => (intro w hSw; (try dsimp only at hSw); simp only [List.getElem_cons_succ, List.getElem_cons_zero]; go_simp; (try with_reducible rfl))
    try simp only [List.getElem_cons_succ, List.getElem_cons_zero, Act.put, List.setIfInBounds_toArray, List.set_cons_zero, List.set_cons_succ]
    refine take_at 7 (by kernel_rfl) (v := ?v145) (by kernel_rfl) (by kernel_rfl) (by kernel_rfl) (fun _ _ _ h => h) (by rfl) ?y145 (by assumption) ?r145
    case y145 => (intro w hSw; (try dsimp only at hSw); simp only [List.getElem_cons_succ, List.getElem_cons_zero]; go_simp; (try with_reducible rfl))
    try simp only [List.getElem_cons_succ, List.getElem_cons_zero, Act.put, List.setIfInBounds_toArray, List.set_cons_zero, List.set_cons_succ]
    refine ready2_at 8 10 (by kernel_rfl) (by kernel_rfl) (by kernel_rfl) ?_ ?_
    · intro K hK
      simp only [List.getElem_cons_succ, List.getElem_cons_zero]
      go_simp
      go_at_call 25
      refine (two_any _).mono ?_
      rintro e w141 ⟨g141, rfl, N141⟩
      have hb141 : Below w9.heap.size w9 w141 := below_next hb140 N141.below
      (try go_wp2_with fail)
      refine hK.out _ _ ⟨(by (repeat (first | exact Below.refl _ _ | assumption | refine below_drew0 ?_ | refine below_alloc0 ?_ _))), E1.out _ (by (repeat (first | exact Below.refl _ _ | assumption | refine below_drew0 ?_ | refine below_alloc0 ?_ _)))⟩ (fun hHeld => ?_)
      clear hK K
      try simp only [List.getElem_cons_succ, List.getElem_cons_zero, Act.put, List.setIfInBounds_toArray, List.set_cons_zero, List.set_cons_succ]
      refine ready2_at 9 10 (by kernel_rfl) (by kernel_rfl) (by kernel_rfl) ?_ ?_
      · intro K hK
        simp only [List.getElem_cons_succ, List.getElem_cons_zero]
        go_simp
        go_at_call 16
        refine (V.alive [v1, v3] 2 _ 2 _ rfl (N141.good v_ok rfl (by omega)) (by omega)).mono ?_
        rw [alive_ex]
        rintro e w142 ⟨r142, rfl, o142, b142⟩
        have hb142 : Below w9.heap.size w9 w142 := below_next hb141 b142
        obtain ⟨q142, c142, rfl, _, G142⟩ := o142.good (by decide)
        have f142a := G142.le
        have f142b := G142.max
        simp only [List.length_cons, List.length_nil] at f142a
        clear o142
        (try go_wp2_with fail)
        refine hK.out _ _ ⟨(by (repeat (first | exact Below.refl _ _ | assumption | refine below_drew0 ?_ | refine below_alloc0 ?_ _))), E1.out _ (by (repeat (first | exact Below.refl _ _ | assumption | refine below_drew0 ?_ | refine below_alloc0 ?_ _)))⟩ (fun hHeld => ?_)
        clear hK K
        try simp only [List.getElem_cons_succ, List.getElem_cons_zero, Act.put, List.setIfInBounds_toArray, List.set_cons_zero, List.set_cons_succ]
        refine ready_at 10 (by kernel_rfl) (by kernel_rfl) (fun K hK => ?_)
        simp only [List.getElem_cons_succ, List.getElem_cons_zero]
        go_simp
        have A143 : GoodN (w142.alloc (.cells #[.int .i64 1] 3)) [1] (some ⟨w142.heap.size, 0, none⟩) 1 := goodN_lit w142 [1] 3 (by decide) (by decide)
        have b143 : Below w142.heap.size w142 (w142.alloc (.cells #[.int .i64 1] 3)) := (Below.refl _ _).alloc (Nat.le_refl _) _
        have hb143 := below_next hb142 b143
        have G142 := G142.below b143
        generalize hw143 : w142.alloc (.cells #[.int .i64 1] 3) = w143 at *
        refine hK.out _ _ ⟨(by (repeat (first | exact Below.refl _ _ | assumption | refine below_drew0 ?_ | refine below_alloc0 ?_ _))), E1.out _ (by (repeat (first | exact Below.refl _ _ | assumption | refine below_drew0 ?_ | refine below_alloc0 ?_ _)))⟩ (fun hHeld => ?_)
        clear hK K
        try simp only [List.getElem_cons_succ, List.getElem_cons_zero, Act.put, List.setIfInBounds_toArray, List.set_cons_zero, List.set_cons_succ]
        refine ready_at 11 (by kernel_rfl) (by kernel_rfl) (fun K hK => ?_)
        simp only [List.getElem_cons_succ, List.getElem_cons_zero]
        go_simp
        go_at_call 17
        refine (sameN_any [1] [1] 1 1 _ _ _ 1 _ rfl rfl G142 A143).mono ?_
        rintro e _ ⟨rfl, m144, rfl⟩
        have hb144 : Below w9.heap.size w9 (w143.drewN m144) := below_drewN hb143 m144
        generalize w143.drewN m144 = w144 at *
        (try go_wp2_with fail)
        refine hK.out _ _ ⟨(by (repeat (first | exact Below.refl _ _ | assumption | refine below_drew0 ?_ | refine below_alloc0 ?_ _))), E1.out _ (by (repeat (first | exact Below.refl _ _ | assumption | refine below_drew0 ?_ | refine below_alloc0 ?_ _)))⟩ (fun hHeld => ?_)
        clear hK K
        try simp only [List.getElem_cons_succ, List.getElem_cons_zero, Act.put, List.setIfInBounds_toArray, List.set_cons_zero, List.set_cons_succ]
        refine take_at 12 (by kernel_rfl) (v := ?v146) (by kernel_rfl) (by kernel_rfl) (by kernel_rfl) (fun _ _ _ h => h) (by rfl) ?y146 (by assumption) ?r146
        case y146 => (intro w hSw; (try dsimp only at hSw); simp only [List.getElem_cons_succ, List.getElem_cons_zero]; go_simp; (try with_reducible rfl))
        try simp only [List.getElem_cons_succ, List.getElem_cons_zero, Act.put, List.setIfInBounds_toArray, List.set_cons_zero, List.set_cons_succ]
        refine take_at 13 (by kernel_rfl) (v := ?v147) (by kernel_rfl) (by kernel_rfl) (by kernel_rfl) (fun _ _ _ h => h) (by rfl) ?y147 (by assumption) ?r147
        case y147 => (intro w hSw; (try dsimp only at hSw); simp only [List.getElem_cons_succ, List.getElem_cons_zero]; go_simp; (try with_reducible rfl))
        try simp only [List.getElem_cons_succ, List.getElem_cons_zero, Act.put, List.setIfInBounds_toArray, List.set_cons_zero, List.set_cons_succ]
        refine take_at 14 (by kernel_rfl) (v := ?v148) (by kernel_rfl) (by kernel_rfl) (by kernel_rfl) (fun _ _ _ h => h) (by rfl) ?y148 (by assumption) ?r148
        case y148 => (intro w hSw; (try dsimp only at hSw); simp only [List.getElem_cons_succ, List.getElem_cons_zero]; go_simp; (try with_reducible rfl))
        try simp only [List.getElem_cons_succ, List.getElem_cons_zero, Act.put, List.setIfInBounds_toArray, List.set_cons_zero, List.set_cons_succ]
        refine take_at 15 (by kernel_rfl) (v := ?v149) (by kernel_rfl) (by kernel_rfl) (by kernel_rfl) (fun _ _ _ h => h) (by rfl) ?y149 (by assumption) ?r149
        case y149 => (intro w hSw; (try dsimp only at hSw); simp only [List.getElem_cons_succ, List.getElem_cons_zero]; go_simp; (try with_reducible rfl))
        try simp only [List.getElem_cons_succ, List.getElem_cons_zero, Act.put, List.setIfInBounds_toArray, List.set_cons_zero, List.set_cons_succ]
        refine take_at 16 (by kernel_rfl) (v := ?v150) (by kernel_rfl) (by kernel_rfl) (by kernel_rfl) (fun _ _ _ h => h) (by rfl) ?y150 (by assumption) ?r150
        case y150 => (intro w hSw; (try dsimp only at hSw); simp only [List.getElem_cons_succ, List.getElem_cons_zero]; go_simp; (try with_reducible rfl))
        try simp only [List.getElem_cons_succ, List.getElem_cons_zero, Act.put, List.setIfInBounds_toArray, List.set_cons_zero, List.set_cons_succ]
        refine take_at 17 (by kernel_rfl) (v := ?v151) (by kernel_rfl) (by kernel_rfl) (by kernel_rfl) (fun _ _ _ h => h) (by rfl) ?y151 (by assumption) ?r151
        case y151 => (intro w hSw; (try dsimp only at hSw); simp only [List.getElem_cons_succ, List.getElem_cons_zero]; go_simp; (try with_reducible rfl))
        try simp only [List.getElem_cons_succ, List.getElem_cons_zero, Act.put, List.setIfInBounds_toArray, List.set_cons_zero, List.set_cons_succ]
        refine take_at 18 (by kernel_rfl) (v := ?v152) (by kernel_rfl) (by kernel_rfl) (by kernel_rfl) (fun _ _ _ h => h) (by rfl) ?y152 (by assumption) ?r152
        case y152 => (intro w hSw; (try dsimp only at hSw); simp only [List.getElem_cons_succ, List.getElem_cons_zero]; go_simp; (try with_reducible rfl))
        try simp only [List.getElem_cons_succ, List.getElem_cons_zero, Act.put, List.setIfInBounds_toArray, List.set_cons_zero, List.set_cons_succ]
        refine ready_at 19 (by kernel_rfl) (by kernel_rfl) (fun K hK => ?_)
        simp only [List.getElem_cons_succ, List.getElem_cons_zero]
        go_simp
        go_at_call 25
        refine (two_any _).mono ?_
        rintro e w145 ⟨g145, rfl, N145⟩
        have hb145 : Below w9.heap.size w9 w145 := below_next hb144 N145.below
        have l145 : (loadM mt (.pointer (some ⟨g145, 3, none⟩))).run Try.prog w145 = .ok (.value (mv v3)) w145 := N145.load 1 (by decide)
        (try go_wp2_with fail)
        refine hK.out _ _ ⟨(by (repeat (first | exact Below.refl _ _ | assumption | refine below_drew0 ?_ | refine below_alloc0 ?_ _))), E1.out _ (by (repeat (first | exact Below.refl _ _ | assumption | refine below_drew0 ?_ | refine below_alloc0 ?_ _)))⟩ (fun hHeld => ?_)
        clear hK K
        try simp only [List.getElem_cons_succ, List.getElem_cons_zero, Act.put, List.setIfInBounds_toArray, List.set_cons_zero, List.set_cons_succ]
        refine take_at 20 (by kernel_rfl) (v := ?v153) (by kernel_rfl) (by kernel_rfl) (by kernel_rfl) (fun _ _ _ h => h) (by rfl) ?y153 (by assumption) ?r153
        case y153 => (intro w hSw; (try dsimp only at hSw); simp only [List.getElem_cons_succ, List.getElem_cons_zero]; go_simp; (try with_reducible rfl))
        try simp only [List.getElem_cons_succ, List.getElem_cons_zero, Act.put, List.setIfInBounds_toArray, List.set_cons_zero, List.set_cons_succ]
        refine ready_at 21 (by kernel_rfl) (by kernel_rfl) (fun K hK => ?_)
        simp only [List.getElem_cons_succ, List.getElem_cons_zero]
        go_simp
        refine hK.out _ _ ⟨(by (repeat (first | exact Below.refl _ _ | assumption | refine below_drew0 ?_ | refine below_alloc0 ?_ _))), E1.out _ (by (repeat (first | exact Below.refl _ _ | assumption | refine below_drew0 ?_ | refine below_alloc0 ?_ _)))⟩ (fun hHeld => ?_)
        clear hK K
        try simp only [List.getElem_cons_succ, List.getElem_cons_zero, Act.put, List.setIfInBounds_toArray, List.set_cons_zero, List.set_cons_succ]
        refine take_at 22 (by kernel_rfl) (v := ?v154) (by kernel_rfl) (by kernel_rfl) (by kernel_rfl) (fun _ _ _ h => h) (by rfl) ?y154 (by assumption) ?r154
        case y154 => (intro w hSw; (try dsimp only at hSw); simp only [List.getElem_cons_succ, List.getElem_cons_zero]; go_simp; (try with_reducible rfl))
        try simp only [List.getElem_cons_succ, List.getElem_cons_zero, Act.put, List.setIfInBounds_toArray, List.set_cons_zero, List.set_cons_succ]
        refine take_at 23 (by kernel_rfl) (v := ?v155) (by kernel_rfl) (by kernel_rfl) (by kernel_rfl) (fun _ _ _ h => h) (by rfl) ?y155 (by assumption) ?r155
        case y155 => (intro w hSw; (try dsimp only at hSw); simp only [List.getElem_cons_succ, List.getElem_cons_zero]; go_simp; (try with_reducible rfl))
        try simp only [List.getElem_cons_succ, List.getElem_cons_zero, Act.put, List.setIfInBounds_toArray, List.set_cons_zero, List.set_cons_succ]
        refine take_at 24 (by kernel_rfl) (v := ?v156) (by kernel_rfl) (by kernel_rfl) (by kernel_rfl) (fun _ _ _ h => h) (by rfl) ?y156 (by assumption) ?r156
        case y156 => (intro w hSw; (try dsimp only at hSw); simp only [List.getElem_cons_succ, List.getElem_cons_zero]; go_simp; (try with_reducible rfl))
        try simp only [List.getElem_cons_succ, List.getElem_cons_zero, Act.put, List.setIfInBounds_toArray, List.set_cons_zero, List.set_cons_succ]
        refine take_at 25 (by kernel_rfl) (v := ?v157) (by kernel_rfl) (by kernel_rfl) (by kernel_rfl) (fun _ _ _ h => h) (by rfl) ?y157 (by assumption) ?r157
        case y157 => (intro w hSw; (try dsimp only at hSw); simp only [List.getElem_cons_succ, List.getElem_cons_zero]; go_simp; (try with_reducible rfl))
        try simp only [List.getElem_cons_succ, List.getElem_cons_zero, Act.put, List.setIfInBounds_toArray, List.set_cons_zero, List.set_cons_succ]
        refine take_at 26 (by kernel_rfl) (v := ?v158) (by kernel_rfl) (by kernel_rfl) (by kernel_rfl) (fun _ _ _ h => h) (by rfl) ?y158 (by assumption) ?r158
        case y158 => (intro w hSw; (try dsimp only at hSw); simp only [List.getElem_cons_succ, List.getElem_cons_zero]; go_simp; (try with_reducible rfl))
        try simp only [List.getElem_cons_succ, List.getElem_cons_zero, Act.put, List.setIfInBounds_toArray, List.set_cons_zero, List.set_cons_succ]
        refine take_at 27 (by kernel_rfl) (v := ?v159) (by kernel_rfl) (by kernel_rfl) (by kernel_rfl) (fun _ _ _ h => h) (by rfl) ?y159 (by assumption) ?r159
        case y159 => (intro w hSw; (try dsimp only at hSw); simp only [List.getElem_cons_succ, List.getElem_cons_zero]; go_simp; (try with_reducible rfl))
        try simp only [List.getElem_cons_succ, List.getElem_cons_zero, Act.put, List.setIfInBounds_toArray, List.set_cons_zero, List.set_cons_succ]
        refine take_at 28 (by kernel_rfl) (v := ?v160) (by kernel_rfl) (by kernel_rfl) (by kernel_rfl) (fun _ _ _ h => h) (by rfl) ?y160 (by assumption) ?r160
        case y160 => (intro w hSw; (try dsimp only at hSw); simp only [List.getElem_cons_succ, List.getElem_cons_zero]; go_simp; (try with_reducible rfl))
        try simp only [List.getElem_cons_succ, List.getElem_cons_zero, Act.put, List.setIfInBounds_toArray, List.set_cons_zero, List.set_cons_succ]
        refine take_at 29 (by kernel_rfl) (v := ?v161) (by kernel_rfl) (by kernel_rfl) (by kernel_rfl) (fun _ _ _ h => h) (by rfl) ?y161 (by assumption) ?r161
        case y161 => (intro w hSw; (try dsimp only at hSw); simp only [List.getElem_cons_succ, List.getElem_cons_zero]; go_simp; (try with_reducible rfl))
        try simp only [List.getElem_cons_succ, List.getElem_cons_zero, Act.put, List.setIfInBounds_toArray, List.set_cons_zero, List.set_cons_succ]
        refine take_at 30 (by kernel_rfl) (v := ?v162) (by kernel_rfl) (by kernel_rfl) (by kernel_rfl) (fun _ _ _ h => h) (by rfl) ?y162 (by assumption) ?r162
        case y162 => (intro w hSw; (try dsimp only at hSw); simp only [List.getElem_cons_succ, List.getElem_cons_zero]; go_simp; (try with_reducible rfl))
        try simp only [List.getElem_cons_succ, List.getElem_cons_zero, Act.put, List.setIfInBounds_toArray, List.set_cons_zero, List.set_cons_succ]
        refine take_at 31 (by kernel_rfl) (v := ?v163) (by kernel_rfl) (by kernel_rfl) (by kernel_rfl) (fun _ _ _ h => h) (by rfl) ?y163 (by assumption) ?r163
        case y163 => (intro w hSw; (try dsimp only at hSw); simp only [List.getElem_cons_succ, List.getElem_cons_zero]; go_simp; (try with_reducible rfl))
        try simp only [List.getElem_cons_succ, List.getElem_cons_zero, Act.put, List.setIfInBounds_toArray, List.set_cons_zero, List.set_cons_succ]
        refine take_at 32 (by kernel_rfl) (v := ?v164) (by kernel_rfl) (by kernel_rfl) (by kernel_rfl) (fun _ _ _ h => h) (by rfl) ?y164 (by assumption) ?r164
        case y164 => (intro w hSw; (try dsimp only at hSw); simp only [List.getElem_cons_succ, List.getElem_cons_zero]; go_simp; (try with_reducible rfl))
        try simp only [List.getElem_cons_succ, List.getElem_cons_zero, Act.put, List.setIfInBounds_toArray, List.set_cons_zero, List.set_cons_succ]
        refine take_at 33 (by kernel_rfl) (v := ?v165) (by kernel_rfl) (by kernel_rfl) (by kernel_rfl) (fun _ _ _ h => h) (by rfl) ?y165 (by assumption) ?r165
        case y165 => (intro w hSw; (try dsimp only at hSw); simp only [List.getElem_cons_succ, List.getElem_cons_zero]; go_simp; (try with_reducible rfl))
        try simp only [List.getElem_cons_succ, List.getElem_cons_zero, Act.put, List.setIfInBounds_toArray, List.set_cons_zero, List.set_cons_succ]
        refine take_at 34 (by kernel_rfl) (v := ?v166) (by kernel_rfl) (by kernel_rfl) (by kernel_rfl) (fun _ _ _ h => h) (by rfl) ?y166 (by assumption) ?r166
        case y166 => (intro w hSw; (try dsimp only at hSw); simp only [List.getElem_cons_succ, List.getElem_cons_zero]; go_simp; (try with_reducible rfl))
        try simp only [List.getElem_cons_succ, List.getElem_cons_zero, Act.put, List.setIfInBounds_toArray, List.set_cons_zero, List.set_cons_succ]
        refine take_at 35 (by kernel_rfl) (v := ?v167) (by kernel_rfl) (by kernel_rfl) (by kernel_rfl) (fun _ _ _ h => h) (by rfl) ?y167 (by assumption) ?r167
        case y167 => (intro w hSw; (try dsimp only at hSw); simp only [List.getElem_cons_succ, List.getElem_cons_zero]; go_simp; (try with_reducible rfl))
        try simp only [List.getElem_cons_succ, List.getElem_cons_zero, Act.put, List.setIfInBounds_toArray, List.set_cons_zero, List.set_cons_succ]
        refine take_at 36 (by kernel_rfl) (v := ?v168) (by kernel_rfl) (by kernel_rfl) (by kernel_rfl) (fun _ _ _ h => h) (by rfl) ?y168 (by assumption) ?r168
        case y168 => (intro w hSw; (try dsimp only at hSw); simp only [List.getElem_cons_succ, List.getElem_cons_zero]; go_simp; (try with_reducible rfl))
        try simp only [List.getElem_cons_succ, List.getElem_cons_zero, Act.put, List.setIfInBounds_toArray, List.set_cons_zero, List.set_cons_succ]
        refine wpAnyH_done (by kernel_rfl) ?_ _
        go_wp2_with fail
        go_ret
        exact ⟨rfl, below_next B9.out hb145⟩
      · intro K hK
        simp only [List.getElem_cons_succ, List.getElem_cons_zero]
        go_simp
        have A146 : GoodN (w141.alloc (.cells #[.int .i64 1] 3)) [1] (some ⟨w141.heap.size, 0, none⟩) 1 := goodN_lit w141 [1] 3 (by decide) (by decide)
        have b146 : Below w141.heap.size w141 (w141.alloc (.cells #[.int .i64 1] 3)) := (Below.refl _ _).alloc (Nat.le_refl _) _
        have hb146 := below_next hb141 b146
        have N141 := N141.on b146
        generalize hw146 : w141.alloc (.cells #[.int .i64 1] 3) = w146 at *
        refine hK.out _ _ ⟨(by (repeat (first | exact Below.refl _ _ | assumption | refine below_drew0 ?_ | refine below_alloc0 ?_ _))), E1.out _ (by (repeat (first | exact Below.refl _ _ | assumption | refine below_drew0 ?_ | refine below_alloc0 ?_ _)))⟩ (fun hHeld => ?_)
        clear hK K
        try simp only [List.getElem_cons_succ, List.getElem_cons_zero, Act.put, List.setIfInBounds_toArray, List.set_cons_zero, List.set_cons_succ]
        refine ready_at 9 (by kernel_rfl) (by kernel_rfl) (fun K hK => ?_)
        simp only [List.getElem_cons_succ, List.getElem_cons_zero]
        go_simp
        go_at_call 16
        refine (V.alive [v1, v3] 2 _ 2 _ rfl (N141.good v_ok rfl (by omega)) (by omega)).mono ?_
        rw [alive_ex]
        rintro e w147 ⟨r147, rfl, o147, b147⟩
        have hb147 : Below w9.heap.size w9 w147 := below_next hb146 b147
        obtain ⟨q147, c147, rfl, _, G147⟩ := o147.good (by decide)
        have f147a := G147.le
        have f147b := G147.max
        simp only [List.length_cons, List.length_nil] at f147a
        clear o147
        have A146 := A146.below b147
        (try go_wp2_with fail)
        refine hK.out _ _ ⟨(by (repeat (first | exact Below.refl _ _ | assumption | refine below_drew0 ?_ | refine below_alloc0 ?_ _))), E1.out _ (by (repeat (first | exact Below.refl _ _ | assumption | refine below_drew0 ?_ | refine below_alloc0 ?_ _)))⟩ (fun hHeld => ?_)
        clear hK K
        try simp only [List.getElem_cons_succ, List.getElem_cons_zero, Act.put, List.setIfInBounds_toArray, List.set_cons_zero, List.set_cons_succ]
        refine ready_at 11 (by kernel_rfl) (by kernel_rfl) (fun K hK => ?_)
        simp only [List.getElem_cons_succ, List.getElem_cons_zero]
        go_simp
        go_at_call 17
        refine (sameN_any [1] [1] 1 1 _ _ _ 1 _ rfl rfl G147 A146).mono ?_
        rintro e _ ⟨rfl, m148, rfl⟩
        have hb148 : Below w9.heap.size w9 (w147.drewN m148) := below_drewN hb147 m148
        generalize w147.drewN m148 = w148 at *
        (try go_wp2_with fail)
        refine hK.out _ _ ⟨(by (repeat (first | exact Below.refl _ _ | assumption | refine below_drew0 ?_ | refine below_alloc0 ?_ _))), E1.out _ (by (repeat (first | exact Below.refl _ _ | assumption | refine below_drew0 ?_ | refine below_alloc0 ?_ _)))⟩ (fun hHeld => ?_)
        clear hK K
        try simp only [List.getElem_cons_succ, List.getElem_cons_zero, Act.put, List.setIfInBounds_toArray, List.set_cons_zero, List.set_cons_succ]
        refine take_at 12 (by kernel_rfl) (v := ?v169) (by kernel_rfl) (by kernel_rfl) (by kernel_rfl) (fun _ _ _ h => h) (by rfl) ?y169 (by assumption) ?r169
        case y169 => (intro w hSw; (try dsimp only at hSw); simp only [List.getElem_cons_succ, List.getElem_cons_zero]; go_simp; (try with_reducible rfl))
        try simp only [List.getElem_cons_succ, List.getElem_cons_zero, Act.put, List.setIfInBounds_toArray, List.set_cons_zero, List.set_cons_succ]
        refine take_at 13 (by kernel_rfl) (v := ?v170) (by kernel_rfl) (by kernel_rfl) (by kernel_rfl) (fun _ _ _ h => h) (by rfl) ?y170 (by assumption) ?r170
        case y170 => (intro w hSw; (try dsimp only at hSw); simp only [List.getElem_cons_succ, List.getElem_cons_zero]; go_simp; (try with_reducible rfl))
        try simp only [List.getElem_cons_succ, List.getElem_cons_zero, Act.put, List.setIfInBounds_toArray, List.set_cons_zero, List.set_cons_succ]
        refine take_at 14 (by kernel_rfl) (v := ?v171) (by kernel_rfl) (by kernel_rfl) (by kernel_rfl) (fun _ _ _ h => h) (by rfl) ?y171 (by assumption) ?r171
        case y171 => (intro w hSw; (try dsimp only at hSw); simp only [List.getElem_cons_succ, List.getElem_cons_zero]; go_simp; (try with_reducible rfl))
        try simp only [List.getElem_cons_succ, List.getElem_cons_zero, Act.put, List.setIfInBounds_toArray, List.set_cons_zero, List.set_cons_succ]
        refine take_at 15 (by kernel_rfl) (v := ?v172) (by kernel_rfl) (by kernel_rfl) (by kernel_rfl) (fun _ _ _ h => h) (by rfl) ?y172 (by assumption) ?r172
        case y172 => (intro w hSw; (try dsimp only at hSw); simp only [List.getElem_cons_succ, List.getElem_cons_zero]; go_simp; (try with_reducible rfl))
        try simp only [List.getElem_cons_succ, List.getElem_cons_zero, Act.put, List.setIfInBounds_toArray, List.set_cons_zero, List.set_cons_succ]
        refine take_at 16 (by kernel_rfl) (v := ?v173) (by kernel_rfl) (by kernel_rfl) (by kernel_rfl) (fun _ _ _ h => h) (by rfl) ?y173 (by assumption) ?r173
        case y173 => (intro w hSw; (try dsimp only at hSw); simp only [List.getElem_cons_succ, List.getElem_cons_zero]; go_simp; (try with_reducible rfl))
        try simp only [List.getElem_cons_succ, List.getElem_cons_zero, Act.put, List.setIfInBounds_toArray, List.set_cons_zero, List.set_cons_succ]
        refine take_at 17 (by kernel_rfl) (v := ?v174) (by kernel_rfl) (by kernel_rfl) (by kernel_rfl) (fun _ _ _ h => h) (by rfl) ?y174 (by assumption) ?r174
        case y174 => (intro w hSw; (try dsimp only at hSw); simp only [List.getElem_cons_succ, List.getElem_cons_zero]; go_simp; (try with_reducible rfl))
        try simp only [List.getElem_cons_succ, List.getElem_cons_zero, Act.put, List.setIfInBounds_toArray, List.set_cons_zero, List.set_cons_succ]
        refine take_at 18 (by kernel_rfl) (v := ?v175) (by kernel_rfl) (by kernel_rfl) (by kernel_rfl) (fun _ _ _ h => h) (by rfl) ?y175 (by assumption) ?r175
        case y175 => (intro w hSw; (try dsimp only at hSw); simp only [List.getElem_cons_succ, List.getElem_cons_zero]; go_simp; (try with_reducible rfl))
        try simp only [List.getElem_cons_succ, List.getElem_cons_zero, Act.put, List.setIfInBounds_toArray, List.set_cons_zero, List.set_cons_succ]
        refine ready_at 19 (by kernel_rfl) (by kernel_rfl) (fun K hK => ?_)
        simp only [List.getElem_cons_succ, List.getElem_cons_zero]
        go_simp
        go_at_call 25
        refine (two_any _).mono ?_
        rintro e w149 ⟨g149, rfl, N149⟩
        have hb149 : Below w9.heap.size w9 w149 := below_next hb148 N149.below
        have l149 : (loadM mt (.pointer (some ⟨g149, 3, none⟩))).run Try.prog w149 = .ok (.value (mv v3)) w149 := N149.load 1 (by decide)
        (try go_wp2_with fail)
        refine hK.out _ _ ⟨(by (repeat (first | exact Below.refl _ _ | assumption | refine below_drew0 ?_ | refine below_alloc0 ?_ _))), E1.out _ (by (repeat (first | exact Below.refl _ _ | assumption | refine below_drew0 ?_ | refine below_alloc0 ?_ _)))⟩ (fun hHeld => ?_)
        clear hK K
        try simp only [List.getElem_cons_succ, List.getElem_cons_zero, Act.put, List.setIfInBounds_toArray, List.set_cons_zero, List.set_cons_succ]
        refine take_at 20 (by kernel_rfl) (v := ?v176) (by kernel_rfl) (by kernel_rfl) (by kernel_rfl) (fun _ _ _ h => h) (by rfl) ?y176 (by assumption) ?r176
        case y176 => (intro w hSw; (try dsimp only at hSw); simp only [List.getElem_cons_succ, List.getElem_cons_zero]; go_simp; (try with_reducible rfl))
        try simp only [List.getElem_cons_succ, List.getElem_cons_zero, Act.put, List.setIfInBounds_toArray, List.set_cons_zero, List.set_cons_succ]
        refine ready_at 21 (by kernel_rfl) (by kernel_rfl) (fun K hK => ?_)
        simp only [List.getElem_cons_succ, List.getElem_cons_zero]
        go_simp
        refine hK.out _ _ ⟨(by (repeat (first | exact Below.refl _ _ | assumption | refine below_drew0 ?_ | refine below_alloc0 ?_ _))), E1.out _ (by (repeat (first | exact Below.refl _ _ | assumption | refine below_drew0 ?_ | refine below_alloc0 ?_ _)))⟩ (fun hHeld => ?_)
        clear hK K
        try simp only [List.getElem_cons_succ, List.getElem_cons_zero, Act.put, List.setIfInBounds_toArray, List.set_cons_zero, List.set_cons_succ]
        refine take_at 22 (by kernel_rfl) (v := ?v177) (by kernel_rfl) (by kernel_rfl) (by kernel_rfl) (fun _ _ _ h => h) (by rfl) ?y177 (by assumption) ?r177
        case y177 => (intro w hSw; (try dsimp only at hSw); simp only [List.getElem_cons_succ, List.getElem_cons_zero]; go_simp; (try with_reducible rfl))
        try simp only [List.getElem_cons_succ, List.getElem_cons_zero, Act.put, List.setIfInBounds_toArray, List.set_cons_zero, List.set_cons_succ]
        refine take_at 23 (by kernel_rfl) (v := ?v178) (by kernel_rfl) (by kernel_rfl) (by kernel_rfl) (fun _ _ _ h => h) (by rfl) ?y178 (by assumption) ?r178
        case y178 => (intro w hSw; (try dsimp only at hSw); simp only [List.getElem_cons_succ, List.getElem_cons_zero]; go_simp; (try with_reducible rfl))
        try simp only [List.getElem_cons_succ, List.getElem_cons_zero, Act.put, List.setIfInBounds_toArray, List.set_cons_zero, List.set_cons_succ]
        refine take_at 24 (by kernel_rfl) (v := ?v179) (by kernel_rfl) (by kernel_rfl) (by kernel_rfl) (fun _ _ _ h => h) (by rfl) ?y179 (by assumption) ?r179
        case y179 => (intro w hSw; (try dsimp only at hSw); simp only [List.getElem_cons_succ, List.getElem_cons_zero]; go_simp; (try with_reducible rfl))
        try simp only [List.getElem_cons_succ, List.getElem_cons_zero, Act.put, List.setIfInBounds_toArray, List.set_cons_zero, List.set_cons_succ]
        refine take_at 25 (by kernel_rfl) (v := ?v180) (by kernel_rfl) (by kernel_rfl) (by kernel_rfl) (fun _ _ _ h => h) (by rfl) ?y180 (by assumption) ?r180
        case y180 => (intro w hSw; (try dsimp only at hSw); simp only [List.getElem_cons_succ, List.getElem_cons_zero]; go_simp; (try with_reducible rfl))
        try simp only [List.getElem_cons_succ, List.getElem_cons_zero, Act.put, List.setIfInBounds_toArray, List.set_cons_zero, List.set_cons_succ]
        refine take_at 26 (by kernel_rfl) (v := ?v181) (by kernel_rfl) (by kernel_rfl) (by kernel_rfl) (fun _ _ _ h => h) (by rfl) ?y181 (by assumption) ?r181
        case y181 => (intro w hSw; (try dsimp only at hSw); simp only [List.getElem_cons_succ, List.getElem_cons_zero]; go_simp; (try with_reducible rfl))
        try simp only [List.getElem_cons_succ, List.getElem_cons_zero, Act.put, List.setIfInBounds_toArray, List.set_cons_zero, List.set_cons_succ]
        refine take_at 27 (by kernel_rfl) (v := ?v182) (by kernel_rfl) (by kernel_rfl) (by kernel_rfl) (fun _ _ _ h => h) (by rfl) ?y182 (by assumption) ?r182
        case y182 => (intro w hSw; (try dsimp only at hSw); simp only [List.getElem_cons_succ, List.getElem_cons_zero]; go_simp; (try with_reducible rfl))
        try simp only [List.getElem_cons_succ, List.getElem_cons_zero, Act.put, List.setIfInBounds_toArray, List.set_cons_zero, List.set_cons_succ]
        refine take_at 28 (by kernel_rfl) (v := ?v183) (by kernel_rfl) (by kernel_rfl) (by kernel_rfl) (fun _ _ _ h => h) (by rfl) ?y183 (by assumption) ?r183
        case y183 => (intro w hSw; (try dsimp only at hSw); simp only [List.getElem_cons_succ, List.getElem_cons_zero]; go_simp; (try with_reducible rfl))
        try simp only [List.getElem_cons_succ, List.getElem_cons_zero, Act.put, List.setIfInBounds_toArray, List.set_cons_zero, List.set_cons_succ]
        refine take_at 29 (by kernel_rfl) (v := ?v184) (by kernel_rfl) (by kernel_rfl) (by kernel_rfl) (fun _ _ _ h => h) (by rfl) ?y184 (by assumption) ?r184
        case y184 => (intro w hSw; (try dsimp only at hSw); simp only [List.getElem_cons_succ, List.getElem_cons_zero]; go_simp; (try with_reducible rfl))
        try simp only [List.getElem_cons_succ, List.getElem_cons_zero, Act.put, List.setIfInBounds_toArray, List.set_cons_zero, List.set_cons_succ]
        refine take_at 30 (by kernel_rfl) (v := ?v185) (by kernel_rfl) (by kernel_rfl) (by kernel_rfl) (fun _ _ _ h => h) (by rfl) ?y185 (by assumption) ?r185
        case y185 => (intro w hSw; (try dsimp only at hSw); simp only [List.getElem_cons_succ, List.getElem_cons_zero]; go_simp; (try with_reducible rfl))
        try simp only [List.getElem_cons_succ, List.getElem_cons_zero, Act.put, List.setIfInBounds_toArray, List.set_cons_zero, List.set_cons_succ]
        refine take_at 31 (by kernel_rfl) (v := ?v186) (by kernel_rfl) (by kernel_rfl) (by kernel_rfl) (fun _ _ _ h => h) (by rfl) ?y186 (by assumption) ?r186
        case y186 => (intro w hSw; (try dsimp only at hSw); simp only [List.getElem_cons_succ, List.getElem_cons_zero]; go_simp; (try with_reducible rfl))
        try simp only [List.getElem_cons_succ, List.getElem_cons_zero, Act.put, List.setIfInBounds_toArray, List.set_cons_zero, List.set_cons_succ]
        refine take_at 32 (by kernel_rfl) (v := ?v187) (by kernel_rfl) (by kernel_rfl) (by kernel_rfl) (fun _ _ _ h => h) (by rfl) ?y187 (by assumption) ?r187
        case y187 => (intro w hSw; (try dsimp only at hSw); simp only [List.getElem_cons_succ, List.getElem_cons_zero]; go_simp; (try with_reducible rfl))
        try simp only [List.getElem_cons_succ, List.getElem_cons_zero, Act.put, List.setIfInBounds_toArray, List.set_cons_zero, List.set_cons_succ]
        refine take_at 33 (by kernel_rfl) (v := ?v188) (by kernel_rfl) (by kernel_rfl) (by kernel_rfl) (fun _ _ _ h => h) (by rfl) ?y188 (by assumption) ?r188
        case y188 => (intro w hSw; (try dsimp only at hSw); simp only [List.getElem_cons_succ, List.getElem_cons_zero]; go_simp; (try with_reducible rfl))
        try simp only [List.getElem_cons_succ, List.getElem_cons_zero, Act.put, List.setIfInBounds_toArray, List.set_cons_zero, List.set_cons_succ]
        refine take_at 34 (by kernel_rfl) (v := ?v189) (by kernel_rfl) (by kernel_rfl) (by kernel_rfl) (fun _ _ _ h => h) (by rfl) ?y189 (by assumption) ?r189
        case y189 => (intro w hSw; (try dsimp only at hSw); simp only [List.getElem_cons_succ, List.getElem_cons_zero]; go_simp; (try with_reducible rfl))
        try simp only [List.getElem_cons_succ, List.getElem_cons_zero, Act.put, List.setIfInBounds_toArray, List.set_cons_zero, List.set_cons_succ]
        refine take_at 35 (by kernel_rfl) (v := ?v190) (by kernel_rfl) (by kernel_rfl) (by kernel_rfl) (fun _ _ _ h => h) (by rfl) ?y190 (by assumption) ?r190
        case y190 => (intro w hSw; (try dsimp only at hSw); simp only [List.getElem_cons_succ, List.getElem_cons_zero]; go_simp; (try with_reducible rfl))
        try simp only [List.getElem_cons_succ, List.getElem_cons_zero, Act.put, List.setIfInBounds_toArray, List.set_cons_zero, List.set_cons_succ]
        refine take_at 36 (by kernel_rfl) (v := ?v191) (by kernel_rfl) (by kernel_rfl) (by kernel_rfl) (fun _ _ _ h => h) (by rfl) ?y191 (by assumption) ?r191
        case y191 => (intro w hSw; (try dsimp only at hSw); simp only [List.getElem_cons_succ, List.getElem_cons_zero]; go_simp; (try with_reducible rfl))
        try simp only [List.getElem_cons_succ, List.getElem_cons_zero, Act.put, List.setIfInBounds_toArray, List.set_cons_zero, List.set_cons_succ]
        refine wpAnyH_done (by kernel_rfl) ?_ _
        go_wp2_with fail
        go_ret
        exact ⟨rfl, below_next B9.out hb149⟩
    · intro K hK
      simp only [List.getElem_cons_succ, List.getElem_cons_zero]
      go_simp
      have A150 : GoodN (w140.alloc (.cells #[.int .i64 1] 3)) [1] (some ⟨w140.heap.size, 0, none⟩) 1 := goodN_lit w140 [1] 3 (by decide) (by decide)
      have b150 : Below w140.heap.size w140 (w140.alloc (.cells #[.int .i64 1] 3)) := (Below.refl _ _).alloc (Nat.le_refl _) _
      have hb150 := below_next hb140 b150
      generalize hw150 : w140.alloc (.cells #[.int .i64 1] 3) = w150 at *
      refine hK.out _ _ ⟨(by (repeat (first | exact Below.refl _ _ | assumption | refine below_drew0 ?_ | refine below_alloc0 ?_ _))), E1.out _ (by (repeat (first | exact Below.refl _ _ | assumption | refine below_drew0 ?_ | refine below_alloc0 ?_ _)))⟩ (fun hHeld => ?_)
      clear hK K
      try simp only [List.getElem_cons_succ, List.getElem_cons_zero, Act.put, List.setIfInBounds_toArray, List.set_cons_zero, List.set_cons_succ]
      refine ready_at 8 (by kernel_rfl) (by kernel_rfl) (fun K hK => ?_)
      simp only [List.getElem_cons_succ, List.getElem_cons_zero]
      go_simp
      go_at_call 25
      refine (two_any _).mono ?_
      rintro e w151 ⟨g151, rfl, N151⟩
      have hb151 : Below w9.heap.size w9 w151 := below_next hb150 N151.below
      have A150 := A150.below N151.below
      (try go_wp2_with fail)
      refine hK.out _ _ ⟨(by (repeat (first | exact Below.refl _ _ | assumption | refine below_drew0 ?_ | refine below_alloc0 ?_ _))), E1.out _ (by (repeat (first | exact Below.refl _ _ | assumption | refine below_drew0 ?_ | refine below_alloc0 ?_ _)))⟩ (fun hHeld => ?_)
      clear hK K
      try simp only [List.getElem_cons_succ, List.getElem_cons_zero, Act.put, List.setIfInBounds_toArray, List.set_cons_zero, List.set_cons_succ]
      refine ready_at 9 (by kernel_rfl) (by kernel_rfl) (fun K hK => ?_)
      simp only [List.getElem_cons_succ, List.getElem_cons_zero]
      go_simp
      go_at_call 16
      refine (V.alive [v1, v3] 2 _ 2 _ rfl (N151.good v_ok rfl (by omega)) (by omega)).mono ?_
      rw [alive_ex]
      rintro e w152 ⟨r152, rfl, o152, b152⟩
      have hb152 : Below w9.heap.size w9 w152 := below_next hb151 b152
      obtain ⟨q152, c152, rfl, _, G152⟩ := o152.good (by decide)
      have f152a := G152.le
      have f152b := G152.max
      simp only [List.length_cons, List.length_nil] at f152a
      clear o152
      have A150 := A150.below b152
      (try go_wp2_with fail)
      refine hK.out _ _ ⟨(by (repeat (first | exact Below.refl _ _ | assumption | refine below_drew0 ?_ | refine below_alloc0 ?_ _))), E1.out _ (by (repeat (first | exact Below.refl _ _ | assumption | refine below_drew0 ?_ | refine below_alloc0 ?_ _)))⟩ (fun hHeld => ?_)
      clear hK K
      try simp only [List.getElem_cons_succ, List.getElem_cons_zero, Act.put, List.setIfInBounds_toArray, List.set_cons_zero, List.set_cons_succ]
      refine ready_at 11 (by kernel_rfl) (by kernel_rfl) (fun K hK => ?_)
      simp only [List.getElem_cons_succ, List.getElem_cons_zero]
      go_simp
      go_at_call 17
      refine (sameN_any [1] [1] 1 1 _ _ _ 1 _ rfl rfl G152 A150).mono ?_
      rintro e _ ⟨rfl, m153, rfl⟩
      have hb153 : Below w9.heap.size w9 (w152.drewN m153) := below_drewN hb152 m153
      generalize w152.drewN m153 = w153 at *
      (try go_wp2_with fail)
      refine hK.out _ _ ⟨(by (repeat (first | exact Below.refl _ _ | assumption | refine below_drew0 ?_ | refine below_alloc0 ?_ _))), E1.out _ (by (repeat (first | exact Below.refl _ _ | assumption | refine below_drew0 ?_ | refine below_alloc0 ?_ _)))⟩ (fun hHeld => ?_)
      clear hK K
      try simp only [List.getElem_cons_succ, List.getElem_cons_zero, Act.put, List.setIfInBounds_toArray, List.set_cons_zero, List.set_cons_succ]
      refine take_at 12 (by kernel_rfl) (v := ?v192) (by kernel_rfl) (by kernel_rfl) (by kernel_rfl) (fun _ _ _ h => h) (by rfl) ?y192 (by assumption) ?r192
      case y192 => (intro w hSw; (try dsimp only at hSw); simp only [List.getElem_cons_succ, List.getElem_cons_zero]; go_simp; (try with_reducible rfl))
      try simp only [List.getElem_cons_succ, List.getElem_cons_zero, Act.put, List.setIfInBounds_toArray, List.set_cons_zero, List.set_cons_succ]
      refine take_at 13 (by kernel_rfl) (v := ?v193) (by kernel_rfl) (by kernel_rfl) (by kernel_rfl) (fun _ _ _ h => h) (by rfl) ?y193 (by assumption) ?r193
      case y193 => (intro w hSw; (try dsimp only at hSw); simp only [List.getElem_cons_succ, List.getElem_cons_zero]; go_simp; (try with_reducible rfl))
      try simp only [List.getElem_cons_succ, List.getElem_cons_zero, Act.put, List.setIfInBounds_toArray, List.set_cons_zero, List.set_cons_succ]
      refine take_at 14 (by kernel_rfl) (v := ?v194) (by kernel_rfl) (by kernel_rfl) (by kernel_rfl) (fun _ _ _ h => h) (by rfl) ?y194 (by assumption) ?r194
      case y194 => (intro w hSw; (try dsimp only at hSw); simp only [List.getElem_cons_succ, List.getElem_cons_zero]; go_simp; (try with_reducible rfl))
      try simp only [List.getElem_cons_succ, List.getElem_cons_zero, Act.put, List.setIfInBounds_toArray, List.set_cons_zero, List.set_cons_succ]
      refine take_at 15 (by kernel_rfl) (v := ?v195) (by kernel_rfl) (by kernel_rfl) (by kernel_rfl) (fun _ _ _ h => h) (by rfl) ?y195 (by assumption) ?r195
      case y195 => (intro w hSw; (try dsimp only at hSw); simp only [List.getElem_cons_succ, List.getElem_cons_zero]; go_simp; (try with_reducible rfl))
      try simp only [List.getElem_cons_succ, List.getElem_cons_zero, Act.put, List.setIfInBounds_toArray, List.set_cons_zero, List.set_cons_succ]
      refine take_at 16 (by kernel_rfl) (v := ?v196) (by kernel_rfl) (by kernel_rfl) (by kernel_rfl) (fun _ _ _ h => h) (by rfl) ?y196 (by assumption) ?r196
      case y196 => (intro w hSw; (try dsimp only at hSw); simp only [List.getElem_cons_succ, List.getElem_cons_zero]; go_simp; (try with_reducible rfl))
      try simp only [List.getElem_cons_succ, List.getElem_cons_zero, Act.put, List.setIfInBounds_toArray, List.set_cons_zero, List.set_cons_succ]
      refine take_at 17 (by kernel_rfl) (v := ?v197) (by kernel_rfl) (by kernel_rfl) (by kernel_rfl) (fun _ _ _ h => h) (by rfl) ?y197 (by assumption) ?r197
      case y197 => (intro w hSw; (try dsimp only at hSw); simp only [List.getElem_cons_succ, List.getElem_cons_zero]; go_simp; (try with_reducible rfl))
      try simp only [List.getElem_cons_succ, List.getElem_cons_zero, Act.put, List.setIfInBounds_toArray, List.set_cons_zero, List.set_cons_succ]
      refine take_at 18 (by kernel_rfl) (v := ?v198) (by kernel_rfl) (by kernel_rfl) (by kernel_rfl) (fun _ _ _ h => h) (by rfl) ?y198 (by assumption) ?r198
      case y198 => (intro w hSw; (try dsimp only at hSw); simp only [List.getElem_cons_succ, List.getElem_cons_zero]; go_simp; (try with_reducible rfl))
      try simp only [List.getElem_cons_succ, List.getElem_cons_zero, Act.put, List.setIfInBounds_toArray, List.set_cons_zero, List.set_cons_succ]
      refine ready_at 19 (by kernel_rfl) (by kernel_rfl) (fun K hK => ?_)
      simp only [List.getElem_cons_succ, List.getElem_cons_zero]
      go_simp
      go_at_call 25
      refine (two_any _).mono ?_
      rintro e w154 ⟨g154, rfl, N154⟩
      have hb154 : Below w9.heap.size w9 w154 := below_next hb153 N154.below
      have l154 : (loadM mt (.pointer (some ⟨g154, 3, none⟩))).run Try.prog w154 = .ok (.value (mv v3)) w154 := N154.load 1 (by decide)
      (try go_wp2_with fail)
      refine hK.out _ _ ⟨(by (repeat (first | exact Below.refl _ _ | assumption | refine below_drew0 ?_ | refine below_alloc0 ?_ _))), E1.out _ (by (repeat (first | exact Below.refl _ _ | assumption | refine below_drew0 ?_ | refine below_alloc0 ?_ _)))⟩ (fun hHeld => ?_)
      clear hK K
      try simp only [List.getElem_cons_succ, List.getElem_cons_zero, Act.put, List.setIfInBounds_toArray, List.set_cons_zero, List.set_cons_succ]
      refine take_at 20 (by kernel_rfl) (v := ?v199) (by kernel_rfl) (by kernel_rfl) (by kernel_rfl) (fun _ _ _ h => h) (by rfl) ?y199 (by assumption) ?r199
      case y199 => (intro w hSw; (try dsimp only at hSw); simp only [List.getElem_cons_succ, List.getElem_cons_zero]; go_simp; (try with_reducible rfl))
      try simp only [List.getElem_cons_succ, List.getElem_cons_zero, Act.put, List.setIfInBounds_toArray, List.set_cons_zero, List.set_cons_succ]
      refine ready_at 21 (by kernel_rfl) (by kernel_rfl) (fun K hK => ?_)
      simp only [List.getElem_cons_succ, List.getElem_cons_zero]
      go_simp
      refine hK.out _ _ ⟨(by (repeat (first | exact Below.refl _ _ | assumption | refine below_drew0 ?_ | refine below_alloc0 ?_ _))), E1.out _ (by (repeat (first | exact Below.refl _ _ | assumption | refine below_drew0 ?_ | refine below_alloc0 ?_ _)))⟩ (fun hHeld => ?_)
      clear hK K
      try simp only [List.getElem_cons_succ, List.getElem_cons_zero, Act.put, List.setIfInBounds_toArray, List.set_cons_zero, List.set_cons_succ]
      refine take_at 22 (by kernel_rfl) (v := ?v200) (by kernel_rfl) (by kernel_rfl) (by kernel_rfl) (fun _ _ _ h => h) (by rfl) ?y200 (by assumption) ?r200
      case y200 => (intro w hSw; (try dsimp only at hSw); simp only [List.getElem_cons_succ, List.getElem_cons_zero]; go_simp; (try with_reducible rfl))
      try simp only [List.getElem_cons_succ, List.getElem_cons_zero, Act.put, List.setIfInBounds_toArray, List.set_cons_zero, List.set_cons_succ]
      refine take_at 23 (by kernel_rfl) (v := ?v201) (by kernel_rfl) (by kernel_rfl) (by kernel_rfl) (fun _ _ _ h => h) (by rfl) ?y201 (by assumption) ?r201
      case y201 => (intro w hSw; (try dsimp only at hSw); simp only [List.getElem_cons_succ, List.getElem_cons_zero]; go_simp; (try with_reducible rfl))
      try simp only [List.getElem_cons_succ, List.getElem_cons_zero, Act.put, List.setIfInBounds_toArray, List.set_cons_zero, List.set_cons_succ]
      refine take_at 24 (by kernel_rfl) (v := ?v202) (by kernel_rfl) (by kernel_rfl) (by kernel_rfl) (fun _ _ _ h => h) (by rfl) ?y202 (by assumption) ?r202
      case y202 => (intro w hSw; (try dsimp only at hSw); simp only [List.getElem_cons_succ, List.getElem_cons_zero]; go_simp; (try with_reducible rfl))
      try simp only [List.getElem_cons_succ, List.getElem_cons_zero, Act.put, List.setIfInBounds_toArray, List.set_cons_zero, List.set_cons_succ]
      refine take_at 25 (by kernel_rfl) (v := ?v203) (by kernel_rfl) (by kernel_rfl) (by kernel_rfl) (fun _ _ _ h => h) (by rfl) ?y203 (by assumption) ?r203
      case y203 => (intro w hSw; (try dsimp only at hSw); simp only [List.getElem_cons_succ, List.getElem_cons_zero]; go_simp; (try with_reducible rfl))
      try simp only [List.getElem_cons_succ, List.getElem_cons_zero, Act.put, List.setIfInBounds_toArray, List.set_cons_zero, List.set_cons_succ]
      refine take_at 26 (by kernel_rfl) (v := ?v204) (by kernel_rfl) (by kernel_rfl) (by kernel_rfl) (fun _ _ _ h => h) (by rfl) ?y204 (by assumption) ?r204
      case y204 => (intro w hSw; (try dsimp only at hSw); simp only [List.getElem_cons_succ, List.getElem_cons_zero]; go_simp; (try with_reducible rfl))
      try simp only [List.getElem_cons_succ, List.getElem_cons_zero, Act.put, List.setIfInBounds_toArray, List.set_cons_zero, List.set_cons_succ]
      refine take_at 27 (by kernel_rfl) (v := ?v205) (by kernel_rfl) (by kernel_rfl) (by kernel_rfl) (fun _ _ _ h => h) (by rfl) ?y205 (by assumption) ?r205
      case y205 => (intro w hSw; (try dsimp only at hSw); simp only [List.getElem_cons_succ, List.getElem_cons_zero]; go_simp; (try with_reducible rfl))
      try simp only [List.getElem_cons_succ, List.getElem_cons_zero, Act.put, List.setIfInBounds_toArray, List.set_cons_zero, List.set_cons_succ]
      refine take_at 28 (by kernel_rfl) (v := ?v206) (by kernel_rfl) (by kernel_rfl) (by kernel_rfl) (fun _ _ _ h => h) (by rfl) ?y206 (by assumption) ?r206
      case y206 => (intro w hSw; (try dsimp only at hSw); simp only [List.getElem_cons_succ, List.getElem_cons_zero]; go_simp; (try with_reducible rfl))
      try simp only [List.getElem_cons_succ, List.getElem_cons_zero, Act.put, List.setIfInBounds_toArray, List.set_cons_zero, List.set_cons_succ]
      refine take_at 29 (by kernel_rfl) (v := ?v207) (by kernel_rfl) (by kernel_rfl) (by kernel_rfl) (fun _ _ _ h => h) (by rfl) ?y207 (by assumption) ?r207
      case y207 => (intro w hSw; (try dsimp only at hSw); simp only [List.getElem_cons_succ, List.getElem_cons_zero]; go_simp; (try with_reducible rfl))
      try simp only [List.getElem_cons_succ, List.getElem_cons_zero, Act.put, List.setIfInBounds_toArray, List.set_cons_zero, List.set_cons_succ]
      refine take_at 30 (by kernel_rfl) (v := ?v208) (by kernel_rfl) (by kernel_rfl) (by kernel_rfl) (fun _ _ _ h => h) (by rfl) ?y208 (by assumption) ?r208
      case y208 => (intro w hSw; (try dsimp only at hSw); simp only [List.getElem_cons_succ, List.getElem_cons_zero]; go_simp; (try with_reducible rfl))
      try simp only [List.getElem_cons_succ, List.getElem_cons_zero, Act.put, List.setIfInBounds_toArray, List.set_cons_zero, List.set_cons_succ]
      refine take_at 31 (by kernel_rfl) (v := ?v209) (by kernel_rfl) (by kernel_rfl) (by kernel_rfl) (fun _ _ _ h => h) (by rfl) ?y209 (by assumption) ?r209
      case y209 => (intro w hSw; (try dsimp only at hSw); simp only [List.getElem_cons_succ, List.getElem_cons_zero]; go_simp; (try with_reducible rfl))
      try simp only [List.getElem_cons_succ, List.getElem_cons_zero, Act.put, List.setIfInBounds_toArray, List.set_cons_zero, List.set_cons_succ]
      refine take_at 32 (by kernel_rfl) (v := ?v210) (by kernel_rfl) (by kernel_rfl) (by kernel_rfl) (fun _ _ _ h => h) (by rfl) ?y210 (by assumption) ?r210
      case y210 => (intro w hSw; (try dsimp only at hSw); simp only [List.getElem_cons_succ, List.getElem_cons_zero]; go_simp; (try with_reducible rfl))
      try simp only [List.getElem_cons_succ, List.getElem_cons_zero, Act.put, List.setIfInBounds_toArray, List.set_cons_zero, List.set_cons_succ]
      refine take_at 33 (by kernel_rfl) (v := ?v211) (by kernel_rfl) (by kernel_rfl) (by kernel_rfl) (fun _ _ _ h => h) (by rfl) ?y211 (by assumption) ?r211
      case y211 => (intro w hSw; (try dsimp only at hSw); simp only [List.getElem_cons_succ, List.getElem_cons_zero]; go_simp; (try with_reducible rfl))
      try simp only [List.getElem_cons_succ, List.getElem_cons_zero, Act.put, List.setIfInBounds_toArray, List.set_cons_zero, List.set_cons_succ]
      refine take_at 34 (by kernel_rfl) (v := ?v212) (by kernel_rfl) (by kernel_rfl) (by kernel_rfl) (fun _ _ _ h => h) (by rfl) ?y212 (by assumption) ?r212
      case y212 => (intro w hSw; (try dsimp only at hSw); simp only [List.getElem_cons_succ, List.getElem_cons_zero]; go_simp; (try with_reducible rfl))
      try simp only [List.getElem_cons_succ, List.getElem_cons_zero, Act.put, List.setIfInBounds_toArray, List.set_cons_zero, List.set_cons_succ]
      refine take_at 35 (by kernel_rfl) (v := ?v213) (by kernel_rfl) (by kernel_rfl) (by kernel_rfl) (fun _ _ _ h => h) (by rfl) ?y213 (by assumption) ?r213
      case y213 => (intro w hSw; (try dsimp only at hSw); simp only [List.getElem_cons_succ, List.getElem_cons_zero]; go_simp; (try with_reducible rfl))
      try simp only [List.getElem_cons_succ, List.getElem_cons_zero, Act.put, List.setIfInBounds_toArray, List.set_cons_zero, List.set_cons_succ]
      refine take_at 36 (by kernel_rfl) (v := ?v214) (by kernel_rfl) (by kernel_rfl) (by kernel_rfl) (fun _ _ _ h => h) (by rfl) ?y214 (by assumption) ?r214
      case y214 => (intro w hSw; (try dsimp only at hSw); simp only [List.getElem_cons_succ, List.getElem_cons_zero]; go_simp; (try with_reducible rfl))
      try simp only [List.getElem_cons_succ, List.getElem_cons_zero, Act.put, List.setIfInBounds_toArray, List.set_cons_zero, List.set_cons_succ]
      refine wpAnyH_done (by kernel_rfl) ?_ _
      go_wp2_with fail
      go_ret
      exact ⟨rfl, below_next B9.out hb154⟩
end
end
end Go.Proofs.Ytocfcfoocmkkdaa
