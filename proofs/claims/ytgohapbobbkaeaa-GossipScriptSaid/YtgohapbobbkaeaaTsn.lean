/-
  The program's sooner: which of two tellings comes ahead.
-/
import Derived.Test.YtgohapbobbkaeaaTRow
namespace Go.Proofs.Ytgohapbobbkaeaa
set_option linter.unusedSimpArgs false
set_option linter.unusedVariables false
open Go.RowKit Sha
section
attribute [local go_sem ↓] execOp_loadM execOp_loadT
theorem sooner_eq (a b : Tl) : decide (firstN [cmpN (a.t : Int) (b.t : Int), cmpN a.m.I b.m.I] < 0) = decide (Gs.lt a b) := by
  rw [Bool.eq_iff_iff, decide_eq_true_iff, decide_eq_true_iff]
  unfold Gs.lt cmpN firstN firstN firstN
  (repeat' split) <;> omega
set_option maxRecDepth 100000 in
set_option maxHeartbeats 2000000 in
theorem sooner_any (a b : Tl) (w : World) : Calls Try.prog 27 #[tv a, tv b] w fun e w' => e = .returned (.bool (decide (Gs.lt a b))) ∧ Below w.heap.size w w' := by
  have hk1 := Blk.new w (tc a).toArray tt
  have hk2 := Blk.new (w.alloc (.cells (tc a).toArray tt)) (tc b).toArray tt
  have hk1 := hk1.old (.cells (tc b).toArray tt)
  have hb2 := ((Below.refl w.heap.size w).alloc (Nat.le_refl _) (.cells (tc a).toArray tt)).alloc (by simp) (.cells (tc b).toArray tt)
  rw [World.size_alloc] at hk2
  obtain ⟨I, W, hC⟩ := cls_of ((w.alloc (.cells (tc a).toArray tt)).alloc (.cells (tc b).toArray tt))
  have hne : Nonempty I := hC.ne
  have c1 := hC.cell (hk1.cell 0)
  have c2 := hC.cell (hk2.cell 0)
  have d1 := hC.cell (hk1.cell 3)
  have d2 := hC.cell (hk2.cell 3)
  have QI := Lib.hid (fun x y => hC.call (P := Try.prog) (f := 43) (args := #[.int .i64 x, .int .i64 y]) (v := .int .i64 (cmpN x y)) (fun w' hb => (cmpI x y w').mono fun e w'' ⟨he, hw⟩ => ⟨he, by subst hw; exact Below.refl _ _⟩))
  have HB := Lib.hid hb2
  have HC := Lib.hid hC
  clear hb2 hC hk1 hk2
  have HV := Lib.hid (sooner_eq a b)
  go_enter Try.func27, Try.ntmps27
  go_wp2_with fail
  refine region_cls_tail W 12 (by kernel_rfl) (by kernel_rfl) HC.out.one ?_
  simp only [List.take_succ_cons, List.take_zero, List.drop_succ_cons, List.drop_zero]
  repeat go_big_quiet_step ((go_at_call 43; exact QI.out _ _ _))
  refine wpQuiet_nil ?_
  rintro _ ⟨m, rfl⟩
  have hk := Blk.new (W m) #[Value.int .i64 (cmpN (a.t : Int) (b.t : Int)), Value.int .i64 (cmpN a.m.I b.m.I)] 3
  have HO := Lib.hid (or_first [cmpN (a.t : Int) (b.t : Int), cmpN a.m.I b.m.I] 2 rfl (W m).heap.size ((W m).alloc (.cells #[Value.int .i64 (cmpN (a.t : Int) (b.t : Int)), Value.int .i64 (cmpN a.m.I b.m.I)] 3)) (fun k h => by
    rw [hk.cell]
    simp only [List.length_cons, List.length_nil] at h
    match k, h with
    | 0, _ => rfl | 1, _ => rfl) (by omega))
  have HB2 := Lib.hid ((HB.out.trans ((HC.out.back m).mono HB.out.size)).alloc (HB.out.trans ((HC.out.back m).mono HB.out.size)).size (.cells #[Value.int .i64 (cmpN (a.t : Int) (b.t : Int)), Value.int .i64 (cmpN a.m.I b.m.I)] 3))
  clear hk
  go_wp2_with fail
  refine HO.out.mono ?_
  rintro e w9 ⟨rfl, rfl⟩
  go_wp2_with fail
  go_ret
  exact ⟨by rw [← HV.out]; rfl, HB2.out⟩
end
end Go.Proofs.Ytgohapbobbkaeaa
