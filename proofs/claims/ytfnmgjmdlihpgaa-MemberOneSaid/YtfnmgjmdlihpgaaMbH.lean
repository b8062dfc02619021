/-
  The law MemberOrder.
-/
import Derived.Test.YtfnmgjmdlihpgaaMbG
namespace Go.Proofs.Ytfnmgjmdlihpgaa
set_option linter.unusedSimpArgs false
set_option linter.unusedVariables false
open Go.RowKit Sha
theorem TriM.set2 {a b r : Mb} {w0 w : World} (h : TriM a b r w0 w) (x : Int) : TriM a ⟨x, b.S, b.N⟩ r w0 (w.setCell ⟨w0.heap.size + 1, 0, none⟩ (.int .i64 x)) :=
  ⟨h.two.set2 x, h.k3.setOther _ _ (by simp)⟩
theorem TriM.set3 {a b r : Mb} {w0 w : World} (h : TriM a b r w0 w) (x : Int) : TriM a b ⟨x, r.S, r.N⟩ w0 (w.setCell ⟨w0.heap.size + 1 + 1, 0, none⟩ (.int .i64 x)) :=
  ⟨⟨h.two.k1.setOther _ _ (by simp; omega), h.two.k2.setOther _ _ (by simp), Below.setCell h.two.below (by simp; omega) _⟩, h.k3.set 0 _⟩
section
attribute [local go_sem ↓] execOp_loadM execOp_storeM execOp_eqlM
set_option maxRecDepth 100000 in
set_option maxHeartbeats 4000000 in
theorem order_law (a b c : Mb) (w : World) : Calls Try.prog 6 #[mv a, mv b, mv c] w (BoolDone true w) := by
  have T0 := Lib.hid (TriM.new a b c w)
  go_enter Try.func6, Try.ntmps6
  go_wp2_with fail
  refine (awake_any _).mono ?_
  rintro e w1 ⟨rfl, hb1⟩
  have T1 := Lib.hid (T0.out.on hb1)
  clear hb1
  have c1 : w1.cell? ⟨w.heap.size, 0, none⟩ = some (.int .i64 a.I) := T1.out.two.k1.cell 0
  have c2 : w1.cell? ⟨w.heap.size + 1, 0, none⟩ = some (.int .i64 b.I) := T1.out.two.k2.cell 0
  have c3 : w1.cell? ⟨w.heap.size + 1 + 1, 0, none⟩ = some (.int .i64 c.I) := T1.out.k3.cell 0
  have z2 := T1.out.two.k2.free 0
  have z3 := T1.out.k3.free 0
  have T3 := Lib.hid (((T1.out.set2 a.I).set3 a.I).on (Below.refl _ _).drew)
  go_wp2_with fail
  go_region
  clear c1 c2 c3 z2 z3
  generalize ((w1.setCell ⟨w.heap.size + 1, 0, none⟩ (.int .i64 a.I)).setCell ⟨w.heap.size + 1 + 1, 0, none⟩ (.int .i64 a.I)).drew = w2 at *
  have e1 : (⟨a.I, b.S, b.N⟩ : Mb).I = a.I := rfl
  generalize hB : (⟨a.I, b.S, b.N⟩ : Mb) = b' at *
  generalize hC : (⟨a.I, c.S, c.N⟩ : Mb) = c' at *
  have hcI : c'.I = a.I := by rw [← hC]
  clear hB hC
  have l1 := T3.out.l1
  have l2 := T3.out.l2
  have l3 := T3.out.l3
  by_cases ha : a.May
  · by_cases hb : b'.May
    · by_cases hc : c'.May
      · have hab : a.Both b' := ⟨ha, hb, e1.symm⟩
        have hbc : b'.Both c' := ⟨hb, hc, by rw [e1, hcI]⟩
        have hac : a.Both c' := ⟨ha, hc, hcI.symm⟩
        go_wp2_with fail
        refine (check_ok ha _).mono ?_
        rintro e w3 ⟨rfl, hb3⟩
        have T4 := Lib.hid (T3.out.on hb3)
        have l1 := T4.out.l1
        have l2 := T4.out.l2
        have l3 := T4.out.l3
        clear hb3
        go_wp2_with fail
        refine (check_ok hb _).mono ?_
        rintro e w4 ⟨rfl, hb4⟩
        have T5 := Lib.hid (T4.out.on hb4)
        have l1 := T5.out.l1
        have l2 := T5.out.l2
        have l3 := T5.out.l3
        clear hb4
        go_wp2_with fail
        refine (check_ok hc _).mono ?_
        rintro e w5 ⟨rfl, hb5⟩
        have T6 := Lib.hid (T5.out.on hb5)
        have l1 := T6.out.l1
        have l2 := T6.out.l2
        have l3 := T6.out.l3
        clear hb5
        go_wp2_with fail
        obtain ⟨I, W, hK⟩ := cls_of w5
        have hne : Nonempty I := hK.ne
        have m1 := fun n => run_loadM (rangeM_on (rangeM_of T6.out.two.k1) (hK.back n))
        have m2 := fun n => run_loadM (rangeM_on (rangeM_of T6.out.two.k2) (hK.back n))
        have QO := Lib.hid (fun x y => hK.call (P := Try.prog) (f := 14) (args := #[mv x, mv y]) (v := .bool (decide (x.Over y))) (fun w' hb => over_any x y w'))
        have HK := Lib.hid hK
        clear hK
        refine wp_region_cls W (by kernel_rfl) (by kernel_rfl) HK.out.one ?_
        repeat go_big_quiet_step (((first | (go_at_call 14; exact QO.out _ _ _))))
        refine wpQuiet_nil ?_
        rintro _ ⟨m, rfl⟩
        have T7 := Lib.hid (T6.out.on (HK.out.back m))
        clear m1 m2 QO HK hne
        generalize W m = w6 at *
        have l1 := T7.out.l1
        have l2 := T7.out.l2
        have l3 := T7.out.l3
        rcases Mb.up_or hab.2.2 with hu | hu | hu
        · have ho1 : decide (a.Over b') = true := decide_eq_true ⟨hab, hu⟩
          have ho2 : decide (b'.Over a) = false := decide_eq_false (fun x => Mb.up_not hu x.2)
          have HQ := run_eqlM a b' false (by rw [eq_comm, decide_eq_false_iff_not]; rintro rfl; exact Mb.up_not hu hu)
          by_cases h2 : b'.Up c'
          · have h3 : a.Up c' := Mb.up_trans hu h2
            have O1 := Lib.hid (over_at (decide_eq_true (show b'.Over c' from ⟨hbc, h2⟩)))
            have O2 := Lib.hid (over_at (decide_eq_true (show a.Over c' from ⟨hac, h3⟩)))
            clear hu h2 h3 hab hbc hac ha hb hc
            go_wp2_with fail
            refine (O1.out _).mono ?_
            rintro e w7 ⟨rfl, hb7⟩
            have T8 := Lib.hid (T7.out.on hb7)
            have l1 := T8.out.l1
            have l2 := T8.out.l2
            have l3 := T8.out.l3
            clear hb7
            go_wp2_with fail
            refine (O2.out _).mono ?_
            rintro e w8 ⟨rfl, hb8⟩
            have T9 := Lib.hid (T8.out.on hb8)
            have l1 := T9.out.l1
            have l2 := T9.out.l2
            have l3 := T9.out.l3
            clear hb8
            go_wp2_with fail
            go_ret
            exact ⟨by simp, T9.out.below⟩
          · have O1 := Lib.hid (over_at (decide_eq_false (show ¬ b'.Over c' from fun x => h2 x.2)))
            clear hu h2 hab hbc hac ha hb hc
            go_wp2_with fail
            refine (O1.out _).mono ?_
            rintro e w7 ⟨rfl, hb7⟩
            have T8 := Lib.hid (T7.out.on hb7)
            have l1 := T8.out.l1
            have l2 := T8.out.l2
            have l3 := T8.out.l3
            clear hb7
            go_wp2_with fail
            go_ret
            exact ⟨by simp, T8.out.below⟩
        · have ho1 : decide (a.Over b') = false := decide_eq_false (fun x => Mb.up_not hu x.2)
          have ho2 : decide (b'.Over a) = true := decide_eq_true ⟨hab.symm, hu⟩
          have HQ := run_eqlM a b' false (by rw [eq_comm, decide_eq_false_iff_not]; rintro rfl; exact Mb.up_not hu hu)
          clear hu hab hbc hac ha hb hc
          go_wp2_with fail
          go_ret
          exact ⟨by simp, T7.out.below⟩
        · subst hu
          have ho1 : decide (a.Over a) = false := decide_eq_false (fun x => Mb.up_not x.2 x.2)
          have HQ := run_eqlM a a true (by simp)
          clear hab hbc hac ha hb hc
          go_wp2_with fail
          go_ret
          exact ⟨by simp, T7.out.below⟩
      · skip
        go_wp2_with fail
        refine (check_ok ha _).mono ?_
        rintro e w3 ⟨rfl, hb3⟩
        have T4 := Lib.hid (T3.out.on hb3)
        have l1 := T4.out.l1
        have l2 := T4.out.l2
        have l3 := T4.out.l3
        clear hb3
        go_wp2_with fail
        refine (check_ok hb _).mono ?_
        rintro e w4 ⟨rfl, hb4⟩
        have T5 := Lib.hid (T4.out.on hb4)
        have l1 := T5.out.l1
        have l2 := T5.out.l2
        have l3 := T5.out.l3
        clear hb4
        go_wp2_with fail
        refine (check_no hc _).mono ?_
        rintro e w5 ⟨rfl, hb5⟩
        have T6 := Lib.hid (T5.out.on hb5)
        have l1 := T6.out.l1
        have l2 := T6.out.l2
        have l3 := T6.out.l3
        clear hb5
        go_wp2_with fail
        refine (check_ok ha _).mono ?_
        rintro e w6 ⟨rfl, hb6⟩
        have T7 := Lib.hid (T6.out.on hb6)
        have l1 := T7.out.l1
        have l2 := T7.out.l2
        have l3 := T7.out.l3
        clear hb6
        go_wp2_with fail
        go_ret
        exact ⟨by simp, T7.out.below⟩
    · skip
      go_wp2_with fail
      refine (check_ok ha _).mono ?_
      rintro e w3 ⟨rfl, hb3⟩
      have T4 := Lib.hid (T3.out.on hb3)
      have l1 := T4.out.l1
      have l2 := T4.out.l2
      have l3 := T4.out.l3
      clear hb3
      go_wp2_with fail
      refine (check_no hb _).mono ?_
      rintro e w4 ⟨rfl, hb4⟩
      have T5 := Lib.hid (T4.out.on hb4)
      have l1 := T5.out.l1
      have l2 := T5.out.l2
      have l3 := T5.out.l3
      clear hb4
      go_wp2_with fail
      refine (check_ok ha _).mono ?_
      rintro e w5 ⟨rfl, hb5⟩
      have T6 := Lib.hid (T5.out.on hb5)
      have l1 := T6.out.l1
      have l2 := T6.out.l2
      have l3 := T6.out.l3
      clear hb5
      go_wp2_with fail
      go_ret
      exact ⟨by simp, T6.out.below⟩
  · have O1 := Lib.hid (over_at (decide_eq_false (show ¬ a.Over b' from fun x => ha x.1.1)))
    go_wp2_with fail
    refine (check_no ha _).mono ?_
    rintro e w3 ⟨rfl, hb3⟩
    have T4 := Lib.hid (T3.out.on hb3)
    have l1 := T4.out.l1
    have l2 := T4.out.l2
    have l3 := T4.out.l3
    clear hb3
    go_wp2_with fail
    refine (check_no ha _).mono ?_
    rintro e w4 ⟨rfl, hb4⟩
    have T5 := Lib.hid (T4.out.on hb4)
    have l1 := T5.out.l1
    have l2 := T5.out.l2
    have l3 := T5.out.l3
    clear hb4
    go_wp2_with fail
    refine (O1.out _).mono ?_
    rintro e w5 ⟨rfl, hb5⟩
    have T6 := Lib.hid (T5.out.on hb5)
    have l1 := T6.out.l1
    have l2 := T6.out.l2
    have l3 := T6.out.l3
    clear hb5
    go_wp2_with fail
    go_ret
    exact ⟨by simp, T6.out.below⟩
end
end Go.Proofs.Ytfnmgjmdlihpgaa
