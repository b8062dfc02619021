/-
  The program's Merge and Refute.
-/
import Derived.Test.YtfnmgjmdlihpgaaMbC
namespace Go.Proofs.Ytfnmgjmdlihpgaa
set_option linter.unusedSimpArgs false
set_option linter.unusedVariables false
open Go.RowKit Sha
/-- Two words that a call was given, and the one that it answers. -/
abbrev triM (a b r : Mb) (w : World) : World := (twoM a b w).alloc (.cells (mc r).toArray mt)
structure TriM (a b r : Mb) (w0 w : World) : Prop where
  two : TwoM a b w0 w
  k3 : Blk w (w0.heap.size + 1 + 1) (mc r) mt
theorem TriM.new (a b r : Mb) (w : World) : TriM a b r w (triM a b r w) := by
  have hk3 := Blk.new (twoM a b w) (mc r).toArray mt
  rw [show (twoM a b w).heap.size = w.heap.size + 1 + 1 by simp [World.size_alloc]] at hk3
  exact ⟨(TwoM.new a b w).on ((Below.refl _ _).alloc (Nat.le_refl _) _), hk3⟩
theorem TriM.zero (a b : Mb) (w : World) : TriM a b Mb.none w ((twoM a b w).alloc (.cells #[.int .i64 0, .int .i64 0, .int .i64 0] mt)) := TriM.new a b Mb.none w
theorem TriM.on {a b r : Mb} {w0 w w' : World} (h : TriM a b r w0 w) (hb : Below w.heap.size w w') : TriM a b r w0 w' := ⟨h.two.on hb, h.k3.upon hb⟩
theorem TriM.below {a b r : Mb} {w0 w : World} (h : TriM a b r w0 w) : Below w0.heap.size w0 w := h.two.below
theorem TriM.l1 {a b r : Mb} {w0 w : World} (h : TriM a b r w0 w) : (loadM mt (.pointer (some ⟨w0.heap.size, 0, none⟩))).run Try.prog w = .ok (.value (mv a)) w := h.two.l1
theorem TriM.l2 {a b r : Mb} {w0 w : World} (h : TriM a b r w0 w) : (loadM mt (.pointer (some ⟨w0.heap.size + 1, 0, none⟩))).run Try.prog w = .ok (.value (mv b)) w := h.two.l2
theorem TriM.st0 {a b r : Mb} {w0 w : World} (h : TriM a b r w0 w) : (storeM mt (.pointer (some ⟨w0.heap.size + 1 + 1, 0, none⟩)) (.agg #[.int .i64 0, .int .i64 0, .int .i64 0])).run Try.prog w = .ok .skip (w.setRow (w0.heap.size + 1 + 1) (mc Mb.none).toArray) := run_storeM (a := Mb.none) h.k3
theorem TriM.st {a b r : Mb} {w0 w : World} (h : TriM a b r w0 w) (x : Mb) : (storeM mt (.pointer (some ⟨w0.heap.size + 1 + 1, 0, none⟩)) (mv x)).run Try.prog w = .ok .skip (w.setRow (w0.heap.size + 1 + 1) (mc x).toArray) := run_storeM h.k3
theorem TriM.set {a b r : Mb} {w0 w : World} (h : TriM a b r w0 w) (x : Mb) : TriM a b x w0 (w.setRow (w0.heap.size + 1 + 1) (mc x).toArray) :=
  ⟨⟨h.two.k1.rowOther _ (by omega), h.two.k2.rowOther _ (by omega), Below.setRow h.below (by omega) _⟩, h.k3.row (mc x)⟩
theorem results_m1 {fn : Func} {p u : Tmp} (h : fn.results = #[.cell p mt, .tmp u]) (tmps : Array Value) (w : World) (g : Nat) (x : Mb) (v : Value)
    (hp : tmps.getD p undef = .pointer (some ⟨g, 0, none⟩)) (hu : tmps.getD u undef = v) (hg : Blk w g (mc x) mt) :
    (results fn tmps).run Try.prog w = .ok (.tuple #[mv x, v]) w := by
  have hp' : tmps[p]?.getD undef = .pointer (some ⟨g, 0, none⟩) := by simpa using hp
  have hu' : tmps[u]?.getD undef = v := by simpa using hu
  have e1 := run_loadVar_row (P := Try.prog) w g mt mt (mc x).toArray (0, 0) _ hg Try.underlying23 rfl mem_size
  simp [results, h, hp', hu', asAddr, e1]
theorem results_m2 {fn : Func} {p u u2 : Tmp} (h : fn.results = #[.cell p mt, .tmp u, .tmp u2]) (tmps : Array Value) (w : World) (g : Nat) (x : Mb) (v v2 : Value)
    (hp : tmps.getD p undef = .pointer (some ⟨g, 0, none⟩)) (hu : tmps.getD u undef = v) (hu2 : tmps.getD u2 undef = v2) (hg : Blk w g (mc x) mt) :
    (results fn tmps).run Try.prog w = .ok (.tuple #[mv x, v, v2]) w := by
  have hp' : tmps[p]?.getD undef = .pointer (some ⟨g, 0, none⟩) := by simpa using hp
  have hu' : tmps[u]?.getD undef = v := by simpa using hu
  have hu2' : tmps[u2]?.getD undef = v2 := by simpa using hu2
  have e1 := run_loadVar_row (P := Try.prog) w g mt mt (mc x).toArray (0, 0) _ hg Try.underlying23 rfl mem_size
  simp [results, h, hp', hu', hu2', asAddr, e1]
theorem TriM.inc {a b r : Mb} {w0 w : World} (h : TriM a b r w0 w) (x : Int) : TriM ⟨a.I, a.S, x⟩ b r w0 (w.setCell ⟨w0.heap.size, 2, none⟩ (.int .i64 x)) :=
  ⟨⟨h.two.k1.set 2 _, h.two.k2.setOther _ _ (by simp), Below.setCell h.below (Nat.le_refl _) _⟩, h.k3.setOther _ _ (by simp; omega)⟩
theorem stat_any (m : Mb) (w : World) : Calls Try.prog 27 #[mv m] w (ErrDone m.S w) := (statusOf_any m w).mono fun e w' ⟨he, hw⟩ => ⟨he, by subst hw; exact (Below.refl _ _).alloc (Nat.le_refl _) _⟩
section
attribute [local go_sem ↓] execOp_loadM execOp_storeM
def MbDone (x : Mb) (z : Int) (w : World) (e : Ending) (w' : World) : Prop := e = .returned (.tuple #[mv x, .int .i64 z]) ∧ Below w.heap.size w w'
set_option maxHeartbeats 1000000 in
theorem merge_any (a b : Mb) (w : World) : Calls Try.prog 8 #[mv a, mv b] w (MbDone (a.merge b) (a.berr b) w) := by
  have HT := Lib.hid (TriM.zero a b w)
  have l1 := HT.out.l1
  have l2 := HT.out.l2
  by_cases h : a.Both b
  · have HA := Lib.hid (both_ok h)
    have HE := Lib.hid (show a.berr b = 0 from if_pos h)
    by_cases hu : a.Up b
    · have HV := Lib.hid (show a.merge b = a from by unfold Mb.merge; rw [if_pos h, if_pos hu])
      have t1 : decide (0 < ordM a b) = true := decide_eq_true ((ordM_pos a b).2 hu)
      clear h hu
      go_enter Try.func8, Try.ntmps8
      go_wp2_with fail
      refine (HA.out _).mono ?_
      rintro e w1 ⟨rfl, hb1⟩
      have T1 := Lib.hid (HT.out.on hb1)
      have m1 := T1.out.l1
      have m2 := T1.out.l2
      clear hb1 l1 l2
      go_wp2_with fail
      refine (order_any a b _).mono ?_
      rintro e w2 ⟨rfl, hb2⟩
      have T2 := Lib.hid (T1.out.on hb2)
      have k1 := T2.out.l1
      have s1 := T2.out.st a
      have T3 := Lib.hid (T2.out.set a)
      clear hb2 m1 m2
      generalize w2.setRow (w.heap.size + 1 + 1) (mc a).toArray = w3 at *
      go_wp2_with fail
      exact bodyPost_ret (results_m1 rfl _ _ _ a (.int .i64 0) rfl rfl T3.out.k3) rfl ⟨by rw [HV.out, HE.out], T3.out.below⟩
    · have HV := Lib.hid (show a.merge b = b from by unfold Mb.merge; rw [if_pos h, if_neg hu])
      have t1 : decide (0 < ordM a b) = false := decide_eq_false (fun x => hu ((ordM_pos a b).1 x))
      clear h hu
      go_enter Try.func8, Try.ntmps8
      go_wp2_with fail
      refine (HA.out _).mono ?_
      rintro e w1 ⟨rfl, hb1⟩
      have T1 := Lib.hid (HT.out.on hb1)
      have m1 := T1.out.l1
      have m2 := T1.out.l2
      clear hb1 l1 l2
      go_wp2_with fail
      refine (order_any a b _).mono ?_
      rintro e w2 ⟨rfl, hb2⟩
      have T2 := Lib.hid (T1.out.on hb2)
      have k1 := T2.out.l2
      have s1 := T2.out.st b
      have T3 := Lib.hid (T2.out.set b)
      clear hb2 m1 m2
      generalize w2.setRow (w.heap.size + 1 + 1) (mc b).toArray = w3 at *
      go_wp2_with fail
      exact bodyPost_ret (results_m1 rfl _ _ _ b (.int .i64 0) rfl rfl T3.out.k3) rfl ⟨by rw [HV.out, HE.out], T3.out.below⟩
  · have HA := Lib.hid (both_no h)
    have HV := Lib.hid (show a.merge b = Mb.none from if_neg h)
    have HE := Lib.hid (show a.berr b = 2 from if_neg h)
    clear h
    go_enter Try.func8, Try.ntmps8
    go_wp2_with fail
    refine (HA.out _).mono ?_
    rintro e w1 ⟨rfl, hb1⟩
    have T1 := Lib.hid (HT.out.on hb1)
    have s1 := T1.out.st0
    have T2 := Lib.hid (T1.out.set Mb.none)
    clear hb1
    generalize w1.setRow (w.heap.size + 1 + 1) (mc Mb.none).toArray = w2 at *
    go_wp2_with fail
    exact bodyPost_ret (results_m1 rfl _ _ _ Mb.none (.int .i64 2) rfl rfl T2.out.k3) rfl ⟨by rw [HV.out, HE.out], T2.out.below⟩
def RefDone (z : Mb × Bool × Int) (w : World) (e : Ending) (w' : World) : Prop := e = .returned (.tuple #[mv z.1, .bool z.2.1, .int .i64 z.2.2]) ∧ Below w.heap.size w w'
set_option maxHeartbeats 2000000 in
theorem refute_any (a b : Mb) (w : World) : Calls Try.prog 10 #[mv a, mv b] w (RefDone (a.refute b) w) := by
  have HT := Lib.hid (TriM.zero a b w)
  have l1 := HT.out.l1
  have l2 := HT.out.l2
  by_cases h : a.Both b
  · have HA := Lib.hid (both_ok h)
    by_cases hs : a.S = 1
    · have t1 : (a.S != 1) = false := by simpa using hs
      by_cases hw : b.S = 1
      · have t2 : (b.S == 1) = true := by simpa using hw
        have HV := Lib.hid (show a.refute b = (⟨a.I, a.S, if a.N < b.N then b.N else a.N⟩, false, 0) from by unfold Mb.refute; rw [if_neg (fun x => x.elim (fun y => y h) (fun y => y hs)), if_pos hw])
        clear h hs hw
        go_enter Try.func10, Try.ntmps10
        go_wp2_with fail
        refine (HA.out _).mono ?_
        rintro e w1 ⟨rfl, hb1⟩
        have T1 := Lib.hid (HT.out.on hb1)
        have m1 := T1.out.l1
        clear hb1
        go_wp2_with fail
        refine (stat_any a _).mono ?_
        rintro e w2 ⟨rfl, hb2⟩
        have T2 := Lib.hid (T1.out.on hb2)
        clear m1
        have m2 := T2.out.l2
        clear hb2
        go_wp2_with fail
        refine (stat_any b _).mono ?_
        rintro e w3 ⟨rfl, hb3⟩
        have T3 := Lib.hid (T2.out.on hb3)
        clear m2
        have c1 : w3.cell? ⟨w.heap.size, 2, none⟩ = some (.int .i64 a.N) := T3.out.two.k1.cell 2
        have c2 : w3.cell? ⟨w.heap.size + 1, 2, none⟩ = some (.int .i64 b.N) := T3.out.two.k2.cell 2
        have z1 := T3.out.two.k1.free 2
        clear hb3
        have TA := Lib.hid (T3.out.inc a.N)
        have ka := TA.out.l1
        have sa := TA.out.st ⟨a.I, a.S, a.N⟩
        have UA := Lib.hid (TA.out.set ⟨a.I, a.S, a.N⟩)
        have TB := Lib.hid (T3.out.inc b.N)
        have kb := TB.out.l1
        have sb := TB.out.st ⟨a.I, a.S, b.N⟩
        have UB := Lib.hid (TB.out.set ⟨a.I, a.S, b.N⟩)
        generalize (w3.setCell ⟨w.heap.size, 2, none⟩ (.int .i64 a.N)).setRow (w.heap.size + 1 + 1) (mc ⟨a.I, a.S, a.N⟩).toArray = w4 at *
        generalize (w3.setCell ⟨w.heap.size, 2, none⟩ (.int .i64 b.N)).setRow (w.heap.size + 1 + 1) (mc ⟨a.I, a.S, b.N⟩).toArray = w5 at *
        go_wp2_with fail
        · exact bodyPost_ret (results_m2 rfl _ _ _ ⟨a.I, a.S, b.N⟩ (.bool false) (.int .i64 0) rfl rfl rfl UB.out.k3) rfl ⟨by rw [HV.out, if_pos (by omega)], UB.out.below⟩
        · exact bodyPost_ret (results_m2 rfl _ _ _ ⟨a.I, a.S, a.N⟩ (.bool false) (.int .i64 0) rfl rfl rfl UA.out.k3) rfl ⟨by rw [HV.out, if_neg (by omega)], UA.out.below⟩
      · have t2 : (b.S == 1) = false := by simpa using hw
        by_cases hn : b.N < a.N
        · have t3 : decide (b.N < a.N) = true := decide_eq_true hn
          have HV := Lib.hid (show a.refute b = (a, false, 0) from by unfold Mb.refute; rw [if_neg (fun x => x.elim (fun y => y h) (fun y => y hs)), if_neg hw, if_pos hn])
          clear h hs hw hn
          go_enter Try.func10, Try.ntmps10
          go_wp2_with fail
          refine (HA.out _).mono ?_
          rintro e w1 ⟨rfl, hb1⟩
          have T1 := Lib.hid (HT.out.on hb1)
          have m1 := T1.out.l1
          clear hb1
          go_wp2_with fail
          refine (stat_any a _).mono ?_
          rintro e w2 ⟨rfl, hb2⟩
          have T2 := Lib.hid (T1.out.on hb2)
          clear m1
          have m2 := T2.out.l2
          clear hb2
          go_wp2_with fail
          refine (stat_any b _).mono ?_
          rintro e w3 ⟨rfl, hb3⟩
          have T3 := Lib.hid (T2.out.on hb3)
          clear m2
          have c1 : w3.cell? ⟨w.heap.size, 2, none⟩ = some (.int .i64 a.N) := T3.out.two.k1.cell 2
          have c2 : w3.cell? ⟨w.heap.size + 1, 2, none⟩ = some (.int .i64 b.N) := T3.out.two.k2.cell 2
          have k1 := T3.out.l1
          clear hb3
          have s1 := T3.out.st a
          have T4 := Lib.hid (T3.out.set (a))
          generalize w3.setRow (w.heap.size + 1 + 1) (mc (a)).toArray = w4 at *
          go_wp2_with fail
          exact bodyPost_ret (results_m2 rfl _ _ _ (a) (.bool false) (.int .i64 0) rfl rfl rfl T4.out.k3) rfl ⟨by rw [HV.out], T4.out.below⟩
        · have t3 : decide (b.N < a.N) = false := decide_eq_false hn
          by_cases hx : b.N = 2147483647
          · have t4 : (b.N == 2147483647) = true := by simpa using hx
            have HV := Lib.hid (show a.refute b = (Mb.none, false, 5) from by unfold Mb.refute; rw [if_neg (fun x => x.elim (fun y => y h) (fun y => y hs)), if_neg hw, if_neg hn, if_pos hx])
            clear h hs hw hn hx
            go_enter Try.func10, Try.ntmps10
            go_wp2_with fail
            refine (HA.out _).mono ?_
            rintro e w1 ⟨rfl, hb1⟩
            have T1 := Lib.hid (HT.out.on hb1)
            have m1 := T1.out.l1
            clear hb1
            go_wp2_with fail
            refine (stat_any a _).mono ?_
            rintro e w2 ⟨rfl, hb2⟩
            have T2 := Lib.hid (T1.out.on hb2)
            clear m1
            have m2 := T2.out.l2
            clear hb2
            go_wp2_with fail
            refine (stat_any b _).mono ?_
            rintro e w3 ⟨rfl, hb3⟩
            have T3 := Lib.hid (T2.out.on hb3)
            clear m2
            have c1 : w3.cell? ⟨w.heap.size, 2, none⟩ = some (.int .i64 a.N) := T3.out.two.k1.cell 2
            have c2 : w3.cell? ⟨w.heap.size + 1, 2, none⟩ = some (.int .i64 b.N) := T3.out.two.k2.cell 2
            clear hb3
            have s1 := T3.out.st0
            have T4 := Lib.hid (T3.out.set (Mb.none))
            generalize w3.setRow (w.heap.size + 1 + 1) (mc (Mb.none)).toArray = w4 at *
            go_wp2_with fail
            exact bodyPost_ret (results_m2 rfl _ _ _ (Mb.none) (.bool false) (.int .i64 5) rfl rfl rfl T4.out.k3) rfl ⟨by rw [HV.out], T4.out.below⟩
          · have t4 : (b.N == 2147483647) = false := by simpa using hx
            have HV := Lib.hid (show a.refute b = (⟨a.I, a.S, b.N + 1⟩, true, 0) from by unfold Mb.refute; rw [if_neg (fun x => x.elim (fun y => y h) (fun y => y hs)), if_neg hw, if_neg hn, if_neg hx])
            have hwr : wrap64 (b.N + 1) = b.N + 1 := IntWalk.wrap64_in _ (by have := h.2.1.2.2; omega)
            have hwr2 : IntKind.i64.wrap (b.N + 1) = b.N + 1 := IntWalk.i64_in _ (by have := h.2.1.2.2; omega)
            clear h hs hw hn hx
            go_enter Try.func10, Try.ntmps10
            go_wp2_with fail
            refine (HA.out _).mono ?_
            rintro e w1 ⟨rfl, hb1⟩
            have T1 := Lib.hid (HT.out.on hb1)
            have m1 := T1.out.l1
            clear hb1
            go_wp2_with fail
            refine (stat_any a _).mono ?_
            rintro e w2 ⟨rfl, hb2⟩
            have T2 := Lib.hid (T1.out.on hb2)
            clear m1
            have m2 := T2.out.l2
            clear hb2
            go_wp2_with fail
            refine (stat_any b _).mono ?_
            rintro e w3 ⟨rfl, hb3⟩
            have T3 := Lib.hid (T2.out.on hb3)
            clear m2
            have c1 : w3.cell? ⟨w.heap.size, 2, none⟩ = some (.int .i64 a.N) := T3.out.two.k1.cell 2
            have c2 : w3.cell? ⟨w.heap.size + 1, 2, none⟩ = some (.int .i64 b.N) := T3.out.two.k2.cell 2
            have z1 := T3.out.two.k1.free 2
            clear hb3
            have TA := Lib.hid (T3.out.inc (b.N + 1))
            have ka := TA.out.l1
            have sa := TA.out.st ⟨a.I, a.S, b.N + 1⟩
            have UA := Lib.hid (TA.out.set ⟨a.I, a.S, b.N + 1⟩)
            generalize (w3.setCell ⟨w.heap.size, 2, none⟩ (.int .i64 (b.N + 1))).setRow (w.heap.size + 1 + 1) (mc ⟨a.I, a.S, b.N + 1⟩).toArray = w4 at *
            go_wp2_with fail
            exact bodyPost_ret (results_m2 rfl _ _ _ ⟨a.I, a.S, b.N + 1⟩ (.bool true) (.int .i64 0) rfl rfl rfl UA.out.k3) rfl ⟨by rw [HV.out], UA.out.below⟩
    · have t1 : (a.S != 1) = true := by simpa using hs
      have HV := Lib.hid (show a.refute b = (Mb.none, false, 2) from by unfold Mb.refute; rw [if_pos (Or.inr hs)])
      clear h hs
      go_enter Try.func10, Try.ntmps10
      go_wp2_with fail
      refine (HA.out _).mono ?_
      rintro e w1 ⟨rfl, hb1⟩
      have T1 := Lib.hid (HT.out.on hb1)
      have m1 := T1.out.l1
      clear hb1
      go_wp2_with fail
      refine (stat_any a _).mono ?_
      rintro e w2 ⟨rfl, hb2⟩
      have T2 := Lib.hid (T1.out.on hb2)
      clear m1
      clear hb2
      have s1 := T2.out.st0
      have T3 := Lib.hid (T2.out.set (Mb.none))
      generalize w2.setRow (w.heap.size + 1 + 1) (mc (Mb.none)).toArray = w3 at *
      go_wp2_with fail
      exact bodyPost_ret (results_m2 rfl _ _ _ (Mb.none) (.bool false) (.int .i64 2) rfl rfl rfl T3.out.k3) rfl ⟨by rw [HV.out], T3.out.below⟩
  · have HA := Lib.hid (both_no h)
    have HV := Lib.hid (show a.refute b = (Mb.none, false, 2) from by unfold Mb.refute; rw [if_pos (Or.inl h)])
    clear h
    go_enter Try.func10, Try.ntmps10
    go_wp2_with fail
    refine (HA.out _).mono ?_
    rintro e w1 ⟨rfl, hb1⟩
    have T1 := Lib.hid (HT.out.on hb1)
    clear hb1
    have s1 := T1.out.st0
    have T2 := Lib.hid (T1.out.set (Mb.none))
    generalize w1.setRow (w.heap.size + 1 + 1) (mc (Mb.none)).toArray = w2 at *
    go_wp2_with fail
    exact bodyPost_ret (results_m2 rfl _ _ _ (Mb.none) (.bool false) (.int .i64 2) rfl rfl rfl T2.out.k3) rfl ⟨by rw [HV.out], T2.out.below⟩
end
end Go.Proofs.Ytfnmgjmdlihpgaa
