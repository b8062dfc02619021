/-
  The laws MemberOrder and MemberRefutes.
-/
import Derived.Test.YtfnmgjmdlihpgaaMbF
namespace Go.Proofs.Ytfnmgjmdlihpgaa
set_option linter.unusedSimpArgs false
set_option linter.unusedVariables false
open Go.RowKit Sha
theorem TwoM.set1 {a b : Mb} {w0 w : World} (h : TwoM a b w0 w) (x : Int) : TwoM ⟨a.I, x, a.N⟩ b w0 (w.setCell ⟨w0.heap.size, 1, none⟩ (.int .i64 x)) :=
  ⟨h.k1.set 1 _, h.k2.setOther _ _ (by simp), Below.setCell h.below (Nat.le_refl _) _⟩
theorem TwoM.set2 {a b : Mb} {w0 w : World} (h : TwoM a b w0 w) (x : Int) : TwoM a ⟨x, b.S, b.N⟩ w0 (w.setCell ⟨w0.heap.size + 1, 0, none⟩ (.int .i64 x)) :=
  ⟨h.k1.setOther _ _ (by simp), h.k2.set 0 _, Below.setCell h.below (by simp) _⟩
theorem over_at {a b : Mb} {z : Bool} (h : decide (a.Over b) = z) (w : World) : Calls Try.prog 14 #[mv a, mv b] w (BoolDone z w) := by have := over_any a b w; rwa [h] at this
section
attribute [local go_sem ↓] execOp_loadM execOp_storeM execOp_eqlM
def Mb.one (a : Mb) : Mb := ⟨a.I, 1, a.N⟩
def Mb.same (a b : Mb) : Mb := ⟨a.I, b.S, b.N⟩
/-- What an answer is, where there is one. -/
theorem Mb.refute_ok0 (a b : Mb) (h : (Mb.refute a b).2.2 = 0) (hs : a.S = 1) : (Mb.refute a b).1.S = 1 ∧ (Mb.refute a b).1.I = a.I ∧ ¬ a.Over (Mb.refute a b).1 ∧ ¬ b.Over (Mb.refute a b).1 ∧
    ((Mb.refute a b).2.1 = true ↔ b.S ≠ 1 ∧ a.N ≤ b.N) ∧ (b.S ≠ 1 → ((Mb.refute a b).2.1 = true ↔ a.N < (Mb.refute a b).1.N)) := by
  unfold Mb.refute at *
  unfold Mb.Over Mb.Up
  split at h
  · cases h
  · rename_i h0
    have hb : a.Both b := Classical.byContradiction fun hn => h0 (Or.inl hn)
    rw [if_neg h0]
    have hi := hb.2.2
    split
    · rename_i h1
      refine ⟨hs, rfl, ?_, ?_, ?_, ?_⟩
      · rintro ⟨_, hu⟩; simp only at hu; split at hu <;> omega
      · rintro ⟨_, hu⟩; simp only at hu; split at hu <;> omega
      · simp [h1]
      · simp [h1]
    · rename_i h1
      rw [if_neg h1] at h
      split
      · rename_i h2
        refine ⟨hs, rfl, ?_, ?_, ?_, ?_⟩
        · rintro ⟨_, hu⟩; simp only at hu; omega
        · rintro ⟨_, hu⟩; simp only at hu; omega
        · simp; omega
        · simp
      · rename_i h2
        rw [if_neg h2] at h
        split
        · rename_i h3; rw [if_pos h3] at h; cases h
        · refine ⟨hs, rfl, ?_, ?_, ?_, ?_⟩
          · rintro ⟨_, hu⟩; simp only at hu; omega
          · rintro ⟨_, hu⟩; simp only at hu; omega
          · simp; omega
          · simp; omega
theorem Mb.refute_no (a b : Mb) (h : (Mb.refute a b).2.2 ≠ 0) : (Mb.refute a b).1 = Mb.none ∧ (Mb.refute a b).2.1 = false := by
  unfold Mb.refute at *
  split at h
  · rename_i h0; rw [if_pos h0]; exact ⟨rfl, rfl⟩
  · rename_i h0
    rw [if_neg h0]
    split
    · rename_i h1; rw [if_pos h1] at h; exact absurd rfl h
    · rename_i h1
      rw [if_neg h1] at h
      split
      · rename_i h2; rw [if_pos h2] at h; exact absurd rfl h
      · rename_i h2
        rw [if_neg h2] at h
        split
        · exact ⟨rfl, rfl⟩
        · rename_i h3; rw [if_neg h3] at h; exact absurd rfl h
set_option maxRecDepth 100000 in
set_option maxHeartbeats 4000000 in
theorem refutes_any (a b : Mb) (w : World) : Calls Try.prog 7 #[mv a, mv b] w (BoolDone true w) := by
  have HR := Lib.hid (refute_any ⟨a.I, 1, a.N⟩ ⟨a.I, b.S, b.N⟩)
  have hok := Mb.refute_ok0 ⟨a.I, 1, a.N⟩ ⟨a.I, b.S, b.N⟩
  have hno := Mb.refute_no ⟨a.I, 1, a.N⟩ ⟨a.I, b.S, b.N⟩
  generalize Mb.refute ⟨a.I, 1, a.N⟩ ⟨a.I, b.S, b.N⟩ = r at *
  obtain ⟨x, t, y⟩ := r
  simp only at hok hno
  by_cases hy : y = 0
  · subst hy
    obtain ⟨xs, xi, o1, o2, ht, hu⟩ := hok rfl trivial
    clear hok hno
    have t1 : (x.S != 1) = false := by simpa using xs
    have t2 : (x.I != a.I) = false := by simpa using xi
    have HO1 := Lib.hid (over_at (decide_eq_false o1))
    have HO2 := Lib.hid (over_at (decide_eq_false o2))
    clear xs xi o1 o2
    by_cases hs : b.S = 1
    · have t3 : (b.S != 1) = false := by simpa using hs
      obtain rfl : t = false := by rw [Bool.eq_false_iff]; intro hh; exact (ht.1 hh).1 hs
      by_cases hx : a.N < x.N
      · have t4 : decide (a.N < x.N) = true := decide_eq_true hx
        clear ht hu hs hx
        have T0 := Lib.hid (TwoM.new a b w)
        go_enter Try.func7, Try.ntmps7
        go_wp2_with fail
        refine (awake_any _).mono ?_
        rintro e w1 ⟨rfl, hb1⟩
        have T1 := Lib.hid (T0.out.on hb1)
        clear hb1
        have c1 : w1.cell? ⟨w.heap.size, 1, none⟩ = some (.int .i64 a.S) := T1.out.k1.cell 1
        have z1 := T1.out.k1.free 1
        have T2 := Lib.hid (T1.out.set1 1)
        have c2 : (w1.setCell ⟨w.heap.size, 1, none⟩ (.int .i64 1)).cell? ⟨w.heap.size, 0, none⟩ = some (.int .i64 a.I) := T2.out.k1.cell 0
        have c3 : (w1.setCell ⟨w.heap.size, 1, none⟩ (.int .i64 1)).cell? ⟨w.heap.size + 1, 0, none⟩ = some (.int .i64 b.I) := T2.out.k2.cell 0
        have z2 := T2.out.k2.free 0
        have T3 := Lib.hid (T2.out.set2 a.I)
        have l1 := T3.out.l1
        have l2 := T3.out.l2
        try simp only at l1 l2
        go_wp2_with fail
        refine (HR.out _).mono ?_
        rintro e w3 ⟨rfl, hb3⟩
        have T4 := Lib.hid (T3.out.on hb3)
        have s3 := put_run w3 x
        have P3 := Lib.hid (Put.new w3 x)
        have T5 := Lib.hid (T4.out.on P3.out.below)
        have q1 := P3.out.load
        clear hb3 c1 c2 c3 z1 z2 l1 l2
        generalize putM w3 x = w4 at *
        have d1 : w4.cell? ⟨w3.heap.size, 1, none⟩ = some (.int .i64 x.S) := P3.out.blk.cell 1
        have d0 : w4.cell? ⟨w3.heap.size, 0, none⟩ = some (.int .i64 x.I) := P3.out.blk.cell 0
        have c0 : w4.cell? ⟨w.heap.size, 0, none⟩ = some (.int .i64 a.I) := T5.out.k1.cell 0
        have m1 := T5.out.l1
        try simp only at m1
        go_wp2_with fail
        refine (HO1.out _).mono ?_
        rintro e w5 ⟨rfl, hb5⟩
        have T6 := Lib.hid (T5.out.on hb5)
        have P6 := Lib.hid (P3.out.on hb5)
        have m2 := T6.out.l2
        have q2 := P6.out.load
        try simp only at m2
        clear hb5 m1 d1 d0 c0
        go_wp2_with fail
        refine (HO2.out _).mono ?_
        rintro e w6 ⟨rfl, hb6⟩
        have T7 := Lib.hid (T6.out.on hb6)
        have P7 := Lib.hid (P6.out.on hb6)
        clear hb6 m2 q2
        have e1 : w6.cell? ⟨w.heap.size, 2, none⟩ = some (.int .i64 a.N) := T7.out.k1.cell 2
        have e2 : w6.cell? ⟨w.heap.size + 1, 2, none⟩ = some (.int .i64 b.N) := T7.out.k2.cell 2
        have e3 : w6.cell? ⟨w.heap.size + 1, 1, none⟩ = some (.int .i64 b.S) := T7.out.k2.cell 1
        have e4 : w6.cell? ⟨w3.heap.size, 2, none⟩ = some (.int .i64 x.N) := P7.out.blk.cell 2
        go_wp2_with fail
        go_ret
        exact ⟨by simp, T7.out.below⟩
      · have t4 : decide (a.N < x.N) = false := decide_eq_false hx
        clear ht hu hs hx
        have T0 := Lib.hid (TwoM.new a b w)
        go_enter Try.func7, Try.ntmps7
        go_wp2_with fail
        refine (awake_any _).mono ?_
        rintro e w1 ⟨rfl, hb1⟩
        have T1 := Lib.hid (T0.out.on hb1)
        clear hb1
        have c1 : w1.cell? ⟨w.heap.size, 1, none⟩ = some (.int .i64 a.S) := T1.out.k1.cell 1
        have z1 := T1.out.k1.free 1
        have T2 := Lib.hid (T1.out.set1 1)
        have c2 : (w1.setCell ⟨w.heap.size, 1, none⟩ (.int .i64 1)).cell? ⟨w.heap.size, 0, none⟩ = some (.int .i64 a.I) := T2.out.k1.cell 0
        have c3 : (w1.setCell ⟨w.heap.size, 1, none⟩ (.int .i64 1)).cell? ⟨w.heap.size + 1, 0, none⟩ = some (.int .i64 b.I) := T2.out.k2.cell 0
        have z2 := T2.out.k2.free 0
        have T3 := Lib.hid (T2.out.set2 a.I)
        have l1 := T3.out.l1
        have l2 := T3.out.l2
        try simp only at l1 l2
        go_wp2_with fail
        refine (HR.out _).mono ?_
        rintro e w3 ⟨rfl, hb3⟩
        have T4 := Lib.hid (T3.out.on hb3)
        have s3 := put_run w3 x
        have P3 := Lib.hid (Put.new w3 x)
        have T5 := Lib.hid (T4.out.on P3.out.below)
        have q1 := P3.out.load
        clear hb3 c1 c2 c3 z1 z2 l1 l2
        generalize putM w3 x = w4 at *
        have d1 : w4.cell? ⟨w3.heap.size, 1, none⟩ = some (.int .i64 x.S) := P3.out.blk.cell 1
        have d0 : w4.cell? ⟨w3.heap.size, 0, none⟩ = some (.int .i64 x.I) := P3.out.blk.cell 0
        have c0 : w4.cell? ⟨w.heap.size, 0, none⟩ = some (.int .i64 a.I) := T5.out.k1.cell 0
        have m1 := T5.out.l1
        try simp only at m1
        go_wp2_with fail
        refine (HO1.out _).mono ?_
        rintro e w5 ⟨rfl, hb5⟩
        have T6 := Lib.hid (T5.out.on hb5)
        have P6 := Lib.hid (P3.out.on hb5)
        have m2 := T6.out.l2
        have q2 := P6.out.load
        try simp only at m2
        clear hb5 m1 d1 d0 c0
        go_wp2_with fail
        refine (HO2.out _).mono ?_
        rintro e w6 ⟨rfl, hb6⟩
        have T7 := Lib.hid (T6.out.on hb6)
        have P7 := Lib.hid (P6.out.on hb6)
        clear hb6 m2 q2
        have e1 : w6.cell? ⟨w.heap.size, 2, none⟩ = some (.int .i64 a.N) := T7.out.k1.cell 2
        have e2 : w6.cell? ⟨w.heap.size + 1, 2, none⟩ = some (.int .i64 b.N) := T7.out.k2.cell 2
        have e3 : w6.cell? ⟨w.heap.size + 1, 1, none⟩ = some (.int .i64 b.S) := T7.out.k2.cell 1
        have e4 : w6.cell? ⟨w3.heap.size, 2, none⟩ = some (.int .i64 x.N) := P7.out.blk.cell 2
        go_wp2_with fail
        go_ret
        exact ⟨by simp, T7.out.below⟩
    · have t3 : (b.S != 1) = true := by simpa using hs
      have t4 : decide (a.N ≤ b.N) = t := by rw [Bool.eq_iff_iff, ht]; simp [hs]
      have t5 : decide (a.N < x.N) = t := by rw [Bool.eq_iff_iff, hu hs]; simp
      clear ht hu hs
      cases t with
      | true =>
        have T0 := Lib.hid (TwoM.new a b w)
        go_enter Try.func7, Try.ntmps7
        go_wp2_with fail
        refine (awake_any _).mono ?_
        rintro e w1 ⟨rfl, hb1⟩
        have T1 := Lib.hid (T0.out.on hb1)
        clear hb1
        have c1 : w1.cell? ⟨w.heap.size, 1, none⟩ = some (.int .i64 a.S) := T1.out.k1.cell 1
        have z1 := T1.out.k1.free 1
        have T2 := Lib.hid (T1.out.set1 1)
        have c2 : (w1.setCell ⟨w.heap.size, 1, none⟩ (.int .i64 1)).cell? ⟨w.heap.size, 0, none⟩ = some (.int .i64 a.I) := T2.out.k1.cell 0
        have c3 : (w1.setCell ⟨w.heap.size, 1, none⟩ (.int .i64 1)).cell? ⟨w.heap.size + 1, 0, none⟩ = some (.int .i64 b.I) := T2.out.k2.cell 0
        have z2 := T2.out.k2.free 0
        have T3 := Lib.hid (T2.out.set2 a.I)
        have l1 := T3.out.l1
        have l2 := T3.out.l2
        try simp only at l1 l2
        go_wp2_with fail
        refine (HR.out _).mono ?_
        rintro e w3 ⟨rfl, hb3⟩
        have T4 := Lib.hid (T3.out.on hb3)
        have s3 := put_run w3 x
        have P3 := Lib.hid (Put.new w3 x)
        have T5 := Lib.hid (T4.out.on P3.out.below)
        have q1 := P3.out.load
        clear hb3 c1 c2 c3 z1 z2 l1 l2
        generalize putM w3 x = w4 at *
        have d1 : w4.cell? ⟨w3.heap.size, 1, none⟩ = some (.int .i64 x.S) := P3.out.blk.cell 1
        have d0 : w4.cell? ⟨w3.heap.size, 0, none⟩ = some (.int .i64 x.I) := P3.out.blk.cell 0
        have c0 : w4.cell? ⟨w.heap.size, 0, none⟩ = some (.int .i64 a.I) := T5.out.k1.cell 0
        have m1 := T5.out.l1
        try simp only at m1
        go_wp2_with fail
        refine (HO1.out _).mono ?_
        rintro e w5 ⟨rfl, hb5⟩
        have T6 := Lib.hid (T5.out.on hb5)
        have P6 := Lib.hid (P3.out.on hb5)
        have m2 := T6.out.l2
        have q2 := P6.out.load
        try simp only at m2
        clear hb5 m1 d1 d0 c0
        go_wp2_with fail
        refine (HO2.out _).mono ?_
        rintro e w6 ⟨rfl, hb6⟩
        have T7 := Lib.hid (T6.out.on hb6)
        have P7 := Lib.hid (P6.out.on hb6)
        clear hb6 m2 q2
        have e1 : w6.cell? ⟨w.heap.size, 2, none⟩ = some (.int .i64 a.N) := T7.out.k1.cell 2
        have e2 : w6.cell? ⟨w.heap.size + 1, 2, none⟩ = some (.int .i64 b.N) := T7.out.k2.cell 2
        have e3 : w6.cell? ⟨w.heap.size + 1, 1, none⟩ = some (.int .i64 b.S) := T7.out.k2.cell 1
        have e4 : w6.cell? ⟨w3.heap.size, 2, none⟩ = some (.int .i64 x.N) := P7.out.blk.cell 2
        go_wp2_with fail
        go_ret
        exact ⟨by simp, T7.out.below⟩
      | false =>
        have T0 := Lib.hid (TwoM.new a b w)
        go_enter Try.func7, Try.ntmps7
        go_wp2_with fail
        refine (awake_any _).mono ?_
        rintro e w1 ⟨rfl, hb1⟩
        have T1 := Lib.hid (T0.out.on hb1)
        clear hb1
        have c1 : w1.cell? ⟨w.heap.size, 1, none⟩ = some (.int .i64 a.S) := T1.out.k1.cell 1
        have z1 := T1.out.k1.free 1
        have T2 := Lib.hid (T1.out.set1 1)
        have c2 : (w1.setCell ⟨w.heap.size, 1, none⟩ (.int .i64 1)).cell? ⟨w.heap.size, 0, none⟩ = some (.int .i64 a.I) := T2.out.k1.cell 0
        have c3 : (w1.setCell ⟨w.heap.size, 1, none⟩ (.int .i64 1)).cell? ⟨w.heap.size + 1, 0, none⟩ = some (.int .i64 b.I) := T2.out.k2.cell 0
        have z2 := T2.out.k2.free 0
        have T3 := Lib.hid (T2.out.set2 a.I)
        have l1 := T3.out.l1
        have l2 := T3.out.l2
        try simp only at l1 l2
        go_wp2_with fail
        refine (HR.out _).mono ?_
        rintro e w3 ⟨rfl, hb3⟩
        have T4 := Lib.hid (T3.out.on hb3)
        have s3 := put_run w3 x
        have P3 := Lib.hid (Put.new w3 x)
        have T5 := Lib.hid (T4.out.on P3.out.below)
        have q1 := P3.out.load
        clear hb3 c1 c2 c3 z1 z2 l1 l2
        generalize putM w3 x = w4 at *
        have d1 : w4.cell? ⟨w3.heap.size, 1, none⟩ = some (.int .i64 x.S) := P3.out.blk.cell 1
        have d0 : w4.cell? ⟨w3.heap.size, 0, none⟩ = some (.int .i64 x.I) := P3.out.blk.cell 0
        have c0 : w4.cell? ⟨w.heap.size, 0, none⟩ = some (.int .i64 a.I) := T5.out.k1.cell 0
        have m1 := T5.out.l1
        try simp only at m1
        go_wp2_with fail
        refine (HO1.out _).mono ?_
        rintro e w5 ⟨rfl, hb5⟩
        have T6 := Lib.hid (T5.out.on hb5)
        have P6 := Lib.hid (P3.out.on hb5)
        have m2 := T6.out.l2
        have q2 := P6.out.load
        try simp only at m2
        clear hb5 m1 d1 d0 c0
        go_wp2_with fail
        refine (HO2.out _).mono ?_
        rintro e w6 ⟨rfl, hb6⟩
        have T7 := Lib.hid (T6.out.on hb6)
        have P7 := Lib.hid (P6.out.on hb6)
        clear hb6 m2 q2
        have e1 : w6.cell? ⟨w.heap.size, 2, none⟩ = some (.int .i64 a.N) := T7.out.k1.cell 2
        have e2 : w6.cell? ⟨w.heap.size + 1, 2, none⟩ = some (.int .i64 b.N) := T7.out.k2.cell 2
        have e3 : w6.cell? ⟨w.heap.size + 1, 1, none⟩ = some (.int .i64 b.S) := T7.out.k2.cell 1
        have e4 : w6.cell? ⟨w3.heap.size, 2, none⟩ = some (.int .i64 x.N) := P7.out.blk.cell 2
        go_wp2_with fail
        go_ret
        exact ⟨by simp, T7.out.below⟩
  · obtain ⟨rfl, rfl⟩ := hno hy
    have t1 : (y != 0) = true := by simpa using hy
    have HQ := run_eqlM Mb.none Mb.none true (by simp)
    have HQ2 : ∀ (o1 o2 : Operand) (w : World), (eqlM 23 o1 o2 (mv Mb.none) (.agg #[.int .i64 0, .int .i64 0, .int .i64 0])).run Try.prog w = .ok (.value (.bool true)) w := HQ
    clear hok hno hy
    have T0 := Lib.hid (TwoM.new a b w)
    go_enter Try.func7, Try.ntmps7
    go_wp2_with fail
    refine (awake_any _).mono ?_
    rintro e w1 ⟨rfl, hb1⟩
    have T1 := Lib.hid (T0.out.on hb1)
    clear hb1
    have c1 : w1.cell? ⟨w.heap.size, 1, none⟩ = some (.int .i64 a.S) := T1.out.k1.cell 1
    have z1 := T1.out.k1.free 1
    have T2 := Lib.hid (T1.out.set1 1)
    have c2 : (w1.setCell ⟨w.heap.size, 1, none⟩ (.int .i64 1)).cell? ⟨w.heap.size, 0, none⟩ = some (.int .i64 a.I) := T2.out.k1.cell 0
    have c3 : (w1.setCell ⟨w.heap.size, 1, none⟩ (.int .i64 1)).cell? ⟨w.heap.size + 1, 0, none⟩ = some (.int .i64 b.I) := T2.out.k2.cell 0
    have z2 := T2.out.k2.free 0
    have T3 := Lib.hid (T2.out.set2 a.I)
    have l1 := T3.out.l1
    have l2 := T3.out.l2
    try simp only at l1 l2
    go_wp2_with fail
    refine (HR.out _).mono ?_
    rintro e w3 ⟨rfl, hb3⟩
    have T4 := Lib.hid (T3.out.on hb3)
    have s3 := put_run w3 Mb.none
    have P3 := Lib.hid (Put.new w3 Mb.none)
    have T5 := Lib.hid (T4.out.on P3.out.below)
    have q1 := P3.out.load
    clear hb3 c1 c2 c3 z1 z2 l1 l2
    generalize putM w3 Mb.none = w4 at *
    go_wp2_with fail
    go_ret
    exact ⟨by simp, T5.out.below⟩
end
end Go.Proofs.Ytfnmgjmdlihpgaa
