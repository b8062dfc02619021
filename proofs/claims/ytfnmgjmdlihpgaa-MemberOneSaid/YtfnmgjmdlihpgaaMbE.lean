/-
  The law package's examples: words made, merged and answered as the chapter says.
-/
import Derived.Test.YtfnmgjmdlihpgaaMbR
namespace Go.Proofs.Ytfnmgjmdlihpgaa
set_option linter.unusedSimpArgs false
set_option linter.unusedVariables false
open Go.RowKit Sha
@[irreducible] def eqlM (t : TypeId) (x y : Operand) (u v : Value) : Sem Next := do pure (.value (← (do eqGuard .eql t x y u v; binOp .eql t u v)))
theorem execOp_eqlM (ρ : Operand → Value) (dst : Option Tmp) (x y : Operand) (r : TypeId) (ty : TypeId) (pos : String) (after : Array Edge) (guard : Option (Nat × Bool)) :
    execOp ρ { dst := dst, op := .binOp .eql 23 x y r, type := ty, pos := pos, after := after, guard := guard } = eqlM 23 x y (ρ x) (ρ y) := by unfold eqlM; rfl
theorem run_eqlM (a b : Mb) (e : Bool) (he : e = decide (a = b)) (x y : Operand) (w : World) : (eqlM 23 x y (mv a) (mv b)).run Try.prog w = .ok (.value (.bool e)) w := by
  subst he
  have hd : decide (a = b) = (a.I == b.I && a.S == b.S && a.N == b.N) := by
    rw [Bool.eq_iff_iff]; simp [Mb.eq_iff, and_assoc]
  rw [hd]
  unfold eqlM
  by_cases h : a.I = b.I <;> by_cases h2 : a.S = b.S <;> by_cases h3 : a.N = b.N <;> simp [go_sem, h, h2, h3]
/-- A new word, stored where it was made. -/
abbrev putM (w : World) (x : Mb) : World := (w.alloc (.cells #[.int .i64 0, .int .i64 0, .int .i64 0] mt)).setRow w.heap.size (mc x).toArray
theorem put_new (w : World) : Blk (w.alloc (.cells #[.int .i64 0, .int .i64 0, .int .i64 0] mt)) w.heap.size (mc Mb.none) mt := Blk.new w (mc Mb.none).toArray mt
theorem put_run (w : World) (x : Mb) : (storeM mt (.pointer (some ⟨w.heap.size, 0, none⟩)) (mv x)).run Try.prog (w.alloc (.cells #[.int .i64 0, .int .i64 0, .int .i64 0] mt)) = .ok .skip (putM w x) := run_storeM (put_new w)
theorem put_blk (w : World) (x : Mb) : Blk (putM w x) w.heap.size (mc x) mt := (put_new w).row (mc x)
theorem put_below (w : World) (x : Mb) : Below w.heap.size w (putM w x) := Below.setRow ((Below.refl _ _).alloc (Nat.le_refl _) _) (Nat.le_refl _) _
structure Put (w0 : World) (x : Mb) (w : World) : Prop where
  blk : Blk w w0.heap.size (mc x) mt
  below : Below w0.heap.size w0 w
theorem Put.new (w : World) (x : Mb) : Put w x (putM w x) := ⟨put_blk w x, put_below w x⟩
theorem Put.load {w0 w : World} {x : Mb} (h : Put w0 x w) : (loadM mt (.pointer (some ⟨w0.heap.size, 0, none⟩))).run Try.prog w = .ok (.value (mv x)) w := run_loadM (rangeM_of h.blk)
theorem Put.on {w0 w w' : World} {x : Mb} (h : Put w0 x w) (hb : Below w.heap.size w w') : Put w0 x w' := ⟨h.blk.upon hb, h.below.trans (hb.mono h.below.size)⟩
theorem TriM.l3 {a b r : Mb} {w0 w : World} (h : TriM a b r w0 w) : (loadM mt (.pointer (some ⟨w0.heap.size + 1 + 1, 0, none⟩))).run Try.prog w = .ok (.value (mv r)) w := run_loadM (rangeM_of h.k3)
section
attribute [local go_sem ↓] execOp_loadM execOp_storeM execOp_eqlM
def MvDone (x : Mb) (w : World) (e : Ending) (w' : World) : Prop := e = .returned (mv x) ∧ Below w.heap.size w w'
theorem of_any (s n : Int) (w : World) : Calls Try.prog 20 #[.int .i64 s, .int .i64 n] w (MvDone ⟨2, s, n⟩ w) := by
  have s1 := put_run w ⟨2, s, n⟩
  have P1 := Lib.hid (Put.new w ⟨2, s, n⟩)
  generalize putM w ⟨2, s, n⟩ = w1 at *
  go_enter Try.func20, Try.ntmps20
  go_wp2_with fail
  exact bodyPost_ret (v := mv ⟨2, s, n⟩) (results_cell_row rfl _ _ _ _ _ _ _ rfl P1.out.blk Try.underlying23 rfl mem_size) rfl ⟨rfl, P1.out.below⟩
set_option maxHeartbeats 1000000 in
theorem left_true (a b c : Mb) (w : World) (h1 : a.berr b = 0) (h2 : a.merge b = c) : Calls Try.prog 19 #[mv a, mv b, mv c] w (BoolDone true w) := by
  have HT := Lib.hid (TriM.new a b c w)
  have l1 := HT.out.l1
  have l2 := HT.out.l2
  have HM := Lib.hid (merge_any a b)
  rw [h1, h2] at HM
  have HQ := run_eqlM c c true (by simp)
  clear h1 h2
  go_enter Try.func19, Try.ntmps19
  go_wp2_with fail
  refine (HM.out _).mono ?_
  rintro e w1 ⟨rfl, hb1⟩
  have T1 := Lib.hid (HT.out.on hb1)
  have s1 := put_run w1 c
  have P1 := Lib.hid (Put.new w1 c)
  have T2 := Lib.hid (T1.out.on P1.out.below)
  have m1 := P1.out.load
  have m2 := T2.out.l3
  clear hb1
  generalize putM w1 c = w2 at *
  go_wp2_with fail
  go_ret
  exact ⟨rfl, T2.out.below⟩
set_option maxHeartbeats 1000000 in
theorem answers_true (a b c : Mb) (t : Bool) (w : World) (h1 : a.refute b = (c, t, 0)) : Calls Try.prog 21 #[mv a, mv b, mv c, .bool t] w (BoolDone true w) := by
  have HT := Lib.hid (TriM.new a b c w)
  have l1 := HT.out.l1
  have l2 := HT.out.l2
  have HM := Lib.hid (fun w => show Calls Try.prog 10 #[mv a, mv b] w (RefDone (c, t, 0) w) from h1 ▸ refute_any a b w)
  have HQ := run_eqlM c c true (by simp)
  clear h1
  go_enter Try.func21, Try.ntmps21
  go_wp2_with fail
  refine (HM.out _).mono ?_
  rintro e w1 ⟨rfl, hb1⟩
  have T1 := Lib.hid (HT.out.on hb1)
  have s1 := put_run w1 c
  have P1 := Lib.hid (Put.new w1 c)
  have T2 := Lib.hid (T1.out.on P1.out.below)
  have m1 := P1.out.load
  have m2 := T2.out.l3
  clear hb1
  generalize putM w1 c = w2 at *
  go_wp2_with fail
  go_ret
  exact ⟨by simp, T2.out.below⟩
end
end Go.Proofs.Ytfnmgjmdlihpgaa
