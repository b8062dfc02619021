/-
  Words compared, stored where they were made; calls at given answers.
-/
import Derived.Test.YtgohapbobbkaeaaMbD
namespace Go.Proofs.Ytgohapbobbkaeaa
set_option linter.unusedSimpArgs false
set_option linter.unusedVariables false
open Go.RowKit Sha
@[irreducible] def eqlM (t : TypeId) (x y : Operand) (u v : Value) : Sem Next := do pure (.value (← (do eqGuard .eql t x y u v; binOp .eql t u v)))
theorem execOp_eqlM (ρ : Operand → Value) (dst : Option Tmp) (x y : Operand) (r : TypeId) (ty : TypeId) (pos : String) (after : Array Edge) (guard : Option (Nat × Bool)) :
    execOp ρ { dst := dst, op := .binOp .eql 32 x y r, type := ty, pos := pos, after := after, guard := guard } = eqlM 32 x y (ρ x) (ρ y) := by unfold eqlM; rfl
theorem run_eqlM (a b : Mb) (e : Bool) (he : e = decide (a = b)) (x y : Operand) (w : World) : (eqlM 32 x y (mv a) (mv b)).run Try.prog w = .ok (.value (.bool e)) w := by
  subst he
  have hd : decide (a = b) = (a.I == b.I && a.S == b.S && a.N == b.N) := by
    rw [Bool.eq_iff_iff]; simp [Mb.eq_iff, and_assoc]
  rw [hd]
  unfold eqlM
  by_cases h : a.I = b.I <;> by_cases h2 : a.S = b.S <;> by_cases h3 : a.N = b.N <;> simp [go_sem, h, h2, h3]
/-- A new word, stored where it was made. -/
abbrev putM (w : World) (x : Mb) : World := (w.alloc (.cells #[.int .i64 0, .int .i64 0, .int .i64 0] mt)).setRow w.heap.size (mc x).toArray
theorem put_new (w : World) : Blk (w.alloc (.cells #[.int .i64 0, .int .i64 0, .int .i64 0] mt)) w.heap.size (mc Mb.none) mt := Blk.new w (mc Mb.none).toArray mt
theorem put_run (w : World) (x : Mb) : (storeM mt (.pointer (some ⟨w.heap.size, 0, none⟩)) (mv x)).run Try.prog (w.alloc (.cells #[.int .i64 0, .int .i64 0, .int .i64 0] mt)) = .ok .skip (putM w x) := run_storeM (put_new w)
theorem put_blk (w : World) (x : Mb) : Blk (putM w x) w.heap.size (mc x) mt := (put_new w).row (mc x)
theorem put_below (w : World) (x : Mb) : Below w.heap.size w (putM w x) := Below.setRow ((Below.refl _ _).alloc (Nat.le_refl _) _) (Nat.le_refl _) _
structure Put (w0 : World) (x : Mb) (w : World) : Prop where
  blk : Blk w w0.heap.size (mc x) mt
  below : Below w0.heap.size w0 w
theorem Put.new (w : World) (x : Mb) : Put w x (putM w x) := ⟨put_blk w x, put_below w x⟩
theorem Put.load {w0 w : World} {x : Mb} (h : Put w0 x w) : (loadM mt (.pointer (some ⟨w0.heap.size, 0, none⟩))).run Try.prog w = .ok (.value (mv x)) w := run_loadM (rangeM_of h.blk)
theorem Put.on {w0 w w' : World} {x : Mb} (h : Put w0 x w) (hb : Below w.heap.size w w') : Put w0 x w' := ⟨h.blk.upon hb, h.below.trans (hb.mono h.below.size)⟩
theorem TriM.l3 {a b r : Mb} {w0 w : World} (h : TriM a b r w0 w) : (loadM mt (.pointer (some ⟨w0.heap.size + 1 + 1, 0, none⟩))).run Try.prog w = .ok (.value (mv r)) w := run_loadM (rangeM_of h.k3)
theorem Below.go {w w' w'' : World} (h : Below w.heap.size w w') (h2 : Below w'.heap.size w' w'') : Below w.heap.size w w'' := h.trans (h2.mono h.size)
theorem below_alloc0 {a w : World} (h : Below a.heap.size a w) (o : Obj) : Below a.heap.size a (w.alloc o) := h.alloc h.size o
theorem below_drew0 {a w : World} (h : Below a.heap.size a w) : Below a.heap.size a w.drew := h.drew
theorem below_next {a w w' : World} (h : Below a.heap.size a w) (hb : Below w.heap.size w w') : Below a.heap.size a w' := h.trans (hb.mono h.size)
theorem below_put0 {a w : World} (h : Below a.heap.size a w) (x : Mb) : Below a.heap.size a (putM w x) := below_next h (put_below w x)
theorem below_row0 {a w : World} (h : Below a.heap.size a w) (cs : Array Value) : Below a.heap.size a (w.setRow a.heap.size cs) := Below.setRow h (Nat.le_refl _) cs
theorem over_at {a b : Mb} {z : Bool} (h : decide (a.Over b) = z) (w : World) : Calls Try.prog 26 #[mv a, mv b] w (BoolDone z w) := by have := over_any a b w; rwa [h] at this
end Go.Proofs.Ytgohapbobbkaeaa
