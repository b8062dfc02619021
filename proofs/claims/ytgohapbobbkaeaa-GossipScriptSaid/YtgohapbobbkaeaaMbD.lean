/-
  The program's Merge and Refute.
-/
import Derived.Test.YtgohapbobbkaeaaMbC
namespace Go.Proofs.Ytgohapbobbkaeaa
set_option linter.unusedSimpArgs false
set_option linter.unusedVariables false
open Go.RowKit Sha
/-- Two words that a call was given, and the one that it answers. -/
abbrev triM (a b r : Mb) (w : World) : World := (twoM a b w).alloc (.cells (mc r).toArray mt)
structure TriM (a b r : Mb) (w0 w : World) : Prop where
  two : TwoM a b w0 w
  k3 : Blk w (w0.heap.size + 1 + 1) (mc r) mt
theorem TriM.new (a b r : Mb) (w : World) : TriM a b r w (triM a b r w) := by
  have hk3 := Blk.new (twoM a b w) (mc r).toArray mt
  rw [show (twoM a b w).heap.size = w.heap.size + 1 + 1 by simp [World.size_alloc]] at hk3
  exact ⟨(TwoM.new a b w).on ((Below.refl _ _).alloc (Nat.le_refl _) _), hk3⟩
theorem TriM.zero (a b : Mb) (w : World) : TriM a b Mb.none w ((twoM a b w).alloc (.cells #[.int .i64 0, .int .i64 0, .int .i64 0] mt)) := TriM.new a b Mb.none w
theorem TriM.on {a b r : Mb} {w0 w w' : World} (h : TriM a b r w0 w) (hb : Below w.heap.size w w') : TriM a b r w0 w' := ⟨h.two.on hb, h.k3.upon hb⟩
theorem TriM.below {a b r : Mb} {w0 w : World} (h : TriM a b r w0 w) : Below w0.heap.size w0 w := h.two.below
theorem TriM.l1 {a b r : Mb} {w0 w : World} (h : TriM a b r w0 w) : (loadM mt (.pointer (some ⟨w0.heap.size, 0, none⟩))).run Try.prog w = .ok (.value (mv a)) w := h.two.l1
theorem TriM.l2 {a b r : Mb} {w0 w : World} (h : TriM a b r w0 w) : (loadM mt (.pointer (some ⟨w0.heap.size + 1, 0, none⟩))).run Try.prog w = .ok (.value (mv b)) w := h.two.l2
theorem TriM.st0 {a b r : Mb} {w0 w : World} (h : TriM a b r w0 w) : (storeM mt (.pointer (some ⟨w0.heap.size + 1 + 1, 0, none⟩)) (.agg #[.int .i64 0, .int .i64 0, .int .i64 0])).run Try.prog w = .ok .skip (w.setRow (w0.heap.size + 1 + 1) (mc Mb.none).toArray) := run_storeM (a := Mb.none) h.k3
theorem TriM.st {a b r : Mb} {w0 w : World} (h : TriM a b r w0 w) (x : Mb) : (storeM mt (.pointer (some ⟨w0.heap.size + 1 + 1, 0, none⟩)) (mv x)).run Try.prog w = .ok .skip (w.setRow (w0.heap.size + 1 + 1) (mc x).toArray) := run_storeM h.k3
theorem TriM.set {a b r : Mb} {w0 w : World} (h : TriM a b r w0 w) (x : Mb) : TriM a b x w0 (w.setRow (w0.heap.size + 1 + 1) (mc x).toArray) :=
  ⟨⟨h.two.k1.rowOther _ (by omega), h.two.k2.rowOther _ (by omega), Below.setRow h.below (by omega) _⟩, h.k3.row (mc x)⟩
theorem results_m1 {fn : Func} {p u : Tmp} (h : fn.results = #[.cell p mt, .tmp u]) (tmps : Array Value) (w : World) (g : Nat) (x : Mb) (v : Value)
    (hp : tmps.getD p undef = .pointer (some ⟨g, 0, none⟩)) (hu : tmps.getD u undef = v) (hg : Blk w g (mc x) mt) :
    (results fn tmps).run Try.prog w = .ok (.tuple #[mv x, v]) w := by
  have hp' : tmps[p]?.getD undef = .pointer (some ⟨g, 0, none⟩) := by simpa using hp
  have hu' : tmps[u]?.getD undef = v := by simpa using hu
  have e1 := run_loadVar_row (P := Try.prog) w g mt mt (mc x).toArray (0, 0) _ hg Try.underlying32 rfl mem_size
  simp [results, h, hp', hu', asAddr, e1]
theorem results_m2 {fn : Func} {p u u2 : Tmp} (h : fn.results = #[.cell p mt, .tmp u, .tmp u2]) (tmps : Array Value) (w : World) (g : Nat) (x : Mb) (v v2 : Value)
    (hp : tmps.getD p undef = .pointer (some ⟨g, 0, none⟩)) (hu : tmps.getD u undef = v) (hu2 : tmps.getD u2 undef = v2) (hg : Blk w g (mc x) mt) :
    (results fn tmps).run Try.prog w = .ok (.tuple #[mv x, v, v2]) w := by
  have hp' : tmps[p]?.getD undef = .pointer (some ⟨g, 0, none⟩) := by simpa using hp
  have hu' : tmps[u]?.getD undef = v := by simpa using hu
  have hu2' : tmps[u2]?.getD undef = v2 := by simpa using hu2
  have e1 := run_loadVar_row (P := Try.prog) w g mt mt (mc x).toArray (0, 0) _ hg Try.underlying32 rfl mem_size
  simp [results, h, hp', hu', hu2', asAddr, e1]
theorem TriM.inc {a b r : Mb} {w0 w : World} (h : TriM a b r w0 w) (x : Int) : TriM ⟨a.I, a.S, x⟩ b r w0 (w.setCell ⟨w0.heap.size, 2, none⟩ (.int .i64 x)) :=
  ⟨⟨h.two.k1.set 2 _, h.two.k2.setOther _ _ (by simp), Below.setCell h.below (Nat.le_refl _) _⟩, h.k3.setOther _ _ (by simp; omega)⟩
theorem stat_any (m : Mb) (w : World) : Calls Try.prog 38 #[mv m] w (ErrDone m.S w) := (statusOf_any m w).mono fun e w' ⟨he, hw⟩ => ⟨he, by subst hw; exact (Below.refl _ _).alloc (Nat.le_refl _) _⟩
section
attribute [local go_sem ↓] execOp_loadM execOp_storeM
def MbDone (x : Mb) (z : Int) (w : World) (e : Ending) (w' : World) : Prop := e = .returned (.tuple #[mv x, .int .i64 z]) ∧ Below w.heap.size w w'
end
end Go.Proofs.Ytgohapbobbkaeaa
