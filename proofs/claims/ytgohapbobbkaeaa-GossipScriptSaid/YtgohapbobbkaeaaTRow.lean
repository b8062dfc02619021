/-
  Tellings in memory: a word's three cells and the count; rows of them.
-/
import Derived.Test.YtgohapbobbkaeaaWRow
import Derived.Test.YtgohapbobbkaeaaSlcG
import Derived.Test.YtgohapbobbkaeaaGs
namespace Go.Proofs.Ytgohapbobbkaeaa
set_option linter.unusedSimpArgs false
set_option linter.unusedVariables false
open Go.RowKit Sha
abbrev tt : TypeId := 65
abbrev tc (x : Tl) : List Value := [.int .i64 x.m.I, .int .i64 x.m.S, .int .i64 x.m.N, .int .i64 x.t]
abbrev tv (x : Tl) : Value := .agg #[.int .i64 x.m.I, .int .i64 x.m.S, .int .i64 x.m.N, .int .i64 x.t]
def Tl.none : Tl := ⟨Mb.none, 0⟩
theorem execOp_loadT (ρ : Operand → Value) (dst : Option Tmp) (x : Operand) (ty : TypeId) (pos : String) (after : Array Edge) (guard : Option (Nat × Bool)) :
    execOp ρ { dst := dst, op := .load 65 x, type := ty, pos := pos, after := after, guard := guard } = loadM 65 (ρ x) := by unfold loadM; rfl
theorem execOp_storeT (ρ : Operand → Value) (dst : Option Tmp) (x y : Operand) (ty : TypeId) (pos : String) (after : Array Edge) (guard : Option (Nat × Bool)) :
    execOp ρ { dst := dst, op := .store 65 x y, type := ty, pos := pos, after := after, guard := guard } = storeM 65 (ρ x) (ρ y) := by unfold storeM; rfl
theorem execOp_buildT (ρ : Operand → Value) (dst : Option Tmp) (len : Nat) (parts : Array (Nat × Operand)) (ty : TypeId) (pos : String) (after : Array Edge) (guard : Option (Nat × Bool)) :
    execOp ρ { dst := dst, op := .buildSlice 42 len parts, type := ty, pos := pos, after := after, guard := guard } = buildM 42 len (parts.map fun (i, x) => (i, ρ x)) := by unfold buildM; rfl
theorem tl_info : (Try.prog.info? tt).map (fun i => (i.zero, i.size, i.bytes)) = some (some (.agg #[.int .i64 0, .int .i64 0, .int .i64 0, .int .i64 0]), 4, 32) := by kernel_rfl
theorem tl_zs : (Try.prog.info? tt).map (fun i => (i.zero, i.size)) = some (some (.agg #[.int .i64 0, .int .i64 0, .int .i64 0, .int .i64 0]), 4) := by kernel_rfl
theorem tl_size : (Try.prog.info? tt).map (fun i => i.size) = some 4 := by kernel_rfl
theorem run_loadT {w : World} {g o : Nat} {x : Tl} (h : w.rangeAt g o (tc x)) : (loadM tt (.pointer (some ⟨g, o, none⟩))).run Try.prog w = .ok (.value (tv x)) w := by
  have h1 := run_loadAt_mid (P := Try.prog) w g o tt _ _ h Try.underlying65 rfl (by rw [tl_size]; rfl)
  unfold loadM
  simp only [Sem.run_bind, h1, Result.andThen_ok, Sem.run_pure]
theorem range_word {w : World} {g o : Nat} {x : Tl} (h : w.rangeAt g o (tc x)) : w.rangeAt g o (mc x.m) := fun j v hv => h j v (by
  have hj : j < 3 := by have := (List.getElem?_eq_some_iff.1 hv).1; simpa using this
  match j, hj with
  | 0, _ => exact hv
  | 1, _ => exact hv
  | 2, _ => exact hv)
theorem run_loadTm {w : World} {g o : Nat} {x : Tl} (h : w.rangeAt g o (tc x)) : (loadM mt (.pointer (some ⟨g, o, none⟩))).run Try.prog w = .ok (.value (mv x.m)) w := run_loadM (range_word h)
theorem rangeT_of {w : World} {g : Nat} {x : Tl} {t : TypeId} (h : Blk w g (tc x) t) : w.rangeAt g 0 (tc x) := fun j v hv => by rw [Nat.zero_add, h.cell]; exact hv
theorem rangeT_on {w w' : World} {g o : Nat} {x : Tl} (h : w.rangeAt g o (tc x)) (hb : Below w.heap.size w w') : w'.rangeAt g o (tc x) := fun j v hv => by
  have := h j v hv
  exact (hb.cell (World.block_lt_of_cell? w _ this)).trans this
theorem run_storeT {w : World} {g : Nat} {a b : Tl} (h : Blk w g (tc b) tt) : (storeM tt (.pointer (some ⟨g, 0, none⟩)) (tv a)).run Try.prog w = .ok .skip (w.setRow g (tc a).toArray) := by
  unfold storeM
  simp only [Instr.storeAt, Instr.sureAddr, Sem.run_bind, Sem.run_pure, Result.andThen_ok, run_storeVar_row (P := Try.prog) w g tt tt (tc b).toArray (tc a).toArray h tl_size rfl (by simp [Value.oneCell'])]
theorem run_buildT1 (w : World) (x : Tl) : (buildM 42 1 #[(0, tv x)]).run Try.prog w = .ok (.value (.slice (some ⟨w.heap.size, 0, none⟩) 1 1)) (w.alloc (.cells (tc x).toArray tt)) := by
  have := run_build_items (P := Try.prog) w 42 tt 4 _ (by omega) Try.underlying42 tl_zs [tc x] (by intro c hc; simp at hc; subst hc; rfl) (by simp)
  unfold buildM; simp only [Sem.run_bind]
  rw [show (Instr.buildSlice 42 1 #[(0, tv x)]).run Try.prog w = _ from this]; rfl
theorem run_buildT0 (w : World) : (buildM 42 0 #[]).run Try.prog w = .ok (.value (.slice (some ⟨w.heap.size, 0, none⟩) 0 0)) (w.alloc (.cells #[] tt)) := by
  have := run_build_items (P := Try.prog) w 42 tt 4 _ (by omega) Try.underlying42 tl_zs [] (by simp) (by simp)
  unfold buildM; simp only [Sem.run_bind]
  rw [show (Instr.buildSlice 42 0 #[]).run Try.prog w = _ from this]; rfl
theorem tflat_length (l : List Tl) : (l.flatMap tc).length = l.length * 4 := by
  induction l with
  | nil => rfl
  | cons x l ih => rw [List.flatMap_cons, List.length_append, ih, List.length_cons]; simp; omega
theorem tflat_get (l : List Tl) (i : Nat) (hi : i < l.length) (r : Nat) (hr : r < 4) : (l.flatMap tc)[i * 4 + r]? = (tc l[i])[r]? := by
  induction l generalizing i with
  | nil => simp at hi
  | cons x l ih =>
    rw [List.flatMap_cons]
    cases i with
    | zero => simp only [Nat.zero_mul, Nat.zero_add]; rw [List.getElem?_append_left (by simpa using hr)]; rfl
    | succ i =>
      rw [List.getElem?_append_right (by simp; omega), show (i + 1) * 4 + r - (tc x).length = i * 4 + r by simp; omega]
      simpa using ih i (by simpa using hi)
theorem tflat_one (l : List Tl) : ∀ u ∈ l.flatMap tc, u.oneCell' = true := by
  intro u hu
  obtain ⟨m, _, hm⟩ := List.mem_flatMap.1 hu
  simp at hm
  rcases hm with rfl | rfl | rfl | rfl <;> rfl
theorem tc_one (x : Tl) : ∀ u ∈ tc x, u.oneCell' = true := by intro u hu; simp at hu; rcases hu with rfl | rfl | rfl | rfl <;> rfl
theorem tflat_take (l : List Tl) (i : Nat) : (l.flatMap tc).take (i * 4) = (l.take i).flatMap tc := by
  induction l generalizing i with
  | nil => simp
  | cons x l ih =>
    cases i with
    | zero => simp
    | succ i =>
      rw [show (i + 1) * 4 = i * 4 + 1 + 1 + 1 + 1 by omega]
      simp only [List.flatMap_cons, tc, List.cons_append, List.nil_append, List.take_succ_cons]
      rw [ih i]
theorem tflat_drop (l : List Tl) (i : Nat) : (l.flatMap tc).drop (i * 4) = (l.drop i).flatMap tc := by
  induction l generalizing i with
  | nil => simp
  | cons x l ih =>
    cases i with
    | zero => simp
    | succ i =>
      rw [show (i + 1) * 4 = i * 4 + 1 + 1 + 1 + 1 by omega]
      simp only [List.flatMap_cons, tc, List.cons_append, List.nil_append, List.drop_succ_cons]
      exact ih i
theorem tflat_split (l : List Tl) (i : Nat) (x : Tl) : (l.flatMap tc).take (i * 4) ++ tc x ++ (l.flatMap tc).drop (i * 4) = (l.take i ++ x :: l.drop i).flatMap tc := by
  rw [tflat_take, tflat_drop, List.flatMap_append, List.flatMap_cons, List.append_assoc]
theorem rangeT {w : World} {g o : Nat} {l : List Tl} (h : At w (some ⟨g, o, none⟩) (l.flatMap tc)) (k : Nat) (hk : k < l.length) : w.rangeAt g (o + k * 4) (tc l[k]) := fun j v hv => by
  have hj : j < 4 := by have := (List.getElem?_eq_some_iff.1 hv).1; simpa using this
  rcases h with h | ⟨b, off, e, hc⟩
  · have := tflat_length l; rw [h] at this; simp at this; omega
  · cases e
    rw [Nat.add_assoc]
    exact hc _ v (by rw [tflat_get l k hk j hj]; exact hv)
/-- A new telling, stored where it was made. -/
abbrev putT (w : World) (x : Tl) : World := (w.alloc (.cells #[.int .i64 0, .int .i64 0, .int .i64 0, .int .i64 0] tt)).setRow w.heap.size (tc x).toArray
theorem putT_new (w : World) : Blk (w.alloc (.cells #[.int .i64 0, .int .i64 0, .int .i64 0, .int .i64 0] tt)) w.heap.size (tc Tl.none) tt := Blk.new w (tc Tl.none).toArray tt
theorem putT_run (w : World) (x : Tl) : (storeM tt (.pointer (some ⟨w.heap.size, 0, none⟩)) (tv x)).run Try.prog (w.alloc (.cells #[.int .i64 0, .int .i64 0, .int .i64 0, .int .i64 0] tt)) = .ok .skip (putT w x) := run_storeT (putT_new w)
theorem putT_blk (w : World) (x : Tl) : Blk (putT w x) w.heap.size (tc x) tt := (putT_new w).row (tc x)
theorem putT_below (w : World) (x : Tl) : Below w.heap.size w (putT w x) := Below.setRow ((Below.refl _ _).alloc (Nat.le_refl _) _) (Nat.le_refl _) _
end Go.Proofs.Ytgohapbobbkaeaa
