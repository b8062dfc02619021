/-
  Rows of words of the call's own.
-/
import Derived.Test.YtgohapbobbkaeaaWords
import Derived.Test.YtgohapbobbkaeaaAppS
import Derived.Test.YtgohapbobbkaeaaBld
namespace Go.Proofs.Ytgohapbobbkaeaa
set_option linter.unusedSimpArgs false
set_option linter.unusedVariables false
open Go.RowKit Sha
theorem mem_info : (Try.prog.info? mt).map (fun i => (i.zero, i.size, i.bytes)) = some (some (.agg #[.int .i64 0, .int .i64 0, .int .i64 0]), 3, 24) := by kernel_rfl
theorem mem_zs : (Try.prog.info? mt).map (fun i => (i.zero, i.size)) = some (some (.agg #[.int .i64 0, .int .i64 0, .int .i64 0]), 3) := by kernel_rfl
@[irreducible] def buildM (t : TypeId) (len : Nat) (parts : Array (Nat × Value)) : Sem Next := do pure (.value (← Instr.buildSlice t len parts))
theorem execOp_buildM (ρ : Operand → Value) (dst : Option Tmp) (len : Nat) (parts : Array (Nat × Operand)) (ty : TypeId) (pos : String) (after : Array Edge) (guard : Option (Nat × Bool)) :
    execOp ρ { dst := dst, op := .buildSlice 35 len parts, type := ty, pos := pos, after := after, guard := guard } = buildM 35 len (parts.map fun (i, x) => (i, ρ x)) := by unfold buildM; rfl
theorem run_buildM0 (w : World) : (buildM 35 0 #[]).run Try.prog w = .ok (.value (.slice (some ⟨w.heap.size, 0, none⟩) 0 0)) (w.alloc (.cells #[] mt)) := by
  have := run_build_items (P := Try.prog) w 35 mt 3 _ (by omega) Try.underlying35 mem_zs [] (by simp) (by simp)
  unfold buildM; simp only [Sem.run_bind]
  rw [show (Instr.buildSlice 35 0 #[]).run Try.prog w = _ from this]; rfl
theorem run_buildM1 (w : World) (m : Mb) : (buildM 35 1 #[(0, mv m)]).run Try.prog w = .ok (.value (.slice (some ⟨w.heap.size, 0, none⟩) 1 1)) (w.alloc (.cells (mc m).toArray mt)) := by
  have := run_build_items (P := Try.prog) w 35 mt 3 _ (by omega) Try.underlying35 mem_zs [mc m] (by intro c hc; simp at hc; subst hc; rfl) (by simp)
  unfold buildM; simp only [Sem.run_bind]
  rw [show (Instr.buildSlice 35 1 #[(0, mv m)]).run Try.prog w = _ from this]; rfl
theorem own_blk_w {w : World} {B n size : Nat} {e : TypeId} {v : Value} {xs : List Value} (h : w.ownsRow B e size v n xs) (hn : 0 < n) : ∃ g cap rest, v = .slice (some ⟨g, 0, none⟩) n cap ∧ B ≤ g ∧ n ≤ cap ∧ cap ≤ maxLen ∧ Blk w g (xs ++ rest) e := by
  obtain ⟨_, h⟩ := h
  rcases h with ⟨_, h0⟩ | ⟨g, cap, cur, hv, hg, hh, h1, h2, h3, h4⟩
  · omega
  · refine ⟨g, cap, cur.toList.drop (n * size), hv, hg, h1, h2, ?_⟩
    rw [← h4, List.take_append_drop]
    unfold Blk; simpa using hh
theorem own_base_w {w : World} {B n size : Nat} {e : TypeId} {v : Value} {xs : List Value} (h : w.ownsRow B e size v n xs) : ∀ k, v.ownBlock = some k → B ≤ k ∧ k < w.heap.size := by
  intro k hk
  rcases h.2 with ⟨hv, _⟩ | ⟨g, cap, cur, hv, hg, hh, _⟩
  · rw [hv] at hk; cases hk
  · rw [hv] at hk; cases hk; exact ⟨hg, Blk.lt (cs := cur.toList) (t := e) (by unfold Blk; simpa using hh)⟩
theorem own_empty_w (w : World) (B : Nat) (hB : B ≤ w.heap.size) : (w.alloc (.cells #[] mt)).ownsRow B mt 3 (.slice (some ⟨w.heap.size, 0, none⟩) 0 0) 0 [] :=
  ⟨rfl, Or.inr ⟨w.heap.size, 0, #[], rfl, hB, heap_alloc_new w _, Nat.le_refl _, by simp [maxLen], rfl, rfl⟩⟩
theorem own_on_w {w w' : World} {B n : Nat} {v : Value} {xs : List Value} (h : w.ownsRow B mt 3 v n xs) (hb : Below w.heap.size w w') : w'.ownsRow B mt 3 v n xs := by
  refine ⟨h.1, ?_⟩
  have hk := own_base_w h
  rcases h.2 with h | ⟨g, cap, cur, hv, hg, hh, h4⟩
  · exact Or.inl h
  · exact Or.inr ⟨g, cap, cur, hv, hg, by rw [hb.block g (hk g (by rw [hv]; rfl)).2]; exact hh, h4⟩
/-- What an append has grown is above what was there before. -/
theorem grown_below {a b c : World} {row : Option Nat} {B : Nat} (h : Below B a b) (k : b.grownBy c row) (hB : ∀ g, row = some g → B ≤ g) (hs : B ≤ b.heap.size) : Below B a c :=
  h.trans ⟨k.os, k.tape, k.output, k.size, fun i hi => k.block i (by omega) (by intro e; have := hB i e.symm; omega)⟩
theorem wflat_one (l : List Mb) : ∀ u ∈ l.flatMap mc, u.oneCell' = true := by
  intro u hu
  obtain ⟨m, _, hm⟩ := List.mem_flatMap.1 hu
  simp at hm
  rcases hm with rfl | rfl | rfl <;> rfl
theorem wflat_set (l : List Mb) (rest : List Value) (k : Nat) (hk : k < l.length) (i : Int) : (l.flatMap mc ++ rest).set (k * 3) (.int .i64 i) = (l.set k ⟨i, l[k].S, l[k].N⟩).flatMap mc ++ rest := by
  induction l generalizing k with
  | nil => simp at hk
  | cons x l ih =>
    cases k with
    | zero => simp
    | succ k =>
      have h := ih k (by simpa using hk)
      rw [show (k + 1) * 3 = k * 3 + 3 by omega]
      simp only [List.flatMap_cons, List.set_cons_succ, List.getElem_cons_succ]
      simp only [mc, List.cons_append, List.nil_append, List.set_cons_succ] at h ⊢
      rw [h]
theorem rangeW {w : World} {g : Nat} {l : List Mb} {rest : List Value} (h : Blk w g (l.flatMap mc ++ rest) mt) (k : Nat) (hk : k < l.length) : w.rangeAt g (k * 3) (mc l[k]) := fun j v hv => by
  have hj : j < 3 := by have := (List.getElem?_eq_some_iff.1 hv).1; simpa using this
  rw [h.cell, List.getElem?_append_left (by rw [wflat_length]; omega), wflat_get l k hk j hj]; exact hv
theorem goodW_blk {w : World} {g cap n : Nat} {l : List Mb} {rest : List Value} (h : Blk w g (l.flatMap mc ++ rest) mt) (hok : ∀ x ∈ l, x.ok) (hn : l.length = n) (hc : n ≤ cap) (hm : cap ≤ maxLen) : GoodW w l (some ⟨g, 0, none⟩) cap :=
  ⟨hok, Or.inr ⟨g, 0, rfl, fun j v hv => by
    rw [Nat.zero_add, h.cell, List.getElem?_append_left (List.getElem?_eq_some_iff.1 hv).1]; exact hv⟩, by omega, by unfold maxLen at hm; omega, fun h => by cases h⟩
/-- The row of words, and what lies above. -/
structure RowM (w0 w : World) (g : Nat) (l : List Mb) (rest : List Value) : Prop where
  blk : Blk w g (l.flatMap mc ++ rest) mt
  below : Below w0.heap.size w0 w
theorem RowM.on {w0 w w' : World} {g : Nat} {l : List Mb} {rest : List Value} (h : RowM w0 w g l rest) (hb : Below w.heap.size w w') : RowM w0 w' g l rest := ⟨h.blk.upon hb, h.below.trans (hb.mono h.below.size)⟩
theorem RowM.set {w0 w : World} {g : Nat} {l : List Mb} {rest : List Value} (h : RowM w0 w g l rest) (hg : w0.heap.size ≤ g) (k : Nat) (hk : k < l.length) (i : Int) : RowM w0 (w.setCell ⟨g, k * 3, none⟩ (.int .i64 i)) g (l.set k ⟨i, l[k].S, l[k].N⟩) rest := by
  refine ⟨?_, Below.setCell h.below hg _⟩
  have := h.blk.set (k * 3) (.int .i64 i)
  rwa [wflat_set l rest k hk i] at this
theorem RowM.load {w0 w : World} {g : Nat} {l : List Mb} {rest : List Value} (h : RowM w0 w g l rest) (k : Nat) (hk : k < l.length) : (loadM mt (.pointer (some ⟨g, k * 3, none⟩))).run Try.prog w = .ok (.value (mv l[k])) w := run_loadM (rangeW h.blk k hk)
end Go.Proofs.Ytgohapbobbkaeaa
