/-
  The program's slices.Delete at numbers: some taken out of a row of an object's own (written by mkins14.py).
-/
import Derived.Test.YtfoomffbjjcjjaaInsI
import Derived.Test.YtfoomffbjjcjjaaSlk14
import Derived.Laws.CopyOwn
import Derived.Laws.Tables
namespace Go.Proofs.Ytfoomffbjjcjjaa
set_option linter.unusedSimpArgs false
set_option linter.unusedVariables false
open Go.RowKit Sha
theorem zero1_I : (Try.prog.info? 3).map (fun i => i.zero) = some (some (.int .i64 0)) := by
  have h := info_I
  cases hq : Try.prog.info? 3 with
  | none => rw [hq] at h; cases h
  | some i => rw [hq] at h; simp at h; simp [h.1]
theorem zeroV_I (w : World) : (zeroValue 3).run Try.prog w = .ok (.int .i64 0) w := by
  have h := zero1_I
  cases hq : Try.prog.info? 3 with
  | none => rw [hq] at h; cases h
  | some i => rw [hq] at h; simp at h; simp [zeroValue, typeInfo, hq, h]
def DelI1 (w : World) (B g m : Nat) (xs : List Value) (e : Ending) (w' : World) : Prop := ∃ v', e = .returned v' ∧ w'.ownsRow B 3 1 v' m xs ∧ w.grownBy w' (some g) ∧ v'.ownBlock = some g
attribute [local go_sem ↓] execOp_sliceI
set_option maxRecDepth 100000 in
set_option maxHeartbeats 4000000 in
theorem delete_I (w : World) (B g n m cap i j : Nat) (A R1 D rest : List Value) (hA : A.length = i * 1) (hR1 : R1.length = (j - i) * 1) (hD : D.length = (n - j) * 1) (hrest : rest.length = (cap - n) * 1) (hij : i < j) (hjn : j ≤ n) (hmn : m = n - (j - i)) (hn : n ≤ 1000000000) (hnc : n ≤ cap) (hm : cap ≤ maxLen) (hB : B ≤ g)
    (hk : Blk w g (A ++ R1 ++ D ++ rest) 3) (hD1 : ∀ u ∈ D, u.oneCell' = true) :
    Calls Try.prog 40 #[.slice (some ⟨g, 0, none⟩) n cap, .int .i64 i, .int .i64 j] w (DelI1 w B g m (A ++ D)) := by
  have hm2 := hm
  have hmc : m < n := by omega
  unfold maxLen at hm
  have hL : (A ++ R1 ++ D ++ rest).length = cap * 1 := by
    rw [List.length_append, List.length_append, List.length_append, hA, hR1, hD, hrest]
    omega
  obtain ⟨T, hT⟩ : ∃ T, T = (A ++ R1 ++ D ++ rest).drop (i * 1 + D.length) := ⟨_, rfl⟩
  have hTl : T.length = (cap - m) * 1 := by
    rw [hT, List.length_drop, hL, hD]; omega
  have hkd : w.drew.heap[g]? = some (.cells (A ++ R1 ++ D ++ rest).toArray 3 (0, 0)) := hk
  obtain ⟨i0, hi0, hz0, hz1, hz2⟩ := info_parts info_I
  obtain ⟨a0, ha0⟩ : ∃ a : Addr, a = if cap = j then ⟨g, 0, none⟩ else ⟨g, j * 1, none⟩ := ⟨_, rfl⟩
  have haD : D ≠ [] → a0 = ⟨g, j * 1, none⟩ := fun h => by
    rw [ha0, if_neg]
    rintro rfl
    apply h
    apply List.eq_nil_of_length_eq_zero
    rw [hD]; omega
  have c1 : ∀ W, (sliceOp 22 (.slice (some ⟨g, 0, none⟩) n cap) (some (.int .i64 (j : Int))) none).run Try.prog W = .ok (.value (.slice (some a0) (n - j) (cap - j))) W := fun W => by
    have h := cut_lI (some ⟨g, 0, none⟩) n cap j (by omega) hnc W
    rw [show (if cap = j then some (⟨g, 0, none⟩ : Addr) else (some (⟨g, 0, none⟩ : Addr)).map (·.add (j * 1))) = some a0 by
      rw [ha0]; split <;> simp [Addr.add_mid]] at h
    exact h
  have hcn : ∀ k u, D[k]? = some u → w.drew.cell? (a0.add k) = some u := fun k u hj => by
    rw [haD (by rintro rfl; simp at hj)]
    have h9 : Blk w.drew g ((A ++ R1) ++ D ++ rest) 3 := hk
    exact cells_in h9 (by rw [List.length_append, hA, hR1]; omega) k u hj
  have hap : ∀ ty, (Builtin.append_ #[22, 22] ty #[.slice (some ⟨g, 0, none⟩) i cap, .slice (some a0) (n - j) (cap - j)]).run Try.prog w.drew =
      .ok (.slice (some ⟨g, 0, none⟩) m cap) (w.drew.setRow g (A ++ D ++ T).toArray) := fun ty => by
    have h := run_append_room (P := Try.prog) w.drew 22 ty 3 i0 Try.underlying22 hi0 g i cap _ hkd a0 (n - j) (cap - j) D (by rw [hz1]; exact hD) hcn hD1 (by omega) (by rw [hz1, List.size_toArray, hL, hD]; omega)
    rw [hz1] at h
    rw [show i + (n - j) = m by omega] at h
    rw [show (A ++ R1 ++ D ++ rest).toArray.toList = A ++ R1 ++ D ++ rest from rfl, ← hT, show (A ++ R1 ++ D ++ rest).take (i * 1) = A by rw [List.append_assoc, List.append_assoc, List.take_left' hA]] at h
    exact h
  have k1 : Blk (w.drew.setRow g (A ++ D ++ T).toArray) g (A ++ D ++ T) 3 := Blk.row (w := w.drew) hk _
  have hg1 : w.grownBy (w.drew.setRow g (A ++ D ++ T).toArray) (some g) := by
    have h2 := below_setRow (B := g) (w0 := w) (w := w.drew) (Below.refl g w).drew (Nat.le_refl _) (A ++ D ++ T).toArray
    exact ⟨h2.os, h2.tape, h2.output, h2.size, fun k hk hn => setRow_other w.drew g k _ (fun e => hn (by rw [e]))⟩
  obtain ⟨d, hd⟩ : ∃ d, d = j - i := ⟨_, rfl⟩
  have hT34 : (T.take (d * 1)).length = d * 1 := by rw [List.length_take, hTl]; omega
  have hAD : (A ++ D).length = m * 1 := by rw [List.length_append, hA, hD]; omega
  have k1' : Blk (w.drew.setRow g (A ++ D ++ T).toArray) g (A ++ D ++ T.take (d * 1) ++ T.drop (d * 1)) 3 := by rw [List.append_assoc (A ++ D), List.take_append_drop]; exact k1
  have hz := zsize_I
  obtain ⟨zz, hzz⟩ : ∃ zz : Value, zz = .int .i64 0 := ⟨_, rfl⟩
  have hzv := zeroV_I
  rw [← hzz] at hz hzv
  have hzo : ∀ v ∈ zz.cells.toList, v.oneCell' = true := by rw [hzz]; intro v hv; simp [Value.cells] at hv; subst hv; rfl
  have hZl : (Builtin.zeroCells zz.cells d).toList.length = d * 1 := by rw [Array.length_toList, size_zeroCells, hz]
  have cl := fun cc => run_clearS13 (P := Try.prog) (w.drew.setRow g (A ++ D ++ T).toArray) Try.underlying22 hzv (by omega) hzo g (m * 1) d cc (by omega) (by rw [hz]; exact k1'.there _ _ (by rw [List.length_append, List.length_append, hAD, hT34]; omega))
  have k2 := Blk.setCells (Builtin.zeroCells zz.cells d).toList (m * 1) _ _ _ _ k1' hAD (by rw [hT34, hZl])
  have hg2 := setCells_grown13 (w.drew.setRow g (A ++ D ++ T).toArray) g (m * 1) (Builtin.zeroCells zz.cells d).toList
  have hlast : (A ++ D ++ ((Builtin.zeroCells zz.cells d).toList ++ T.drop (d * 1))).length = cap * 1 := by
    rw [List.length_append, hAD, List.length_append, hZl, List.length_drop, hTl]
    omega
  have HO := Lib.hid (own_ofBlk (B := B) (n := m) (s := 1) (cap := cap) (xs := A ++ D) (rest := (Builtin.zeroCells zz.cells d).toList ++ T.drop (d * 1)) hB (by rw [← List.append_assoc]; exact k2) (by omega) hm2 hAD hlast)
  have HG := Lib.hid (grown_trans13 hg1 hg2)
  have c0 := cut_hI (some ⟨g, 0, none⟩) n cap i (by omega)
  have c2 : ∀ W, (sliceOp 22 (.slice (some ⟨g, 0, none⟩) m cap) (some (.int .i64 (m : Int))) (some (.int .i64 (n : Int)))).run Try.prog W = .ok (.value (.slice (some ⟨g, m * 1, none⟩) d (cap - m))) W := fun W => by
    have h := run_sliceOp (run_cutS_lh13 Try.underlying22 isize_I (some ⟨g, 0, none⟩) m cap m n (by omega) hnc W)
    rw [if_neg (by omega), show n - m = d by omega] at h
    simpa [Addr.add_mid] using h
  have hne : ((i : Int) == (j : Int)) = false := by rw [beq_eq_false_iff_ne]; omega
  rw [show (some a0 : Option Addr) = (if cap = j then some ⟨g, 0, none⟩ else some ⟨g, j * 1, none⟩) by rw [ha0]; split <;> rfl] at hap
  clear hlast k2 k1 k1' hg1 hg2 hZl hzo hz hzv hzz hAD hT34 hTl hT hcn haD ha0 hkd hL hk hD1 hrest hD hR1 hA hz0 hz1 hz2 hi0
  generalize w.drew.setRow g (A ++ D ++ T).toArray = w1 at *
  generalize w1.setCells g (m * 1) (Builtin.zeroCells zz.cells d).toList = w2 at *
  generalize cap - m = l3 at *
  clear c1 hmn hd
  simp only [Nat.mul_one] at hap cl c0 c2
  go_enter Try.func40, Try.ntmps40
  go_wp2_with fail
  go_region_law (refine append_step13 rfl (.tmp 22) (.tmp 25) 22 22 rfl _ _ (by simp [Act.eval, Act.put]) (by simp [Act.eval, Act.put]) (hap _) ?_)
  all_goals
    go_wp2_with (at_builtin; refine clear_law13 _ rfl (.tmp 31) 22 rfl _ rfl (cl _ _) ?_)
    all_goals
      go_ret
      refine ⟨_, rfl, ?_, HG.out, rfl⟩
      first
        | exact HO.out
        | (rw [h] at HO; exact HO.out)
end Go.Proofs.Ytfoomffbjjcjjaa
