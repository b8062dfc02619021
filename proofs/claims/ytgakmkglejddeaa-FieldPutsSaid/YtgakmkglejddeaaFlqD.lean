/-
  The reference of fields: the writer under way; its next item.
-/
import Derived.Test.YtgakmkglejddeaaFlqC
import Derived.Test.YtgakmkglejddeaaOpq
import Derived.Test.YtgakmkglejddeaaFldX
import Derived.Test.YtgakmkglejddeaaFlaA
namespace Go.Proofs.Ytgakmkglejddeaa
set_option linter.unusedSimpArgs false
set_option linter.unusedVariables false
open Go.RowKit Sha
open Fld (Itm)
attribute [local go_sem ↓] execOp_loadItem execOp_buildItem
theorem item0_built : Try.prog.built 40 [] = some (icells ⟨0, [], Fld.zero32⟩ none 0).toArray := by
  unfold icells
  have h : Try.prog.built 40 [] = some (((#[Value.int .i64 0, .slice none 0 0] : Array Value)) ++ (Fld.zero32.map v8).toArray) := by kernel_rfl
  rw [h]; simp
theorem r_ne : (5 : TypeId) ≠ 57 := by decide
/-- The reference's writer under way: its items L, how many are gone, its bytes, its error. -/
structure RW (w0 : World) (ga : Nat) (L : Value) (k : Nat) (v : Value) (out : List Int) (er : Int) (w : World) : Prop where
  blk : Blk w ga [L, .int .i64 k, v, .int .i64 er] 57
  own : Own8 w w0.heap.size 5 v out.length (out.map v8)
  base : w0.heap.size ≤ ga
  below : Below w0.heap.size w0 w
theorem RW.on {w0 w w' : World} {ga k : Nat} {L v : Value} {out : List Int} {er : Int} (h : RW w0 ga L k v out er w) (hb : Below w.heap.size w w') : RW w0 ga L k v out er w' :=
  ⟨h.blk.below hb h.blk.lt, own8_carry h.own fun i c fz hk hh => by rw [hb.block i (h.own.row.lt i hk).2]; exact hh, h.base, h.below.trans (hb.mono h.below.size)⟩
theorem RW.fail {w0 w : World} {ga k : Nat} {L v : Value} {out : List Int} {er : Int} (h : RW w0 ga L k v out er w) (e : Int) : RW w0 ga L k v out e (w.setCell ⟨ga, 3, none⟩ (.int .i64 e)) :=
  ⟨by have := h.blk.set 3 (.int .i64 e); simpa using this, own8_set h.own h.blk r_ne 3 _, h.base, h.below.setCell h.base _⟩
theorem RW.at_ {w0 w : World} {ga k : Nat} {L v : Value} {out : List Int} {er : Int} (h : RW w0 ga L k v out er w) (j : Nat) : RW w0 ga L j v out er (w.setCell ⟨ga, 1, none⟩ (.int .i64 j)) :=
  ⟨by have := h.blk.set 1 (.int .i64 j); simpa using this, own8_set h.own h.blk r_ne 1 _, h.base, h.below.setCell h.base _⟩
theorem rwi_ne : (40 : TypeId) ≠ 57 := by decide
theorem blk_type {w : World} {g : Nat} {cs cs' : List Value} {t t' : TypeId} (h : Blk w g cs t) (h' : Blk w g cs' t') : t = t' := by
  unfold Blk at h h'; rw [h] at h'; cases h'; rfl
theorem RW.ne {w0 w : World} {ga k gx : Nat} {L v : Value} {out : List Int} {er : Int} {cs : List Value} (h : RW w0 ga L k v out er w) (hI : Blk w gx cs 40) : gx ≠ ga := by
  rintro rfl; exact rwi_ne (blk_type hI h.blk)
theorem RW.row {w0 w : World} {ga k gx : Nat} {L v : Value} {out : List Int} {er : Int} {cs : List Value} (h : RW w0 ga L k v out er w) (hI : Blk w gx cs 40) (hg : w0.heap.size ≤ gx) (cs' : List Value) : RW w0 ga L k v out er (w.setRow gx cs'.toArray) := by
  refine ⟨h.blk.rowOther _ (Ne.symm (h.ne hI)), own8_carry h.own fun i c fz hk hh => ?_, h.base, Below.setRow h.below hg _⟩
  rw [setRow_other w gx i cs'.toArray (fun e => ?_)]
  · exact hh
  · subst e
    unfold Blk at hI; rw [hI] at hh; injection hh with hh; injection hh with _ ht; exact ui_ne ht
theorem item0_good (w : World) : GoodI w ⟨0, [], Fld.zero32⟩ none 0 := ⟨item0_ok', Or.inl rfl, by simp, by omega, fun _ => rfl⟩
/-- What next tells. -/
def NextDone (w0 : World) (ga : Nat) (L v : Value) (out : List Int) (x : Itm) (k : Nat) (er : Int) (e : Ending) (w' : World) : Prop :=
  ∃ q c, e = .returned (.agg (icells x q c).toArray) ∧ GoodI w0 x q c ∧ RW w0 ga L k v out er w'
set_option maxRecDepth 100000 in
set_option maxHeartbeats 1000000 in
theorem rnext_err (w0 : World) (ga : Nat) (p : Option Addr) (n c : Nat) (v : Value) (out : List Int) (k : Nat) (er : Int) (w : World) (h : RW w0 ga (.slice p n c) k v out er w) (he : er ≠ 0) :
    Calls Try.prog 38 #[.pointer (some ⟨ga, 0, none⟩)] w (NextDone w0 ga (.slice p n c) v out ⟨0, [], Fld.zero32⟩ k er) := by
  have HK := Lib.hid h
  have hne : (er == 0) = false := by rw [beq_eq_false_iff_ne]; exact he
  have hsz : (Try.prog.info? 40).map (fun i => i.size) = some (icells ⟨0, [], Fld.zero32⟩ none 0).toArray.size := by rw [item_size, List.size_toArray, icells_length item0_ok']
  have bd := fun w => run_mkOp (P := Try.prog) w (parts := #[]) item0_built
  clear h he
  go_enter Try.func38, Try.ntmps38
  go_wp2_with (refine wpList_alloc_arr rfl 40 rfl _ item_info ?_)
  have hK1 := HK.out.on ((Below.refl _ _).alloc (Nat.le_refl _) (Obj.cells (icells ⟨0, [], Fld.zero32⟩ none 0).toArray 40))
  have c3 : (w.alloc (Obj.cells (icells ⟨0, [], Fld.zero32⟩ none 0).toArray 40)).cell? ⟨ga, 3, none⟩ = some (.int .i64 er) := hK1.blk.cell 3
  have hi1 := Blk.new w (icells ⟨0, [], Fld.zero32⟩ none 0).toArray 40
  rw [List.toList_toArray] at hi1
  generalize w.alloc (Obj.cells (icells ⟨0, [], Fld.zero32⟩ none 0).toArray 40) = wA at *
  have K1 := Lib.hid hK1
  have I1 := Lib.hid hi1
  have GX : w0.heap.size ≤ w.heap.size := HK.out.below.size
  clear hK1 hi1 HK
  obtain ⟨gx, hgx⟩ : ∃ g, g = w.heap.size := ⟨_, rfl⟩
  rw [← hgx] at I1 GX ⊢
  clear hgx
  simp only [Act.put, List.setIfInBounds_toArray, List.set_cons_succ, List.set_cons_zero]
  go_quiet (fail)
  have hKB := K1.out.on (below_drewN (Below.refl _ wA) nq)
  have hIB := I1.out.drewN nq
  have c3' : (wA.drewN nq).cell? ⟨ga, 3, none⟩ = some (.int .i64 er) := hKB.blk.cell 3
  generalize wA.drewN nq = wB at *
  have KB := Lib.hid hKB
  have IB := Lib.hid hIB
  clear hKB hIB K1 I1 c3
  go_wp2_with (first
    | (refine wpList_store_row rfl 40 (.tmp 2) (.tmp 27) rfl _ _ rfl rfl 40 _ IB.out hsz rfl (icells_all _ _ _) ?_))
  refine bodyPost_ret (v := .agg (icells ⟨0, [], Fld.zero32⟩ none 0).toArray) ?_ rfl ⟨none, 0, rfl, item0_good _, KB.out.row IB.out GX _⟩
  exact results_cell_row rfl _ _ _ _ _ _ _ rfl (IB.out.row _) (Try.underlying40) rfl hsz
set_option maxRecDepth 100000 in
set_option maxHeartbeats 1000000 in
theorem rnext_end (w0 : World) (ga : Nat) (p : Option Addr) (n c : Nat) (v : Value) (out : List Int) (k : Nat) (w : World) (h : RW w0 ga (.slice p n c) k v out 0 w) (hk : n ≤ k) :
    Calls Try.prog 38 #[.pointer (some ⟨ga, 0, none⟩)] w (NextDone w0 ga (.slice p n c) v out ⟨0, [], Fld.zero32⟩ k 2) := by
  have HK := Lib.hid h
  have hsz : (Try.prog.info? 40).map (fun i => i.size) = some (icells ⟨0, [], Fld.zero32⟩ none 0).toArray.size := by rw [item_size, List.size_toArray, icells_length item0_ok']
  have bd := fun w => run_mkOp (P := Try.prog) w (parts := #[]) item0_built
  clear h
  go_enter Try.func38, Try.ntmps38
  go_wp2_with (refine wpList_alloc_arr rfl 40 rfl _ item_info ?_)
  have hK1 := HK.out.on ((Below.refl _ _).alloc (Nat.le_refl _) (Obj.cells (icells ⟨0, [], Fld.zero32⟩ none 0).toArray 40))
  have hi1 := Blk.new w (icells ⟨0, [], Fld.zero32⟩ none 0).toArray 40
  rw [List.toList_toArray] at hi1
  generalize w.alloc (Obj.cells (icells ⟨0, [], Fld.zero32⟩ none 0).toArray 40) = wA at *
  have c0 : wA.cell? ⟨ga, 0, none⟩ = some (.slice p n c) := hK1.blk.cell 0
  have c1 : wA.cell? ⟨ga, 1, none⟩ = some (.int .i64 k) := hK1.blk.cell 1
  have c3 : wA.cell? ⟨ga, 3, none⟩ = some (.int .i64 0) := hK1.blk.cell 3
  have K1 := Lib.hid hK1
  have I1 := Lib.hid hi1
  have GX : w0.heap.size ≤ w.heap.size := HK.out.below.size
  clear hK1 hi1 HK
  obtain ⟨gx, hgx⟩ : ∃ g, g = w.heap.size := ⟨_, rfl⟩
  rw [← hgx] at I1 GX ⊢
  clear hgx
  have hki : (n : Int) ≤ (k : Int) := by omega
  simp only [Act.put, List.setIfInBounds_toArray, List.set_cons_succ, List.set_cons_zero]
  go_quiet (fail)
  have hKB := K1.out.on (below_drewN (Below.refl _ wA) nq)
  have hIB := I1.out.drewN nq
  generalize wA.drewN nq = wB at *
  have KB := Lib.hid hKB
  have IB := Lib.hid hIB
  clear hKB hIB K1 I1 c0 c1 c3
  have hgne : gx ≠ ga := KB.out.ne IB.out
  go_wp2_with (first
    | (go_at_call 30; refine (rfails_any ga (.slice p n c) (.int .i64 k) v 0 2 wB KB.out.blk).mono ?_; rintro e w2 ⟨rfl, rfl⟩; rw [if_pos rfl]; have hKC := KB.out.fail 2; have hIC := IB.out.setOther ⟨ga, 3, none⟩ (.int .i64 2) hgne; generalize wB.setCell ⟨ga, 3, none⟩ (.int .i64 2) = wC at *; have d3 : wC.cell? ⟨ga, 3, none⟩ = some (.int .i64 2) := hKC.blk.cell 3; have KC := Lib.hid hKC; have IC := Lib.hid hIC; clear hKC hIC)
    | (refine wpList_store_row rfl 40 (.tmp 2) (.tmp 27) rfl _ _ rfl rfl 40 _ IC.out hsz rfl (icells_all _ _ _) ?_))
  refine bodyPost_ret (v := .agg (icells ⟨0, [], Fld.zero32⟩ none 0).toArray) ?_ rfl ⟨none, 0, rfl, item0_good _, KC.out.row IC.out GX _⟩
  exact results_cell_row rfl _ _ _ _ _ _ _ rfl (IC.out.row _) (Try.underlying40) rfl hsz
set_option maxRecDepth 100000 in
set_option maxHeartbeats 1000000 in
theorem rnext_ok (w0 : World) (ga : Nat) (p : Option Addr) (n c : Nat) (l : List Itm) (ht : Told w0 p n c l) (v : Value) (out : List Int) (k : Nat) (w : World) (h : RW w0 ga (.slice p n c) k v out 0 w) (hk : k < l.length) :
    Calls Try.prog 38 #[.pointer (some ⟨ga, 0, none⟩)] w (NextDone w0 ga (.slice p n c) v out l[k] (k + 1) 0) := by
  have HK := Lib.hid h
  have hkn : k < n := by rw [ht.len]; exact hk
  have hnc := ht.le
  have hcm := ht.max
  obtain ⟨b, off, q, qc, rfl, hr, hg⟩ := ht.items.get k hk
  obtain ⟨x, hx⟩ : ∃ x, x = l[k] := ⟨_, rfl⟩
  rw [← hx] at hr hg ⊢
  have HR := Lib.hid hr
  have HG := Lib.hid hg
  have hsz : (Try.prog.info? 40).map (fun i => i.size) = some (icells x q qc).toArray.size := by rw [item_size, List.size_toArray, icells_length hg.ok]
  have hsz3 : (icells ⟨0, [], Fld.zero32⟩ none 0).toArray.size = (icells x q qc).toArray.size := by rw [List.size_toArray, List.size_toArray, icells_length hg.ok, icells_length item0_ok']
  have bd := fun w => run_mkOp (P := Try.prog) w (parts := #[]) item0_built
  clear h hr hg hx ht hk
  go_enter Try.func38, Try.ntmps38
  go_wp2_with (refine wpList_alloc_arr rfl 40 rfl _ item_info ?_)
  have hK1 := HK.out.on ((Below.refl _ _).alloc (Nat.le_refl _) (Obj.cells (icells ⟨0, [], Fld.zero32⟩ none 0).toArray 40))
  have hi1 := Blk.new w (icells ⟨0, [], Fld.zero32⟩ none 0).toArray 40
  rw [List.toList_toArray] at hi1
  generalize w.alloc (Obj.cells (icells ⟨0, [], Fld.zero32⟩ none 0).toArray 40) = wA at *
  have c0 : wA.cell? ⟨ga, 0, none⟩ = some (.slice (some ⟨b, off, none⟩) n c) := hK1.blk.cell 0
  have c1 : wA.cell? ⟨ga, 1, none⟩ = some (.int .i64 k) := hK1.blk.cell 1
  have c3 : wA.cell? ⟨ga, 3, none⟩ = some (.int .i64 0) := hK1.blk.cell 3
  have K1 := Lib.hid hK1
  have I1 := Lib.hid hi1
  have GX : w0.heap.size ≤ w.heap.size := HK.out.below.size
  clear hK1 hi1 HK
  obtain ⟨gx, hgx⟩ : ∃ g, g = w.heap.size := ⟨_, rfl⟩
  rw [← hgx] at I1 GX ⊢
  clear hgx
  have hki : ¬ (n : Int) ≤ (k : Int) := by omega
  have hki' : decide ((n : Int) ≤ (k : Int)) = false := by rw [decide_eq_false_iff_not]; exact hki
  simp only [Act.put, List.setIfInBounds_toArray, List.set_cons_succ, List.set_cons_zero]
  go_quiet (fail)
  have hKB := K1.out.on (below_drewN (Below.refl _ wA) nq)
  have hIB := I1.out.drewN nq
  generalize wA.drewN nq = wB at *
  have e1 : wB.cell? ⟨ga, 1, none⟩ = some (.int .i64 k) := hKB.blk.cell 1
  have e3 : wB.cell? ⟨ga, 3, none⟩ = some (.int .i64 0) := hKB.blk.cell 3
  have f1 : wB.frozen? ⟨ga, 1, none⟩ = false := hKB.blk.free 1
  have KB := Lib.hid hKB
  have IB := Lib.hid hIB
  clear hKB hIB K1 I1 c0 c1 c3
  have hgne : gx ≠ ga := KB.out.ne IB.out
  go_wp2_with fail
  rw [show ((k : Int) + 1) = ((k + 1 : Nat) : Int) by omega]
  have hKC := KB.out.at_ (k + 1)
  have hIC := IB.out.setOther ⟨ga, 1, none⟩ (.int .i64 ((k + 1 : Nat) : Int)) hgne
  generalize wB.setCell ⟨ga, 1, none⟩ (.int .i64 ((k + 1 : Nat) : Int)) = wC at *
  have d0 : wC.cell? ⟨ga, 0, none⟩ = some (.slice (some ⟨b, off, none⟩) n c) := hKC.blk.cell 0
  have d1 : wC.cell? ⟨ga, 1, none⟩ = some (.int .i64 ((k : Int) + 1)) := hKC.blk.cell 1
  have ld : (loadOp 40 (.pointer (some ⟨b, off + k * 34, none⟩))).run Try.prog wC.drew = .ok (.value (.agg (icells x q qc).toArray)) wC.drew := load_at HG.out.ok (range_below HR.out (hKC.below.drew))
  have KD := Lib.hid (hKC.on (Below.refl _ _).drew)
  have ID := Lib.hid hIC.drew
  clear hKC hIC KB IB
  refine region_tail 11 (by kernel_rfl) (by kernel_rfl) ?_
  simp only [List.take_succ_cons, List.take_zero, List.drop_succ_cons, List.drop_zero]
  repeat (go_big_quiet_step (fail))
  refine wpQuiet_nil ?_
  change wpList _ _ _ _ _ wC.drew
  clear ld d0 d1
  generalize wC.drew = wD at *
  go_wp2_with (refine wpList_store_row rfl 40 (.tmp 2) (.tmp 45) rfl _ _ rfl rfl 40 _ ID.out hsz hsz3 (icells_all _ _ _) ?_)
  refine bodyPost_ret (v := .agg (icells x q qc).toArray) ?_ rfl ⟨q, qc, rfl, HG.out, KD.out.row ID.out GX _⟩
  exact results_cell_row rfl _ _ _ _ _ _ _ rfl (ID.out.row _) (Try.underlying40) rfl hsz
end Go.Proofs.Ytgakmkglejddeaa
