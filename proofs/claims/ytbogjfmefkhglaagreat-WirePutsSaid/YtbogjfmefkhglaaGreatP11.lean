/-
  The reference of fields: the writer under way; its next item.
  Plain mathematics of fields: a shape taken group by group, behind an error nothing more.
  The reference of fields: how many (count).
  The law package of fields: puts, fails, refuses.
-/
import Derived.Test.YtbogjfmefkhglaaGreatP6
import Derived.Test.YtbogjfmefkhglaaGreatP2
import Derived.Test.YtbogjfmefkhglaaGreatP9
import Derived.Test.YtbogjfmefkhglaaGreatP10
import Derived.Test.YtbogjfmefkhglaaGreatP1
import Derived.Test.YtbogjfmefkhglaaGreatP4
import Derived.Laws.StructEq
namespace Go.Proofs.YtbogjfmefkhglaaGreat
section
set_option linter.unusedSimpArgs false
set_option linter.unusedVariables false
open Go.RowKit Sha
open Fld (Itm)
attribute [local go_sem ↓] execOp_loadItem execOp_buildItem
theorem item0_built : Tryz.prog.built 118 [] = some (icells ⟨0, [], Fld.zero32⟩ none 0).toArray := by
  unfold icells
  have h : Tryz.prog.built 118 [] = some (((#[Value.int .i64 0, .slice none 0 0] : Array Value)) ++ (Fld.zero32.map v8).toArray) := by kernel_rfl
  rw [h]; simp
theorem r_ne : (5 : TypeId) ≠ 131 := by decide
/-- The reference's writer under way: its items L, how many are gone, its bytes, its error. -/
structure RW (w0 : World) (ga : Nat) (L : Value) (k : Nat) (v : Value) (out : List Int) (er : Int) (w : World) : Prop where
  blk : Blk w ga [L, .int .i64 k, v, .int .i64 er] 131
  own : Own8 w w0.heap.size 5 v out.length (out.map v8)
  base : w0.heap.size ≤ ga
  below : Below w0.heap.size w0 w
theorem RW.on {w0 w w' : World} {ga k : Nat} {L v : Value} {out : List Int} {er : Int} (h : RW w0 ga L k v out er w) (hb : Below w.heap.size w w') : RW w0 ga L k v out er w' :=
  ⟨h.blk.below hb h.blk.lt, own8_carry h.own fun i c fz hk hh => by rw [hb.block i (h.own.row.lt i hk).2]; exact hh, h.base, h.below.trans (hb.mono h.below.size)⟩
theorem RW.fail {w0 w : World} {ga k : Nat} {L v : Value} {out : List Int} {er : Int} (h : RW w0 ga L k v out er w) (e : Int) : RW w0 ga L k v out e (w.setCell ⟨ga, 3, none⟩ (.int .i64 e)) :=
  ⟨by have := h.blk.set 3 (.int .i64 e); simpa using this, own8_set h.own h.blk r_ne 3 _, h.base, h.below.setCell h.base _⟩
theorem RW.at_ {w0 w : World} {ga k : Nat} {L v : Value} {out : List Int} {er : Int} (h : RW w0 ga L k v out er w) (j : Nat) : RW w0 ga L j v out er (w.setCell ⟨ga, 1, none⟩ (.int .i64 j)) :=
  ⟨by have := h.blk.set 1 (.int .i64 j); simpa using this, own8_set h.own h.blk r_ne 1 _, h.base, h.below.setCell h.base _⟩
theorem rwi_ne : (118 : TypeId) ≠ 131 := by decide
theorem blk_type {w : World} {g : Nat} {cs cs' : List Value} {t t' : TypeId} (h : Blk w g cs t) (h' : Blk w g cs' t') : t = t' := by
  unfold Blk at h h'; rw [h] at h'; cases h'; rfl
theorem RW.ne {w0 w : World} {ga k gx : Nat} {L v : Value} {out : List Int} {er : Int} {cs : List Value} (h : RW w0 ga L k v out er w) (hI : Blk w gx cs 118) : gx ≠ ga := by
  rintro rfl; exact rwi_ne (blk_type hI h.blk)
theorem RW.row {w0 w : World} {ga k gx : Nat} {L v : Value} {out : List Int} {er : Int} {cs : List Value} (h : RW w0 ga L k v out er w) (hI : Blk w gx cs 118) (hg : w0.heap.size ≤ gx) (cs' : List Value) : RW w0 ga L k v out er (w.setRow gx cs'.toArray) := by
  refine ⟨h.blk.rowOther _ (Ne.symm (h.ne hI)), own8_carry h.own fun i c fz hk hh => ?_, h.base, Below.setRow h.below hg _⟩
  rw [setRow_other w gx i cs'.toArray (fun e => ?_)]
  · exact hh
  · subst e
    unfold Blk at hI; rw [hI] at hh; injection hh with hh; injection hh with _ ht; exact ui_ne ht
theorem item0_good (w : World) : GoodI w ⟨0, [], Fld.zero32⟩ none 0 := ⟨item0_ok', Or.inl rfl, by simp, by omega, fun _ => rfl⟩
/-- What next tells. -/
def NextDone (w0 : World) (ga : Nat) (L v : Value) (out : List Int) (x : Itm) (k : Nat) (er : Int) (e : Ending) (w' : World) : Prop :=
  ∃ q c, e = .returned (.agg (icells x q c).toArray) ∧ GoodI w0 x q c ∧ RW w0 ga L k v out er w'
set_option maxRecDepth 100000 in
set_option maxHeartbeats 1000000 in
theorem rnext_err (w0 : World) (ga : Nat) (p : Option Addr) (n c : Nat) (v : Value) (out : List Int) (k : Nat) (er : Int) (w : World) (h : RW w0 ga (.slice p n c) k v out er w) (he : er ≠ 0) :
    Calls Tryz.prog 122 #[.pointer (some ⟨ga, 0, none⟩)] w (NextDone w0 ga (.slice p n c) v out ⟨0, [], Fld.zero32⟩ k er) := by
  have HK := Lib.hid h
  have hne : (er == 0) = false := by rw [beq_eq_false_iff_ne]; exact he
  have hsz : (Tryz.prog.info? 118).map (fun i => i.size) = some (icells ⟨0, [], Fld.zero32⟩ none 0).toArray.size := by rw [item_size, List.size_toArray, icells_length item0_ok']
  have bd := fun w => run_mkOp (P := Tryz.prog) w (parts := #[]) item0_built
  clear h he
  go_enter Tryz.func122, Tryz.ntmps122
  go_wp2_with (refine wpList_alloc_arr rfl 118 rfl _ item_info ?_)
  have hK1 := HK.out.on ((Below.refl _ _).alloc (Nat.le_refl _) (Obj.cells (icells ⟨0, [], Fld.zero32⟩ none 0).toArray 118))
  have c3 : (w.alloc (Obj.cells (icells ⟨0, [], Fld.zero32⟩ none 0).toArray 118)).cell? ⟨ga, 3, none⟩ = some (.int .i64 er) := hK1.blk.cell 3
  have hi1 := Blk.new w (icells ⟨0, [], Fld.zero32⟩ none 0).toArray 118
  rw [List.toList_toArray] at hi1
  generalize w.alloc (Obj.cells (icells ⟨0, [], Fld.zero32⟩ none 0).toArray 118) = wA at *
  have K1 := Lib.hid hK1
  have I1 := Lib.hid hi1
  have GX : w0.heap.size ≤ w.heap.size := HK.out.below.size
  clear hK1 hi1 HK
  obtain ⟨gx, hgx⟩ : ∃ g, g = w.heap.size := ⟨_, rfl⟩
  rw [← hgx] at I1 GX ⊢
  clear hgx
  simp only [Act.put, List.setIfInBounds_toArray, List.set_cons_succ, List.set_cons_zero]
  go_quiet (fail)
  have hKB := K1.out.on (below_drewN (Below.refl _ wA) nq)
  have hIB := I1.out.drewN nq
  have c3' : (wA.drewN nq).cell? ⟨ga, 3, none⟩ = some (.int .i64 er) := hKB.blk.cell 3
  generalize wA.drewN nq = wB at *
  have KB := Lib.hid hKB
  have IB := Lib.hid hIB
  clear hKB hIB K1 I1 c3
  go_wp2_with (first
    | (refine wpList_store_row rfl 118 (.tmp 2) (.tmp 27) rfl _ _ rfl rfl 118 _ IB.out hsz rfl (icells_all _ _ _) ?_))
  refine bodyPost_ret (v := .agg (icells ⟨0, [], Fld.zero32⟩ none 0).toArray) ?_ rfl ⟨none, 0, rfl, item0_good _, KB.out.row IB.out GX _⟩
  exact results_cell_row rfl _ _ _ _ _ _ _ rfl (IB.out.row _) (Tryz.underlying118) rfl hsz
set_option maxRecDepth 100000 in
set_option maxHeartbeats 1000000 in
theorem rnext_end (w0 : World) (ga : Nat) (p : Option Addr) (n c : Nat) (v : Value) (out : List Int) (k : Nat) (w : World) (h : RW w0 ga (.slice p n c) k v out 0 w) (hk : n ≤ k) :
    Calls Tryz.prog 122 #[.pointer (some ⟨ga, 0, none⟩)] w (NextDone w0 ga (.slice p n c) v out ⟨0, [], Fld.zero32⟩ k 2) := by
  have HK := Lib.hid h
  have hsz : (Tryz.prog.info? 118).map (fun i => i.size) = some (icells ⟨0, [], Fld.zero32⟩ none 0).toArray.size := by rw [item_size, List.size_toArray, icells_length item0_ok']
  have bd := fun w => run_mkOp (P := Tryz.prog) w (parts := #[]) item0_built
  clear h
  go_enter Tryz.func122, Tryz.ntmps122
  go_wp2_with (refine wpList_alloc_arr rfl 118 rfl _ item_info ?_)
  have hK1 := HK.out.on ((Below.refl _ _).alloc (Nat.le_refl _) (Obj.cells (icells ⟨0, [], Fld.zero32⟩ none 0).toArray 118))
  have hi1 := Blk.new w (icells ⟨0, [], Fld.zero32⟩ none 0).toArray 118
  rw [List.toList_toArray] at hi1
  generalize w.alloc (Obj.cells (icells ⟨0, [], Fld.zero32⟩ none 0).toArray 118) = wA at *
  have c0 : wA.cell? ⟨ga, 0, none⟩ = some (.slice p n c) := hK1.blk.cell 0
  have c1 : wA.cell? ⟨ga, 1, none⟩ = some (.int .i64 k) := hK1.blk.cell 1
  have c3 : wA.cell? ⟨ga, 3, none⟩ = some (.int .i64 0) := hK1.blk.cell 3
  have K1 := Lib.hid hK1
  have I1 := Lib.hid hi1
  have GX : w0.heap.size ≤ w.heap.size := HK.out.below.size
  clear hK1 hi1 HK
  obtain ⟨gx, hgx⟩ : ∃ g, g = w.heap.size := ⟨_, rfl⟩
  rw [← hgx] at I1 GX ⊢
  clear hgx
  have hki : (n : Int) ≤ (k : Int) := by omega
  simp only [Act.put, List.setIfInBounds_toArray, List.set_cons_succ, List.set_cons_zero]
  go_quiet (fail)
  have hKB := K1.out.on (below_drewN (Below.refl _ wA) nq)
  have hIB := I1.out.drewN nq
  generalize wA.drewN nq = wB at *
  have KB := Lib.hid hKB
  have IB := Lib.hid hIB
  clear hKB hIB K1 I1 c0 c1 c3
  have hgne : gx ≠ ga := KB.out.ne IB.out
  go_wp2_with (first
    | (go_at_call 90; refine (rfails_any ga (.slice p n c) (.int .i64 k) v 0 2 wB KB.out.blk).mono ?_; rintro e w2 ⟨rfl, rfl⟩; rw [if_pos rfl]; have hKC := KB.out.fail 2; have hIC := IB.out.setOther ⟨ga, 3, none⟩ (.int .i64 2) hgne; generalize wB.setCell ⟨ga, 3, none⟩ (.int .i64 2) = wC at *; have d3 : wC.cell? ⟨ga, 3, none⟩ = some (.int .i64 2) := hKC.blk.cell 3; have KC := Lib.hid hKC; have IC := Lib.hid hIC; clear hKC hIC)
    | (refine wpList_store_row rfl 118 (.tmp 2) (.tmp 27) rfl _ _ rfl rfl 118 _ IC.out hsz rfl (icells_all _ _ _) ?_))
  refine bodyPost_ret (v := .agg (icells ⟨0, [], Fld.zero32⟩ none 0).toArray) ?_ rfl ⟨none, 0, rfl, item0_good _, KC.out.row IC.out GX _⟩
  exact results_cell_row rfl _ _ _ _ _ _ _ rfl (IC.out.row _) (Tryz.underlying118) rfl hsz
set_option maxRecDepth 100000 in
set_option maxHeartbeats 1000000 in
theorem rnext_ok (w0 : World) (ga : Nat) (p : Option Addr) (n c : Nat) (l : List Itm) (ht : Told w0 p n c l) (v : Value) (out : List Int) (k : Nat) (w : World) (h : RW w0 ga (.slice p n c) k v out 0 w) (hk : k < l.length) :
    Calls Tryz.prog 122 #[.pointer (some ⟨ga, 0, none⟩)] w (NextDone w0 ga (.slice p n c) v out l[k] (k + 1) 0) := by
  have HK := Lib.hid h
  have hkn : k < n := by rw [ht.len]; exact hk
  have hnc := ht.le
  have hcm := ht.max
  obtain ⟨b, off, q, qc, rfl, hr, hg⟩ := ht.items.get k hk
  obtain ⟨x, hx⟩ : ∃ x, x = l[k] := ⟨_, rfl⟩
  rw [← hx] at hr hg ⊢
  have HR := Lib.hid hr
  have HG := Lib.hid hg
  have hsz : (Tryz.prog.info? 118).map (fun i => i.size) = some (icells x q qc).toArray.size := by rw [item_size, List.size_toArray, icells_length hg.ok]
  have hsz3 : (icells ⟨0, [], Fld.zero32⟩ none 0).toArray.size = (icells x q qc).toArray.size := by rw [List.size_toArray, List.size_toArray, icells_length hg.ok, icells_length item0_ok']
  have bd := fun w => run_mkOp (P := Tryz.prog) w (parts := #[]) item0_built
  clear h hr hg hx ht hk
  go_enter Tryz.func122, Tryz.ntmps122
  go_wp2_with (refine wpList_alloc_arr rfl 118 rfl _ item_info ?_)
  have hK1 := HK.out.on ((Below.refl _ _).alloc (Nat.le_refl _) (Obj.cells (icells ⟨0, [], Fld.zero32⟩ none 0).toArray 118))
  have hi1 := Blk.new w (icells ⟨0, [], Fld.zero32⟩ none 0).toArray 118
  rw [List.toList_toArray] at hi1
  generalize w.alloc (Obj.cells (icells ⟨0, [], Fld.zero32⟩ none 0).toArray 118) = wA at *
  have c0 : wA.cell? ⟨ga, 0, none⟩ = some (.slice (some ⟨b, off, none⟩) n c) := hK1.blk.cell 0
  have c1 : wA.cell? ⟨ga, 1, none⟩ = some (.int .i64 k) := hK1.blk.cell 1
  have c3 : wA.cell? ⟨ga, 3, none⟩ = some (.int .i64 0) := hK1.blk.cell 3
  have K1 := Lib.hid hK1
  have I1 := Lib.hid hi1
  have GX : w0.heap.size ≤ w.heap.size := HK.out.below.size
  clear hK1 hi1 HK
  obtain ⟨gx, hgx⟩ : ∃ g, g = w.heap.size := ⟨_, rfl⟩
  rw [← hgx] at I1 GX ⊢
  clear hgx
  have hki : ¬ (n : Int) ≤ (k : Int) := by omega
  have hki' : decide ((n : Int) ≤ (k : Int)) = false := by rw [decide_eq_false_iff_not]; exact hki
  simp only [Act.put, List.setIfInBounds_toArray, List.set_cons_succ, List.set_cons_zero]
  go_quiet (fail)
  have hKB := K1.out.on (below_drewN (Below.refl _ wA) nq)
  have hIB := I1.out.drewN nq
  generalize wA.drewN nq = wB at *
  have e1 : wB.cell? ⟨ga, 1, none⟩ = some (.int .i64 k) := hKB.blk.cell 1
  have e3 : wB.cell? ⟨ga, 3, none⟩ = some (.int .i64 0) := hKB.blk.cell 3
  have f1 : wB.frozen? ⟨ga, 1, none⟩ = false := hKB.blk.free 1
  have KB := Lib.hid hKB
  have IB := Lib.hid hIB
  clear hKB hIB K1 I1 c0 c1 c3
  have hgne : gx ≠ ga := KB.out.ne IB.out
  go_wp2_with fail
  rw [show ((k : Int) + 1) = ((k + 1 : Nat) : Int) by omega]
  have hKC := KB.out.at_ (k + 1)
  have hIC := IB.out.setOther ⟨ga, 1, none⟩ (.int .i64 ((k + 1 : Nat) : Int)) hgne
  generalize wB.setCell ⟨ga, 1, none⟩ (.int .i64 ((k + 1 : Nat) : Int)) = wC at *
  have d0 : wC.cell? ⟨ga, 0, none⟩ = some (.slice (some ⟨b, off, none⟩) n c) := hKC.blk.cell 0
  have d1 : wC.cell? ⟨ga, 1, none⟩ = some (.int .i64 ((k : Int) + 1)) := hKC.blk.cell 1
  have ld : (loadOp 118 (.pointer (some ⟨b, off + k * 34, none⟩))).run Tryz.prog wC.drew = .ok (.value (.agg (icells x q qc).toArray)) wC.drew := load_at HG.out.ok (range_belowF HR.out (hKC.below.drew))
  have KD := Lib.hid (hKC.on (Below.refl _ _).drew)
  have ID := Lib.hid hIC.drew
  clear hKC hIC KB IB
  refine region_tail 11 (by kernel_rfl) (by kernel_rfl) ?_
  simp only [List.take_succ_cons, List.take_zero, List.drop_succ_cons, List.drop_zero]
  repeat (go_big_quiet_step (fail))
  refine wpQuiet_nil ?_
  change wpList _ _ _ _ _ wC.drew
  clear ld d0 d1
  generalize wC.drew = wD at *
  go_wp2_with (refine wpList_store_row rfl 118 (.tmp 2) (.tmp 45) rfl _ _ rfl rfl 118 _ ID.out hsz hsz3 (icells_all _ _ _) ?_)
  refine bodyPost_ret (v := .agg (icells x q qc).toArray) ?_ rfl ⟨q, qc, rfl, HG.out, KD.out.row ID.out GX _⟩
  exact results_cell_row rfl _ _ _ _ _ _ _ rfl (ID.out.row _) (Tryz.underlying118) rfl hsz
end
section
set_option linter.unusedSimpArgs false
set_option linter.unusedVariables false
namespace Fld
def isLet (c : Int) : Prop := c = 110 ∨ c = 98 ∨ c = 100
/-- Within a group: letters up to its end. -/
theorem chkL_in : ∀ (r : List Int) (k : Bool), chkL r true k = true → ∃ cs r' k', r = cs ++ 41 :: r' ∧ (∀ c ∈ cs, isLet c) ∧ chkL r' false k' = true
  | [], k, h => by simp [chkL] at h
  | c :: r, k, h => by
    unfold chkL at h
    split at h
    · rename_i hc
      obtain ⟨cs, r', k', h1, h2, h3⟩ := chkL_in r true h
      exact ⟨c :: cs, r', k', by rw [h1]; rfl, fun d hd => by
        rcases List.mem_cons.1 hd with rfl | hd
        · exact hc
        · exact h2 d hd, h3⟩
    · simp at h
      obtain ⟨⟨h1, h2⟩, h3⟩ := h
      exact ⟨[], r, k, by rw [h1]; rfl, by simp, h3⟩
/-- Outside: a letter, or a group. -/
theorem chkL_out (c : Int) (r : List Int) (k : Bool) (h : chkL (c :: r) false k = true) : (isLet c ∧ chkL r false true = true) ∨ (c = 40 ∧ ∃ cs r' k', r = cs ++ 41 :: r' ∧ (∀ c ∈ cs, isLet c) ∧ chkL r' false k' = true) := by
  unfold chkL at h
  split at h
  · rename_i hc
    exact Or.inl ⟨hc, h⟩
  · split at h
    · rename_i hc
      exact Or.inr ⟨hc.1, chkL_in r false h⟩
    · simp at h
theorem isLet_ne {c : Int} (h : isLet c) : c ≠ 40 ∧ c ≠ 41 := by rcases h with rfl | rfl | rfl <;> omega
section
variable {σ : Type} (f : Int → σ → σ × Int × Int)
theorem walkL_grp : ∀ (cs g : List Int) (t : Int) (r : List Int) (st : σ), (∀ c ∈ cs, isLet c) →
    walkL f (some g) t (cs ++ 41 :: r) st = if (rep f (g ++ cs) t.toNat st).2 = 0 then walkL f none t r (rep f (g ++ cs) t.toNat st).1 else rep f (g ++ cs) t.toNat st
  | [], g, t, r, st, _ => by
    rw [List.append_nil, List.nil_append, walkL, if_pos rfl]
  | c :: cs, g, t, r, st, h => by
    rw [List.cons_append, walkL, if_neg (isLet_ne (h c (List.mem_cons_self ..))).2, walkL_grp cs (g ++ [c]) t r st (fun d hd => h d (List.mem_cons_of_mem _ hd)), List.append_assoc]
    rfl
theorem walkL_open (t : Int) (cs r : List Int) (st : σ) (h : ∀ c ∈ cs, isLet c) :
    walkL f none t (40 :: (cs ++ 41 :: r)) st = if (f 40 st).2.2 = 0 then (if (rep f cs (f 40 st).2.1.toNat (f 40 st).1).2 = 0 then walkL f none (f 40 st).2.1 r (rep f cs (f 40 st).2.1.toNat (f 40 st).1).1 else rep f cs (f 40 st).2.1.toNat (f 40 st).1) else ((f 40 st).1, (f 40 st).2.2) := by
  rw [walkL, if_pos rfl, walkL_grp f cs [] _ r _ h, List.nil_append]
theorem walkL_letter (t : Int) (c : Int) (r : List Int) (st : σ) (h : c ≠ 40) :
    walkL f none t (c :: r) st = if (f c st).2.2 = 0 then walkL f none (f c st).2.1 r (f c st).1 else ((f c st).1, (f c st).2.2) := by
  rw [walkL, if_neg h]
/-- Behind an error nothing more is done. -/
def stick (c : Int) (s : σ × Int) : σ × Int := if s.2 = 0 then ((f c s.1).1, (f c s.1).2.2) else s
def sticks (cs : List Int) (s : σ × Int) : σ × Int := cs.foldl (fun s c => stick f c s) s
theorem stick_err {c : Int} {s : σ × Int} (h : s.2 ≠ 0) : stick f c s = s := by unfold stick; rw [if_neg h]
theorem sticks_err (cs : List Int) {s : σ × Int} (h : s.2 ≠ 0) : sticks f cs s = s := by
  induction cs with
  | nil => rfl
  | cons c cs ih => unfold sticks at *; rw [List.foldl_cons, stick_err f h]; exact ih
theorem sticks_once : ∀ (cs : List Int) (st : σ), sticks f cs (st, 0) = once f cs st
  | [], st => rfl
  | c :: cs, st => by
    have e : sticks f (c :: cs) (st, 0) = sticks f cs (stick f c (st, 0)) := rfl
    rw [e, once]
    unfold stick
    rw [if_pos rfl]
    split
    · rename_i h
      show sticks f cs ((f c st).1, (f c st).2.2) = _
      rw [h]
      exact sticks_once cs _
    · rename_i h
      exact sticks_err f cs h
/-- One round of a group behind another, as long as there is no error. -/
theorem rep_stick (cs : List Int) (n : Nat) (st : σ) : rep f cs (n + 1) st = if (sticks f cs (st, 0)).2 = 0 then rep f cs n (sticks f cs (st, 0)).1 else sticks f cs (st, 0) := by
  rw [sticks_once, rep]
/-- A shape from where a letter or a group begins. -/
theorem walkL_tail (t t' : Int) (r : List Int) (st : σ) (k : Bool) (h : chkL r false k = true) : walkL f none t r st = walkL f none t' r st := by
  cases r with
  | nil => rfl
  | cons c r => rw [walkL, walkL]
end
end Fld
end
section
set_option linter.unusedSimpArgs false
set_option linter.unusedVariables false
open Go.RowKit Sha
open Fld (Itm)
@[irreducible] def neqOp (t : TypeId) (x y : Operand) (u v : Value) : Sem Next := do pure (.value (← (do eqGuard .neq t x y u v; binOp .neq t u v)))
theorem execOp_neqId (ρ : Operand → Value) (dst : Option Tmp) (x y : Operand) (ty r : TypeId) (pos : String) (after : Array Edge) (guard : Option (Nat × Bool)) :
    execOp ρ { dst := dst, op := .binOp .neq 27 x y r, type := ty, pos := pos, after := after, guard := guard } = neqOp 27 x y (ρ x) (ρ y) := by unfold neqOp; rfl
theorem execOp_buildId (ρ : Operand → Value) (dst : Option Tmp) (parts : Array (Nat × Operand)) (ty : TypeId) (pos : String) (after : Array Edge) (guard : Option (Nat × Bool)) :
    execOp ρ { dst := dst, op := .build 27 parts, type := ty, pos := pos, after := after, guard := guard } = mkOp 27 (parts.map fun (i, x) => (i, ρ x)) := by unfold mkOp; rfl
theorem run_neqId (x y : Operand) (xs ys : List Int) (hx : xs.length = 32) (hy : ys.length = 32) (w : World) : (neqOp 27 x y (.agg (xs.map v8).toArray) (.agg (ys.map v8).toArray)).run Tryz.prog w = .ok (.value (.bool (!decide (xs = ys)))) w := by
  have h := run_neq_arr (P := Tryz.prog) w x y 27 5 32 .u8 Tryz.underlying27 Tryz.underlying5 kslice1 xs ys hx hy
  unfold neqOp
  rw [Sem.run_bind, h]
  simp only [Result.andThen_ok, Sem.run_pure]
theorem rfails_0 {w0 w : World} {ga k : Nat} {L v : Value} {out : List Int} (h : RW w0 ga L k v out 0 w) {gx : Nat} {cs : List Value} (hi : Blk w gx cs 118) (er : Int) :
    Calls Tryz.prog 90 #[.pointer (some ⟨ga, 0, none⟩), .int .i64 er] w fun x w' => x = .returned (.tuple #[]) ∧ RW w0 ga L k v out er w' ∧ Blk w' gx cs 118 :=
  (rfails_any ga _ _ _ 0 er w h.blk).mono fun x w' ⟨hx, hw⟩ => ⟨hx, by rw [hw, if_pos rfl]; exact h.fail er, by rw [hw, if_pos rfl]; exact hi.setOther _ _ (h.ne hi)⟩
theorem rfails_e {w0 w : World} {ga k : Nat} {L v : Value} {out : List Int} {e : Int} (h : RW w0 ga L k v out e w) (he : e ≠ 0) (er : Int) :
    Calls Tryz.prog 90 #[.pointer (some ⟨ga, 0, none⟩), .int .i64 er] w fun x w' => x = .returned (.tuple #[]) ∧ w = w' :=
  (rfails_any ga _ _ _ e er w h.blk).mono fun x w' ⟨hx, hw⟩ => ⟨hx, by rw [hw, if_neg he]⟩
attribute [local go_sem ↓] execOp_loadId execOp_buildId execOp_neqId
/-- The item that next told, in a variable: what the walk asks of it. -/
theorem item_box {w0 w1 : World} {ga k : Nat} {L v : Value} {out : List Int} {er : Int} {x : Itm} {q : Option Addr} {c : Nat} (h : RW w0 ga L k v out er w1) (hg : GoodI w0 x q c) :
    let w2 := w1.alloc (Obj.cells (icells x q c).toArray 118)
    RW w0 ga L k v out er w2 ∧ GoodI w0 x q c ∧ Blk w2 w1.heap.size (icells x q c) 118 :=
  ⟨h.on ((Below.refl _ _).alloc (Nat.le_refl _) _), hg, by have := Blk.new w1 (icells x q c).toArray 118; rwa [List.toList_toArray] at this⟩
def CDone (w0 : World) (ga : Nat) (L : Value) (k : Nat) (er : Int) (out : List Int) (r : Int) (e : Ending) (w' : World) : Prop := e = .returned (.int .i64 r) ∧ ∃ v, RW w0 ga L k v out er w'
set_option maxRecDepth 100000 in
set_option maxHeartbeats 1000000 in
theorem rcount_err (w0 : World) (ga : Nat) (L : Value) (v : Value) (out : List Int) (k : Nat) (er : Int) (he : er ≠ 0) (most : Int) (hm : 0 ≤ most) (w : World)
    (hnext : Calls Tryz.prog 122 #[.pointer (some ⟨ga, 0, none⟩)] w (NextDone w0 ga L v out ⟨0, [], Fld.zero32⟩ k er)) :
    Calls Tryz.prog 89 #[.pointer (some ⟨ga, 0, none⟩), .int .i64 most] w (CDone w0 ga L k er out 0) := by
  have HNX := Lib.hid hnext
  have hne : (er == 0) = false := by rw [beq_eq_false_iff_ne]; exact he
  have hl : ¬ most < 0 := by omega
  clear hnext he
  go_enter Tryz.func89, Tryz.ntmps89
  go_wp2_with (first
    | (go_at_call 122; refine HNX.out.mono ?_; clear HNX; rintro e w1 ⟨q, c, rfl, hg, hr⟩; have hsz : (Tryz.prog.info? 118).map (fun i => i.size) = some (icells ⟨0, [], Fld.zero32⟩ q c).toArray.size := (by rw [item_size, List.size_toArray, icells_length item0_ok']); have hsz3 : (icells ⟨0, [], Fld.zero32⟩ none 0).toArray.size = (icells ⟨0, [], Fld.zero32⟩ q c).toArray.size := (by rw [List.size_toArray, List.size_toArray, icells_length item0_ok', icells_length item0_ok']); have HG := Lib.hid hg; have HR := Lib.hid hr; clear hg hr)
    | (refine wpList_alloc_arr rfl 118 rfl _ item_info ?_; have tk1 : True := trivial)
    | (have _t := tk1; refine wpList_store_row rfl 118 (.tmp 5) (.tmp 7) rfl _ _ rfl rfl 118 _ (heap_alloc_new _ _) hsz hsz3 (icells_all _ _ _) ?_; clear tk1 _t; rw [World.setRow_alloc_new]; obtain ⟨hr2, hg2, hb2⟩ := item_box HR.out HG.out; generalize w1.alloc (Obj.cells (icells ⟨0, [], Fld.zero32⟩ q c).toArray 118) = w2 at *; generalize w1.heap.size = gx at *; have c0 : w2.cell? ⟨gx, 0, none⟩ = some (.int .i64 0) := (hb2.cell 0).trans (icells_0 _ _ _); have c1 : w2.cell? ⟨gx, 1, none⟩ = some (.slice q 0 c) := (hb2.cell 1).trans (icells_1 _ _ _); have c3 : w2.cell? ⟨ga, 3, none⟩ = some (.int .i64 er) := hr2.blk.cell 3; have ld := load_id item0_ok' hb2.range; have bd := run_mkOp (P := Tryz.prog) w2 (parts := #[]) id_zero; have nq := (fun oa ob => run_neqId oa ob Fld.zero32 Fld.zero32 Fld.zero32_length Fld.zero32_length w2); rw [decide_eq_true rfl] at nq; have R2 := Lib.hid hr2; have G2 := Lib.hid hg2; have I2 := Lib.hid hb2; clear hr2 hg2 hb2))
  go_ret
  exact ⟨rfl, _, R2.out⟩
set_option maxRecDepth 100000 in
set_option maxHeartbeats 2000000 in
theorem rcount_b (w0 : World) (ga : Nat) (L : Value) (v : Value) (out : List Int) (k : Nat) (x : Itm) (hx : x.ok) (most : Int) (hm : 0 ≤ most) (w : World)
    (hnext : Calls Tryz.prog 122 #[.pointer (some ⟨ga, 0, none⟩)] w (NextDone w0 ga L v out x k 0))
    (hB : x.B ≠ []) :
    Calls Tryz.prog 89 #[.pointer (some ⟨ga, 0, none⟩), .int .i64 most] w (CDone w0 ga L k 2 out 0) := by
  have HNX := Lib.hid hnext
  have n0 := hx.N0
  have n1 := hx.N1
  obtain ⟨m, hmm⟩ : ∃ m, m = x.B.length := ⟨_, rfl⟩
  have HM := Lib.hid hmm
  obtain ⟨xn, hxn⟩ : ∃ n, n = x.N := ⟨_, rfl⟩
  rw [← hxn] at n0 n1
  have HN := Lib.hid hxn
  have OKX := Lib.hid hx
  have hm0 : 0 < m := by rw [hmm]; exact List.length_pos_iff.2 hB
  clear hnext hmm hxn hx hB
  by_cases h1 : xn < 0
  all_goals by_cases h2 : 4611686018427387903 < xn
  all_goals by_cases h3 : most < xn
  all_goals try omega
  all_goals
    go_enter Tryz.func89, Tryz.ntmps89
    go_wp2_with (first
      | (go_at_call 122; refine HNX.out.mono ?_; clear HNX; rintro e w1 ⟨q, c, rfl, hg, hr⟩; have hsz : (Tryz.prog.info? 118).map (fun i => i.size) = some (icells x q c).toArray.size := (by rw [item_size, List.size_toArray, icells_length OKX.out]); have hsz3 : (icells ⟨0, [], Fld.zero32⟩ none 0).toArray.size = (icells x q c).toArray.size := (by rw [List.size_toArray, List.size_toArray, icells_length item0_ok', icells_length OKX.out]); have HG := Lib.hid hg; have HR := Lib.hid hr; clear hg hr)
      | (refine wpList_alloc_arr rfl 118 rfl _ item_info ?_; have tk1 : True := trivial)
      | (have _t := tk1; refine wpList_store_row rfl 118 (.tmp 5) (.tmp 7) rfl _ _ rfl rfl 118 _ (heap_alloc_new _ _) hsz hsz3 (icells_all _ _ _) ?_; clear tk1 _t; rw [World.setRow_alloc_new]; obtain ⟨hr2, hg2, hb2⟩ := item_box HR.out HG.out; generalize w1.alloc (Obj.cells (icells x q c).toArray 118) = w2 at *; generalize w1.heap.size = gx at *; have c0 : w2.cell? ⟨gx, 0, none⟩ = some (.int .i64 xn) := (by rw [HN.out]; exact (hb2.cell 0).trans (icells_0 _ _ _)); have c1 : w2.cell? ⟨gx, 1, none⟩ = some (.slice q m c) := (by rw [HM.out]; exact (hb2.cell 1).trans (icells_1 _ _ _)); have c3 : w2.cell? ⟨ga, 3, none⟩ = some (.int .i64 0) := hr2.blk.cell 3; have tk0 : True := trivial; have R2 := Lib.hid hr2; have G2 := Lib.hid hg2; have I2 := Lib.hid hb2; clear hr2 hg2 hb2)
      | (have _t := tk0; go_at_call 90; clear tk0 _t; refine (rfails_0 R2.out I2.out _).mono ?_; rintro e w3 ⟨rfl, hr3, hb3⟩; have d0 : w3.cell? ⟨gx, 0, none⟩ = some (.int .i64 xn) := (by rw [HN.out]; exact (hb3.cell 0).trans (icells_0 _ _ _)); have d3 : w3.cell? ⟨ga, 3, none⟩ = some (.int .i64 2) := hr3.blk.cell 3; have R3 := Lib.hid hr3; clear hr3 hb3 c0 c1 c3; have tk9 : True := trivial)
      | (have _t := tk9; go_at_call 90; clear _t; refine (rfails_e R3.out (by decide) _).mono ?_; rintro e w4 ⟨rfl, rfl⟩))
    go_ret
    exact ⟨rfl, _, R3.out⟩
set_option maxRecDepth 100000 in
set_option maxHeartbeats 2000000 in
theorem rcount_d (w0 : World) (ga : Nat) (L : Value) (v : Value) (out : List Int) (k : Nat) (x : Itm) (hx : x.ok) (most : Int) (hm : 0 ≤ most) (w : World)
    (hnext : Calls Tryz.prog 122 #[.pointer (some ⟨ga, 0, none⟩)] w (NextDone w0 ga L v out x k 0))
    (hB : x.B = []) (hD : x.D ≠ Fld.zero32) :
    Calls Tryz.prog 89 #[.pointer (some ⟨ga, 0, none⟩), .int .i64 most] w (CDone w0 ga L k 2 out 0) := by
  have HNX := Lib.hid hnext
  have n0 := hx.N0
  have n1 := hx.N1
  obtain ⟨m, hmm⟩ : ∃ m, m = x.B.length := ⟨_, rfl⟩
  have HM := Lib.hid hmm
  obtain ⟨xn, hxn⟩ : ∃ n, n = x.N := ⟨_, rfl⟩
  rw [← hxn] at n0 n1
  have HN := Lib.hid hxn
  have OKX := Lib.hid hx
  have hm0 : m = 0 := by rw [hmm, hB]; rfl
  subst hm0
  have hdd : decide (x.D = Fld.zero32) = false := by rw [decide_eq_false_iff_not]; exact hD
  clear hnext hmm hxn hx hB hD
  by_cases h1 : xn < 0
  all_goals by_cases h2 : 4611686018427387903 < xn
  all_goals by_cases h3 : most < xn
  all_goals try omega
  all_goals
    go_enter Tryz.func89, Tryz.ntmps89
    go_wp2_with (first
      | (go_at_call 122; refine HNX.out.mono ?_; clear HNX; rintro e w1 ⟨q, c, rfl, hg, hr⟩; have hsz : (Tryz.prog.info? 118).map (fun i => i.size) = some (icells x q c).toArray.size := (by rw [item_size, List.size_toArray, icells_length OKX.out]); have hsz3 : (icells ⟨0, [], Fld.zero32⟩ none 0).toArray.size = (icells x q c).toArray.size := (by rw [List.size_toArray, List.size_toArray, icells_length item0_ok', icells_length OKX.out]); have HG := Lib.hid hg; have HR := Lib.hid hr; clear hg hr)
      | (refine wpList_alloc_arr rfl 118 rfl _ item_info ?_; have tk1 : True := trivial)
      | (have _t := tk1; refine wpList_store_row rfl 118 (.tmp 5) (.tmp 7) rfl _ _ rfl rfl 118 _ (heap_alloc_new _ _) hsz hsz3 (icells_all _ _ _) ?_; clear tk1 _t; rw [World.setRow_alloc_new]; obtain ⟨hr2, hg2, hb2⟩ := item_box HR.out HG.out; generalize w1.alloc (Obj.cells (icells x q c).toArray 118) = w2 at *; generalize w1.heap.size = gx at *; have c0 : w2.cell? ⟨gx, 0, none⟩ = some (.int .i64 xn) := (by rw [HN.out]; exact (hb2.cell 0).trans (icells_0 _ _ _)); have c1 : w2.cell? ⟨gx, 1, none⟩ = some (.slice q 0 c) := (by rw [HM.out]; exact (hb2.cell 1).trans (icells_1 _ _ _)); have c3 : w2.cell? ⟨ga, 3, none⟩ = some (.int .i64 0) := hr2.blk.cell 3; have ld := load_id OKX.out hb2.range; have bd := run_mkOp (P := Tryz.prog) w2 (parts := #[]) id_zero; have nq := (fun oa ob => run_neqId oa ob x.D Fld.zero32 OKX.out.len Fld.zero32_length w2); rw [hdd] at nq; have tk0 : True := trivial; have R2 := Lib.hid hr2; have G2 := Lib.hid hg2; have I2 := Lib.hid hb2; clear hr2 hg2 hb2)
      | (have _t := tk0; go_at_call 90; clear tk0 _t; refine (rfails_0 R2.out I2.out _).mono ?_; rintro e w3 ⟨rfl, hr3, hb3⟩; have d0 : w3.cell? ⟨gx, 0, none⟩ = some (.int .i64 xn) := (by rw [HN.out]; exact (hb3.cell 0).trans (icells_0 _ _ _)); have d3 : w3.cell? ⟨ga, 3, none⟩ = some (.int .i64 2) := hr3.blk.cell 3; have R3 := Lib.hid hr3; clear hr3 hb3 c0 c1 c3; have tk9 : True := trivial)
      | (have _t := tk9; go_at_call 90; clear _t; refine (rfails_e R3.out (by decide) _).mono ?_; rintro e w4 ⟨rfl, rfl⟩))
    go_ret
    exact ⟨rfl, _, R3.out⟩
set_option maxRecDepth 100000 in
set_option maxHeartbeats 2000000 in
theorem rcount_r5 (w0 : World) (ga : Nat) (L : Value) (v : Value) (out : List Int) (k : Nat) (x : Itm) (hx : x.ok) (most : Int) (hm : 0 ≤ most) (w : World)
    (hnext : Calls Tryz.prog 122 #[.pointer (some ⟨ga, 0, none⟩)] w (NextDone w0 ga L v out x k 0))
    (hB : x.B = []) (hD : x.D = Fld.zero32) (hr : x.N < 0 ∨ 4611686018427387903 < x.N) :
    Calls Tryz.prog 89 #[.pointer (some ⟨ga, 0, none⟩), .int .i64 most] w (CDone w0 ga L k 5 out 0) := by
  have HNX := Lib.hid hnext
  have n0 := hx.N0
  have n1 := hx.N1
  obtain ⟨m, hmm⟩ : ∃ m, m = x.B.length := ⟨_, rfl⟩
  have HM := Lib.hid hmm
  obtain ⟨xn, hxn⟩ : ∃ n, n = x.N := ⟨_, rfl⟩
  rw [← hxn] at n0 n1
  have HN := Lib.hid hxn
  have OKX := Lib.hid hx
  have hm0 : m = 0 := by rw [hmm, hB]; rfl
  subst hm0
  have hdd : decide (x.D = Fld.zero32) = true := by rw [hD]; exact decide_eq_true rfl
  rw [← hxn] at hr
  by_cases h1 : xn < 0
  all_goals by_cases h2 : 4611686018427387903 < xn
  all_goals by_cases h3 : most < xn
  all_goals try omega
  all_goals clear hnext hmm hxn hx hB hD hr
  all_goals
    go_enter Tryz.func89, Tryz.ntmps89
    go_wp2_with (first
      | (go_at_call 122; refine HNX.out.mono ?_; clear HNX; rintro e w1 ⟨q, c, rfl, hg, hr⟩; have hsz : (Tryz.prog.info? 118).map (fun i => i.size) = some (icells x q c).toArray.size := (by rw [item_size, List.size_toArray, icells_length OKX.out]); have hsz3 : (icells ⟨0, [], Fld.zero32⟩ none 0).toArray.size = (icells x q c).toArray.size := (by rw [List.size_toArray, List.size_toArray, icells_length item0_ok', icells_length OKX.out]); have HG := Lib.hid hg; have HR := Lib.hid hr; clear hg hr)
      | (refine wpList_alloc_arr rfl 118 rfl _ item_info ?_; have tk1 : True := trivial)
      | (have _t := tk1; refine wpList_store_row rfl 118 (.tmp 5) (.tmp 7) rfl _ _ rfl rfl 118 _ (heap_alloc_new _ _) hsz hsz3 (icells_all _ _ _) ?_; clear tk1 _t; rw [World.setRow_alloc_new]; obtain ⟨hr2, hg2, hb2⟩ := item_box HR.out HG.out; generalize w1.alloc (Obj.cells (icells x q c).toArray 118) = w2 at *; generalize w1.heap.size = gx at *; have c0 : w2.cell? ⟨gx, 0, none⟩ = some (.int .i64 xn) := (by rw [HN.out]; exact (hb2.cell 0).trans (icells_0 _ _ _)); have c1 : w2.cell? ⟨gx, 1, none⟩ = some (.slice q 0 c) := (by rw [HM.out]; exact (hb2.cell 1).trans (icells_1 _ _ _)); have c3 : w2.cell? ⟨ga, 3, none⟩ = some (.int .i64 0) := hr2.blk.cell 3; have ld := load_id OKX.out hb2.range; have bd := run_mkOp (P := Tryz.prog) w2 (parts := #[]) id_zero; have nq := (fun oa ob => run_neqId oa ob x.D Fld.zero32 OKX.out.len Fld.zero32_length w2); rw [hdd] at nq; have tk0 : True := trivial; have R2 := Lib.hid hr2; have G2 := Lib.hid hg2; have I2 := Lib.hid hb2; clear hr2 hg2 hb2)
      | (have _t := tk0; go_at_call 90; clear tk0 _t; refine (rfails_0 R2.out I2.out _).mono ?_; rintro e w3 ⟨rfl, hr3, hb3⟩; have d0 : w3.cell? ⟨gx, 0, none⟩ = some (.int .i64 xn) := (by rw [HN.out]; exact (hb3.cell 0).trans (icells_0 _ _ _)); have d3 : w3.cell? ⟨ga, 3, none⟩ = some (.int .i64 5) := hr3.blk.cell 3; have R3 := Lib.hid hr3; clear hr3 hb3 c0 c1 c3; have tk9 : True := trivial)
      | (have _t := tk9; go_at_call 90; clear _t; refine (rfails_e R3.out (by decide) _).mono ?_; rintro e w4 ⟨rfl, rfl⟩))
    go_ret
    exact ⟨rfl, _, R3.out⟩
set_option maxRecDepth 100000 in
set_option maxHeartbeats 2000000 in
theorem rcount_r3 (w0 : World) (ga : Nat) (L : Value) (v : Value) (out : List Int) (k : Nat) (x : Itm) (hx : x.ok) (most : Int) (hm : 0 ≤ most) (w : World)
    (hnext : Calls Tryz.prog 122 #[.pointer (some ⟨ga, 0, none⟩)] w (NextDone w0 ga L v out x k 0))
    (hB : x.B = []) (hD : x.D = Fld.zero32) (h0 : 0 ≤ x.N) (h4 : x.N ≤ 4611686018427387903) (hr : most < x.N) :
    Calls Tryz.prog 89 #[.pointer (some ⟨ga, 0, none⟩), .int .i64 most] w (CDone w0 ga L k 3 out 0) := by
  have HNX := Lib.hid hnext
  have n0 := hx.N0
  have n1 := hx.N1
  obtain ⟨m, hmm⟩ : ∃ m, m = x.B.length := ⟨_, rfl⟩
  have HM := Lib.hid hmm
  obtain ⟨xn, hxn⟩ : ∃ n, n = x.N := ⟨_, rfl⟩
  rw [← hxn] at n0 n1
  have HN := Lib.hid hxn
  have OKX := Lib.hid hx
  have hm0 : m = 0 := by rw [hmm, hB]; rfl
  subst hm0
  have hdd : decide (x.D = Fld.zero32) = true := by rw [hD]; exact decide_eq_true rfl
  rw [← hxn] at h0 h4 hr
  have h1 : ¬ xn < 0 := by omega
  have h2 : ¬ 4611686018427387903 < xn := by omega
  have h3 : most < xn := by omega
  all_goals clear hnext hmm hxn hx hB hD h0 h4 hr
  all_goals
    go_enter Tryz.func89, Tryz.ntmps89
    go_wp2_with (first
      | (go_at_call 122; refine HNX.out.mono ?_; clear HNX; rintro e w1 ⟨q, c, rfl, hg, hr⟩; have hsz : (Tryz.prog.info? 118).map (fun i => i.size) = some (icells x q c).toArray.size := (by rw [item_size, List.size_toArray, icells_length OKX.out]); have hsz3 : (icells ⟨0, [], Fld.zero32⟩ none 0).toArray.size = (icells x q c).toArray.size := (by rw [List.size_toArray, List.size_toArray, icells_length item0_ok', icells_length OKX.out]); have HG := Lib.hid hg; have HR := Lib.hid hr; clear hg hr)
      | (refine wpList_alloc_arr rfl 118 rfl _ item_info ?_; have tk1 : True := trivial)
      | (have _t := tk1; refine wpList_store_row rfl 118 (.tmp 5) (.tmp 7) rfl _ _ rfl rfl 118 _ (heap_alloc_new _ _) hsz hsz3 (icells_all _ _ _) ?_; clear tk1 _t; rw [World.setRow_alloc_new]; obtain ⟨hr2, hg2, hb2⟩ := item_box HR.out HG.out; generalize w1.alloc (Obj.cells (icells x q c).toArray 118) = w2 at *; generalize w1.heap.size = gx at *; have c0 : w2.cell? ⟨gx, 0, none⟩ = some (.int .i64 xn) := (by rw [HN.out]; exact (hb2.cell 0).trans (icells_0 _ _ _)); have c1 : w2.cell? ⟨gx, 1, none⟩ = some (.slice q 0 c) := (by rw [HM.out]; exact (hb2.cell 1).trans (icells_1 _ _ _)); have c3 : w2.cell? ⟨ga, 3, none⟩ = some (.int .i64 0) := hr2.blk.cell 3; have ld := load_id OKX.out hb2.range; have bd := run_mkOp (P := Tryz.prog) w2 (parts := #[]) id_zero; have nq := (fun oa ob => run_neqId oa ob x.D Fld.zero32 OKX.out.len Fld.zero32_length w2); rw [hdd] at nq; have tk0 : True := trivial; have R2 := Lib.hid hr2; have G2 := Lib.hid hg2; have I2 := Lib.hid hb2; clear hr2 hg2 hb2)
      | (have _t := tk0; go_at_call 90; clear tk0 _t; refine (rfails_0 R2.out I2.out _).mono ?_; rintro e w3 ⟨rfl, hr3, hb3⟩; have d0 : w3.cell? ⟨gx, 0, none⟩ = some (.int .i64 xn) := (by rw [HN.out]; exact (hb3.cell 0).trans (icells_0 _ _ _)); have d3 : w3.cell? ⟨ga, 3, none⟩ = some (.int .i64 3) := hr3.blk.cell 3; have R3 := Lib.hid hr3; clear hr3 hb3 c0 c1 c3; have tk9 : True := trivial)
      | (have _t := tk9; go_at_call 90; clear _t; refine (rfails_e R3.out (by decide) _).mono ?_; rintro e w4 ⟨rfl, rfl⟩))
    go_ret
    exact ⟨rfl, _, R3.out⟩
end
section
set_option linter.unusedSimpArgs false
set_option linter.unusedVariables false
open Go.RowKit Sha
open Fld (Itm)
theorem own_row {w : World} {B n : Nat} {v : Value} {e : TypeId} {xs : List Value} (h : w.ownsRow B e 1 v n xs) : ∃ q c, v = .slice q n c ∧ xs.length = n ∧ At w q xs ∧ n ≤ c ∧ c ≤ 9223372036854775807 ∧ (q = none → c = 0) := by
  rcases h.2 with ⟨hv, h0⟩ | ⟨g, cap, cur, hv, hg, hh, h1, h2, h3, h4⟩
  · have hx := h.1
    rw [h0] at hx
    have : xs = [] := List.eq_nil_of_length_eq_zero (by simpa using hx)
    subst this
    exact ⟨none, 0, by rw [hv, h0], by simp [h0], At.nil _ _, by omega, by omega, fun _ => rfl⟩
  · refine ⟨_, cap, hv, by simpa using h.1, Or.inr ⟨g, 0, rfl, fun i u hu => ?_⟩, h1, by unfold maxLen at h2; omega, fun h => by cases h⟩
    have := h.cells (g := g) (by rw [hv]; rfl) i u hu
    rwa [Addr.add_mid] at this
end
end Go.Proofs.YtbogjfmefkhglaaGreat
