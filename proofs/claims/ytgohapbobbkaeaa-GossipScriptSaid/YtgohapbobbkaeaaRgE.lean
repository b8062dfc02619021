/-
  The reference's Add; its buffers do what is asked of them.
-/
import Derived.Test.YtgohapbobbkaeaaRgD
namespace Go.Proofs.Ytgohapbobbkaeaa
set_option linter.unusedSimpArgs false
set_option linter.unusedVariables false
open Go.RowKit Sha
/-- The word that came, and the reference's words. -/
structure RAdd (w0 w : World) (fp0 : List Nat) (b N : Nat) (fp : List Nat) (P : List Tl) (m : Mb) : Prop where
  raw : RefRaw w b fp N P
  word : Blk w w0.heap.size (mc m) mt
  out : w0.heap.size ∉ fp
  touch : Touch fp0 w0 w
  from_ : From fp0 fp w0
/-- The same, the two rows by themselves. -/
structure RawV (w0 w : World) (fp0 : List Nat) (b N : Nat) (m : Mb) (cL cT vL vT : Value) (nL nT : Nat) (xL xT : List Value) : Prop where
  blk : Blk w b [v64 N, cL, cT] rgt
  rowL : w.ownsRow 0 mt 3 vL nL xL
  rowT : w.ownsRow 0 it 1 vT nT xT
  n1 : vL.ownBlock ≠ some b
  n2 : vT.ownBlock ≠ some b
  n3 : ∀ k, vL.ownBlock = some k → vT.ownBlock ≠ some k
  word : Blk w w0.heap.size (mc m) mt
  n4 : w0.heap.size ≠ b
  n5 : vL.ownBlock ≠ some w0.heap.size
  n6 : vT.ownBlock ≠ some w0.heap.size
  touch : Touch fp0 w0 w
  fb : b ∈ fp0 ∨ w0.heap.size ≤ b
  fL : ∀ k, vL.ownBlock = some k → k ∈ fp0 ∨ w0.heap.size ≤ k
  fT : ∀ k, vT.ownBlock = some k → k ∈ fp0 ∨ w0.heap.size ≤ k
section
variable {w0 w w' : World} {fp0 fp fp2 : List Nat} {b N : Nat} {P P2 : List Tl} {m : Mb} {cL cT vL vT v' : Value} {nL nT n' : Nat} {xL xT xs' : List Value}
theorem RAdd.start (h : RefRaw w b fp N P) (m : Mb) : RAdd w (w.alloc (.cells (mc m).toArray mt)) fp b N fp P m :=
  ⟨h.on ((Below.refl _ _).alloc (Nat.le_refl _) _), Blk.new w (mc m).toArray mt, fun e => Nat.lt_irrefl _ (h.low _ e), Touch.of_below ((Below.refl _ _).alloc (Nat.le_refl _) _), From.refl _ _⟩
theorem RAdd.on (h : RAdd w0 w fp0 b N fp P m) (hb : Below w.heap.size w w') : RAdd w0 w' fp0 b N fp P m :=
  ⟨h.raw.on hb, h.word.upon hb, h.out, h.touch.trans (Touch.of_below (fp := fp0) hb) (From.refl _ _), h.from_⟩
theorem RAdd.back (h : RAdd w0 w fp0 b N fp P m) (hr : RefRaw w' b fp2 N P2) (ht : Touch fp w w') (hf : From fp fp2 w) : RAdd w0 w' fp0 b N fp2 P2 m := by
  refine ⟨hr, (ht.block _ h.word.lt h.out).trans h.word, fun e => ?_, h.touch.trans ht h.from_, h.from_.trans hf h.touch.size⟩
  rcases hf _ e with h1 | h1
  · exact h.out h1
  · have := h.word.lt; omega
theorem RAdd.same (h : RAdd w0 w fp0 b N fp P m) {l : List Tl} (hp : P.Perm l) (ho : Gs.OK N l) (v : Value) : ODone RGRep b fp0 (N, l) v w0 (.returned v) w := ⟨rfl, fp, ⟨P, hp, h.raw, ho⟩, h.touch, h.from_⟩
theorem RawV.of (h : RAdd w0 w fp0 b N fp P m) : ∃ vL vT, RawV w0 w fp0 b N m vL vT vL vT P.length P.length (pms P) (pts P) := by
  obtain ⟨vL, vT, rfl, hb, hL, hT, h1, h2, h3⟩ := h.raw
  have hx := fun k hk => h.from_ k hk
  refine ⟨vL, vT, hb, hL, hT, h1, h2, h3, h.word, fun e => h.out (by rw [e]; simp), fun e => h.out (by rw [e]; simp), fun e => h.out (by rw [e]; simp), h.touch, hx b (by simp), fun k e => hx k (by rw [e]; simp), fun k e => hx k (by rw [e]; simp)⟩
theorem RawV.on (h : RawV w0 w fp0 b N m cL cT vL vT nL nT xL xT) (hb : Below w.heap.size w w') : RawV w0 w' fp0 b N m cL cT vL vT nL nT xL xT :=
  ⟨h.blk.upon hb, ownsRow_keepR h.rowL fun g e => hb.block g (own_base_w h.rowL g e).2, ownsRow_keepR h.rowT fun g e => hb.block g (own_base_w h.rowT g e).2, h.n1, h.n2, h.n3, h.word.upon hb, h.n4, h.n5, h.n6, h.touch.trans (Touch.of_below (fp := fp0) hb) (From.refl _ _), h.fb, h.fL, h.fT⟩
theorem touch_grown (h : Touch fp0 w0 w) {v : Value} (hg : w.grownBy w' v.ownBlock) (hf : ∀ k, v.ownBlock = some k → k ∈ fp0 ∨ w0.heap.size ≤ k) : Touch fp0 w0 w' := by
  refine ⟨hg.os.trans h.os, hg.tape.trans h.tape, hg.output.trans h.output, Nat.le_trans h.size hg.size, fun k hk hn => ?_⟩
  rw [hg.block k (Nat.lt_of_lt_of_le hk h.size) (fun e => by
    rcases hf k e.symm with h1 | h1
    · exact hn h1
    · omega)]
  exact h.block k hk hn
theorem RawV.appL (h : RawV w0 w fp0 b N m cL cT vL vT nL nT xL xT) (hg : w.grownBy w' vL.ownBlock) (hv : w'.ownsRow 0 mt 3 v' n' xs') (hb : ∀ g, v'.ownBlock = some g → vL.ownBlock = some g ∨ w.heap.size ≤ g) : RawV w0 w' fp0 b N m cL cT v' vT n' nT xs' xT := by
  refine ⟨(hg.block b h.blk.lt (fun e => h.n1 e.symm)).trans h.blk, hv, ownsRow_keepR h.rowT fun g e => hg.block g (own_base_w h.rowT g e).2 fun e2 => h.n3 g e2.symm e, fun e => ?_, h.n2, fun k e e2 => ?_, (hg.block _ h.word.lt (fun e => h.n5 e.symm)).trans h.word, h.n4, fun e => ?_, h.n6, touch_grown h.touch hg h.fL, h.fb, fun k e => ?_, h.fT⟩
  · rcases hb _ e with h1 | h1
    · exact h.n1 h1
    · have := h.blk.lt; omega
  · rcases hb _ e with h1 | h1
    · exact h.n3 k h1 e2
    · have := (own_base_w h.rowT k e2).2; omega
  · rcases hb _ e with h1 | h1
    · exact h.n5 h1
    · have := h.word.lt; omega
  · rcases hb _ e with h1 | h1
    · exact h.fL k h1
    · have := h.touch.size; omega
theorem RawV.appT (h : RawV w0 w fp0 b N m cL cT vL vT nL nT xL xT) (hg : w.grownBy w' vT.ownBlock) (hv : w'.ownsRow 0 it 1 v' n' xs') (hb : ∀ g, v'.ownBlock = some g → vT.ownBlock = some g ∨ w.heap.size ≤ g) : RawV w0 w' fp0 b N m cL cT vL v' nL n' xL xs' := by
  refine ⟨(hg.block b h.blk.lt (fun e => h.n2 e.symm)).trans h.blk, ownsRow_keepR h.rowL fun g e => hg.block g (own_base_w h.rowL g e).2 fun e2 => h.n3 g e e2.symm, hv, h.n1, fun e => ?_, fun k e e2 => ?_, (hg.block _ h.word.lt (fun e => h.n6 e.symm)).trans h.word, h.n4, h.n5, fun e => ?_, touch_grown h.touch hg h.fT, h.fb, h.fL, fun k e => ?_⟩
  · rcases hb _ e with h1 | h1
    · exact h.n2 h1
    · have := h.blk.lt; omega
  · rcases hb _ e2 with h1 | h1
    · exact h.n3 k e h1
    · have := (own_base_w h.rowL k e).2; omega
  · rcases hb _ e with h1 | h1
    · exact h.n6 h1
    · have := h.word.lt; omega
  · rcases hb _ e with h1 | h1
    · exact h.fT k h1
    · have := h.touch.size; omega
theorem RawV.touchSet (h : RawV w0 w fp0 b N m cL cT vL vT nL nT xL xT) (i : Nat) (x : Value) : Touch fp0 w0 (w.setCell ⟨b, i, none⟩ x) :=
  h.touch.trans (Touch.setCell (fp := [b]) (by simp)) (fun k hk => by rw [List.mem_singleton.1 hk]; exact h.fb)
theorem row_set {e : TypeId} {n size i : Nat} {v x : Value} {xs : List Value} (h : w.ownsRow 0 e size v n xs) (hn : v.ownBlock ≠ some b) : (w.setCell ⟨b, i, none⟩ x).ownsRow 0 e size v n xs :=
  ownsRow_keepR h fun g e => Below.heap_setCell _ _ _ _ (fun e2 => hn (by rw [← show g = b from e2]; exact e))
theorem RawV.set1 (h : RawV w0 w fp0 b N m cL cT vL vT nL nT xL xT) (x : Value) : RawV w0 (w.setCell ⟨b, 1, none⟩ x) fp0 b N m x cT vL vT nL nT xL xT :=
  ⟨h.blk.set 1 x, row_set h.rowL h.n1, row_set h.rowT h.n2, h.n1, h.n2, h.n3, h.word.setOther _ _ h.n4, h.n4, h.n5, h.n6, h.touchSet 1 x, h.fb, h.fL, h.fT⟩
theorem RawV.set2 (h : RawV w0 w fp0 b N m cL cT vL vT nL nT xL xT) (x : Value) : RawV w0 (w.setCell ⟨b, 2, none⟩ x) fp0 b N m cL x vL vT nL nT xL xT :=
  ⟨h.blk.set 2 x, row_set h.rowL h.n1, row_set h.rowT h.n2, h.n1, h.n2, h.n3, h.word.setOther _ _ h.n4, h.n4, h.n5, h.n6, h.touchSet 2 x, h.fb, h.fL, h.fT⟩
theorem RawV.done {n : Nat} (h : RawV w0 w fp0 b N m vL vT vL vT n n (pms P) (pts P)) (hn : P.length = n) {l : List Tl} (hp : P.Perm l) (ho : Gs.OK N l) (v : Value) : ODone RGRep b fp0 (N, l) v w0 (.returned v) w := by
  subst hn
  refine ⟨rfl, _, ⟨P, hp, ⟨vL, vT, rfl, h.blk, h.rowL, h.rowT, h.n1, h.n2, h.n3⟩, ho⟩, h.touch, fun k hk => ?_⟩
  rcases List.mem_cons.1 hk with rfl | hk
  · exact h.fb
  · rcases List.mem_append.1 hk with hk | hk
    · exact h.fL k (by simpa using hk)
    · exact h.fT k (by simpa using hk)
end
namespace Gs
theorem radd_new {N : Nat} {l P : List Tl} {m : Mb} (hp : P.Perm l) (hm : m.May ∧ m.I ≤ N) (hn : ∀ (k : Nat) (x : Tl), k < P.length → P[k]? = some x → x.m.I ≠ m.I) : (add N l m).2 = (true, 0) ∧ (P ++ [(⟨m, 0⟩ : Tl)]).Perm (add N l m).1 := by
  have hat : ¬ at_ l m.I < l.length := fun h => by
    have h1 := at_here h
    have h2 : l[at_ l m.I] ∈ P := hp.mem_iff.2 (List.getElem_mem h)
    obtain ⟨k, hk, he⟩ := List.getElem_of_mem h2
    exact hn k _ hk (List.getElem?_eq_getElem hk) (by rw [he]; exact h1)
  rw [add_new hm hat]
  refine ⟨rfl, (List.perm_append_singleton _ _).trans ?_⟩
  exact (hp.cons _).trans (put_perm _ _).symm
theorem nodup_inj {l : List Tl} (h : (ids l).Nodup) {x y : Tl} (hx : x ∈ l) (hy : y ∈ l) (he : x.m.I = y.m.I) : x = y := by
  obtain ⟨i, hi, rfl⟩ := List.getElem_of_mem hx
  obtain ⟨j, hj, rfl⟩ := List.getElem_of_mem hy
  have hp := List.pairwise_iff_getElem.1 h
  rcases Nat.lt_trichotomy i j with h1 | h1 | h1
  · have h4 := hp i j (by simpa using hi) (by simpa using hj) h1
    simp only [List.getElem_map] at h4
    exact absurd he h4
  · subst h1; rfl
  · have h4 := hp j i (by simpa using hj) (by simpa using hi) h1
    simp only [List.getElem_map] at h4
    exact absurd he.symm h4
theorem radd_found {N : Nat} {l P : List Tl} {m : Mb} {i : Nat} {x : Tl} (ho : OK N l) (hp : P.Perm l) (hm : m.May ∧ m.I ≤ N) (hx : P[i]? = some x) (he : x.m.I = m.I) :
    (¬ m.Over x.m → add N l m = (l, false, 0)) ∧ (m.Over x.m → (add N l m).2 = (true, 0) ∧ (P.eraseIdx i ++ [(⟨m, 0⟩ : Tl)]).Perm (add N l m).1) := by
  obtain ⟨hi, hxe⟩ := List.getElem?_eq_some_iff.1 hx
  have hxl : x ∈ l := hp.mem_iff.1 (List.mem_of_getElem? hx)
  have hat : at_ l m.I < l.length := Decidable.byContradiction fun h => at_none h (List.mem_map.2 ⟨x, hxl, he⟩)
  have hy : l[at_ l m.I] = x := nodup_inj ho.nd (List.getElem_mem hat) hxl (by rw [at_here hat, he])
  refine ⟨fun hov => add_not hm hat (by rw [hy]; exact hov), fun hov => ?_⟩
  rw [add_over hm hat (by rw [hy]; exact hov)]
  refine ⟨rfl, (List.perm_append_singleton _ _).trans ?_⟩
  refine List.Perm.trans (List.Perm.cons _ ?_) (put_perm _ _).symm
  have h1 := (erase_perm P i hi).trans (hp.trans (erase_perm l _ hat).symm)
  rw [hxe, hy] at h1
  exact h1.cons_inv
end Gs
theorem pms_snoc (Q : List Tl) (m : Mb) : pms Q ++ mc m = pms (Q ++ [⟨m, 0⟩]) := by
  show _ = ((Q ++ [(⟨m, 0⟩ : Tl)]).map fun x : Tl => x.m).flatMap mc
  rw [List.map_append, List.flatMap_append]
  simp
theorem pts_snoc (Q : List Tl) (m : Mb) : pts Q ++ [.int .i64 0] = pts (Q ++ [⟨m, 0⟩]) := by
  show _ = (Q ++ [(⟨m, 0⟩ : Tl)]).map fun x : Tl => Value.int .i64 (x.t : Int)
  rw [List.map_append]
  rfl
theorem run_buildI1 (w : World) (x : Int) : (buildM 52 1 #[(0, .int .i64 x)]).run Try.prog w = .ok (.value (.slice (some ⟨w.heap.size, 0, none⟩) 1 1)) (w.alloc (.cells #[.int .i64 x] it)) := by
  have := run_build_items (P := Try.prog) w 52 it 1 _ (by omega) Try.underlying52 int_zs [[.int .i64 x]] (by intro c hc; simp at hc; subst hc; rfl) (by simp)
  unfold buildM; simp only [Sem.run_bind]
  rw [show (Instr.buildSlice 52 1 #[(0, .int .i64 x)]).run Try.prog w = _ from this]; rfl
section
attribute [local go_sem ↓] execOp_loadM execOp_storeM execOp_eqlM execOp_buildM execOp_buildI
set_option maxRecDepth 100000 in
set_option maxHeartbeats 8000000 in
theorem rgadd_may (b : Nat) (fp : List Nat) (N : Nat) (l : List Tl) (m : Mb) (w : World) (h : RGRep w b fp (N, l)) (hmay : ¬ m.May) :
    Calls Try.prog 15 #[optr b, mv m] w (ODone RGRep b fp (N, l) (.tuple #[.bool false, v64 2]) w) := by
  obtain ⟨P, hp, hr, hok⟩ := h
  have hok : Gs.OK N l := hok
  have hp : P.Perm l := hp
  have hr : RefRaw w b fp N P := hr
  have HOK := Lib.hid hok
  have HP := Lib.hid hp
  have hN : N ≤ 64 := hok.n2
  have A0 := Lib.hid (RAdd.start hr m)
  obtain ⟨_, _, _, _, hb0, _⟩ := A0.out.raw.cells
  have hm := 0
  clear hp hr hok hb0
  obtain ⟨I, W, hC⟩ := cls_of (w.alloc (.cells (mc m).toArray mt))
  have hne : Nonempty I := hC.ne
  have l1 := fun n => run_loadM (rangeM_on (rangeM_of A0.out.word) (hC.back n))
  have QC := Lib.hid (hC.call (P := Try.prog) (f := 35) (args := #[mv m]) (v := .int .i64 2) (fun w' hb => rcheck_no hmay w'))
  have HCC := Lib.hid hC
  clear hC hm hmay
  go_enter Try.func15, Try.ntmps15
  go_wp2_with fail
  refine wp_region_cls W (by kernel_rfl) (by kernel_rfl) HCC.out.one ?_
  repeat go_big_quiet_step ((go_at_call 35; exact QC.out _))
  refine wpQuiet_nil ?_
  rintro _ ⟨mm, rfl⟩
  have A1 := Lib.hid (A0.out.on (HCC.out.back mm))
  clear A0 QC HCC l1
  generalize W mm = w1 at *
  clear W hne
  go_wp2_with fail
  go_ret2
  exact A1.out.same HP.out HOK.out _
set_option maxRecDepth 100000 in
set_option maxHeartbeats 8000000 in
theorem rgadd_who (b : Nat) (fp : List Nat) (N : Nat) (l : List Tl) (m : Mb) (w : World) (h : RGRep w b fp (N, l)) (hmay : m.May) (hI : (N : Int) < m.I) :
    Calls Try.prog 15 #[optr b, mv m] w (ODone RGRep b fp (N, l) (.tuple #[.bool false, v64 2]) w) := by
  obtain ⟨P, hp, hr, hok⟩ := h
  have hok : Gs.OK N l := hok
  have hp : P.Perm l := hp
  have hr : RefRaw w b fp N P := hr
  have HOK := Lib.hid hok
  have HP := Lib.hid hp
  have hN : N ≤ 64 := hok.n2
  have A0 := Lib.hid (RAdd.start hr m)
  obtain ⟨_, _, _, _, hb0, _⟩ := A0.out.raw.cells
  have hm := 0
  clear hp hr hok
  have t0 : decide ((N : Int) < m.I) = true := decide_eq_true hI
  clear hI
  obtain ⟨I, W, hC⟩ := cls_of (w.alloc (.cells (mc m).toArray mt))
  have hne : Nonempty I := hC.ne
  have l1 := fun n => run_loadM (rangeM_on (rangeM_of A0.out.word) (hC.back n))
  have d0 := hC.cell (show (w.alloc (.cells (mc m).toArray mt)).cell? ⟨w.heap.size, 0, none⟩ = some (.int .i64 m.I) from A0.out.word.cell 0)
  have d1 := hC.cell (show (w.alloc (.cells (mc m).toArray mt)).cell? ⟨b, 0, none⟩ = some (v64 N) from hb0.cell 0)
  clear hb0
  have QC := Lib.hid (hC.call (P := Try.prog) (f := 35) (args := #[mv m]) (v := .int .i64 0) (fun w' hb => rcheck_ok hmay w'))
  have HCC := Lib.hid hC
  clear hC hm hmay
  go_enter Try.func15, Try.ntmps15
  go_wp2_with fail
  refine wp_region_cls W (by kernel_rfl) (by kernel_rfl) HCC.out.one ?_
  repeat go_big_quiet_step ((go_at_call 35; exact QC.out _))
  refine wpQuiet_nil ?_
  rintro _ ⟨mm, rfl⟩
  have A1 := Lib.hid (A0.out.on (HCC.out.back mm))
  clear A0 QC HCC l1 d0 d1
  generalize W mm = w1 at *
  clear W hne
  go_wp2_with fail
  go_ret2
  exact A1.out.same HP.out HOK.out _
set_option maxRecDepth 100000 in
set_option maxHeartbeats 8000000 in
theorem rgadd_good (b : Nat) (fp : List Nat) (N : Nat) (l : List Tl) (m : Mb) (w : World) (h : RGRep w b fp (N, l)) (hm : m.May ∧ m.I ≤ N) :
    Calls Try.prog 15 #[optr b, mv m] w (ODone RGRep b fp (N, (Gs.add N l m).1) (.tuple #[.bool (Gs.add N l m).2.1, v64 (Gs.add N l m).2.2]) w) := by
  obtain ⟨P, hp, hr, hok⟩ := h
  have hok : Gs.OK N l := hok
  have hp : P.Perm l := hp
  have hr : RefRaw w b fp N P := hr
  have HOK := Lib.hid hok
  have HP := Lib.hid hp
  have hN : N ≤ 64 := hok.n2
  have A0 := Lib.hid (RAdd.start hr m)
  obtain ⟨_, _, _, _, hb0, _⟩ := A0.out.raw.cells
  have hmay := hm.1
  have t0 : decide ((N : Int) < m.I) = false := decide_eq_false (by have := hm.2; omega)
  have HM := Lib.hid hm
  have hPl : P.length ≤ 64 := by rw [hp.length_eq]; exact Nat.le_trans hok.len hok.n2
  clear hp hr hok
  obtain ⟨I, W, hC⟩ := cls_of (w.alloc (.cells (mc m).toArray mt))
  have hne : Nonempty I := hC.ne
  have l1 := fun n => run_loadM (rangeM_on (rangeM_of A0.out.word) (hC.back n))
  have d0 := hC.cell (show (w.alloc (.cells (mc m).toArray mt)).cell? ⟨w.heap.size, 0, none⟩ = some (.int .i64 m.I) from A0.out.word.cell 0)
  have d1 := hC.cell (show (w.alloc (.cells (mc m).toArray mt)).cell? ⟨b, 0, none⟩ = some (v64 N) from hb0.cell 0)
  clear hb0
  have QC := Lib.hid (hC.call (P := Try.prog) (f := 35) (args := #[mv m]) (v := .int .i64 0) (fun w' hb => rcheck_ok hmay w'))
  have HCC := Lib.hid hC
  clear hC hm hmay
  go_enter Try.func15, Try.ntmps15
  go_wp2_with fail
  refine wp_region_cls W (by kernel_rfl) (by kernel_rfl) HCC.out.one ?_
  repeat go_big_quiet_step ((go_at_call 35; exact QC.out _))
  refine wpQuiet_nil ?_
  rintro _ ⟨mm, rfl⟩
  have A1 := Lib.hid (A0.out.on (HCC.out.back mm))
  clear A0 QC HCC l1 d0 d1 t0
  generalize W mm = w1 at *
  clear W hne
  obtain ⟨n, hn⟩ : ∃ n, n = P.length := ⟨_, rfl⟩
  rw [← hn] at hPl
  have HN := Lib.hid hn
  clear hn
  go_wp2_with fail
  go_loopw [6] (fun iv wr => ∃ i : Nat, iv = .int .i64 i ∧ i ≤ n ∧ Hid (∀ (k : Nat) (x : Tl), k < i → P[k]? = some x → x.m.I ≠ m.I) ∧ Hid (RAdd w wr fp b N fp P m)) (fun iv _ => n - (intOf iv).toNat)
  case atStart => exact ⟨0, rfl, by omega, Lib.hid (fun k x hk => absurd hk (by omega)), A1⟩
  case round =>
    clear A1
    obtain ⟨i, rfl, hi, HX, A⟩ := hrel
    by_cases hlt : i < n
    · obtain ⟨qL, cL, qT, cT, hb, hAL, hAT, l1, l2, l3, l4⟩ := A.out.raw.cells
      rw [← HN.out] at hb l1 l3
      unfold maxLen at l2 l4
      have hil : i < P.length := by rw [← HN.out]; exact hlt
      have HXI := Lib.hid (show P[i]? = some P[i] from List.getElem?_eq_getElem hil)
      generalize P[i] = x at *
      obtain ⟨gL, oL, rfl, _⟩ := hAL.addr (by rw [pms_len]; omega)
      have hrg := rangeP hAL HXI.out
      have c1 : wr.cell? ⟨b, 1, none⟩ = some (.slice (some ⟨gL, oL, none⟩) n cL) := hb.cell 1
      have c2 : wr.cell? ⟨gL, oL + i * 3, none⟩ = some (.int .i64 x.m.I) := by have := hrg 0 _ rfl; simpa using this
      have c3 : wr.cell? ⟨w.heap.size, 0, none⟩ = some (.int .i64 m.I) := A.out.word.cell 0
      have jn : (0 : Int) ≤ (i : Int) ∧ (i : Int) < (n : Int) := by omega
      by_cases he : x.m.I = m.I
      · have t1 : (x.m.I == m.I) = true := by rw [he]; simp
        have HE := Lib.hid (Gs.radd_found HOK.out HP.out HM.out HXI.out he)
        clear he hb hAL hAT hrg hil HX
        go_wp2_with fail
        go_quiet (fail)
        have A2 := Lib.hid (A.out.on (below_drewN (Below.refl _ _) nq))
        clear A c1 c2 c3 t1
        generalize wr.drewN nq = w2 at *
        obtain ⟨qL2, cL2, qT2, cT2, hb2, hAL2, _, k1, k2, _, _⟩ := A2.out.raw.cells
        rw [← HN.out] at hb2 k1
        unfold maxLen at k2
        obtain ⟨gL2, oL2, rfl, _⟩ := hAL2.addr (by rw [pms_len, ← HN.out]; omega)
        have hrg2 := rangeP hAL2 HXI.out
        obtain ⟨I, W, hC⟩ := cls_of w2
        have hne : Nonempty I := hC.ne
        have d2 := hC.cell (show w2.cell? ⟨b, 1, none⟩ = some (.slice (some ⟨gL2, oL2, none⟩) n cL2) from hb2.cell 1)
        have m1 := fun n => run_loadM (rangeM_on (rangeM_of A2.out.word) (hC.back n))
        have m2 := fun n => run_loadM (rangeM_on hrg2 (hC.back n))
        have HCC := Lib.hid hC
        by_cases hov : m.Over x.m
        · have QO := Lib.hid (hC.call (P := Try.prog) (f := 36) (args := #[mv m, mv x.m]) (v := .bool true) (fun w' hb => rover_of (decide_eq_true hov) w'))
          have HE2 := Lib.hid (HE.out.2 hov)
          clear hb2 hAL2 hrg2 hC hov HE
          go_wp2_with fail
          refine wp_region_cls W (by kernel_rfl) (by kernel_rfl) HCC.out.one ?_
          repeat go_big_quiet_step ((go_at_call 36; exact QO.out _))
          refine wpQuiet_nil ?_
          rintro _ ⟨mm, rfl⟩
          have A3 := Lib.hid (A2.out.on (HCC.out.back mm))
          clear A2 QO HCC d2 m1 m2
          generalize W mm = w3 at *
          clear W hne
          have HW := Lib.hid (without_any b fp N P i w3 A3.out.raw (by rw [← HN.out]; exact hlt) (by rw [← HN.out]; omega))
          go_wp2_with fail
          refine HW.out.mono ?_
          rintro e wt ⟨rfl, fp2, hr, ht, hf⟩
          have A := Lib.hid (A3.out.back hr ht hf)
          have hQn : (P.eraseIdx i).length ≤ 64 := Nat.le_trans (List.length_eraseIdx_le _ _) (by rw [← HN.out]; exact hPl)
          have HPR := Lib.hid HE2.out.2
          have HAD := Lib.hid HE2.out.1
          clear hr ht hf HW A3 HE2 HXI
          generalize P.eraseIdx i = Q at *
          obtain ⟨vL, vT, hV⟩ := RawV.of A.out
          obtain ⟨n', hn'⟩ : ∃ y, y = Q.length := ⟨_, rfl⟩
          rw [← hn'] at hV hQn
          have HQL := Lib.hid (show (Q ++ [⟨m, 0⟩] : List Tl).length = n' + 1 from by rw [List.length_append, hn']; rfl)
          have HEL := Lib.hid (show pms Q ++ mc m = pms (Q ++ [⟨m, 0⟩]) from pms_snoc Q m)
          have HET := Lib.hid (show pts Q ++ [.int .i64 0] = pts (Q ++ [⟨m, 0⟩]) from pts_snoc Q m)
          obtain ⟨pL, cL, hvL, l1, l2, _, _, _⟩ := own_at_s hV.rowL
          obtain ⟨pT, cT, hvT, l3, l4, _, _, _⟩ := own_at_s hV.rowT
          subst hvL hvT
          unfold maxLen at l2 l4
          have V := Lib.hid hV
          have HS := Lib.hid (fun W (hb2 : Below wt.heap.size wt W) => (show W.cell? ⟨b, 1, none⟩ = some (.slice pL n' cL) ∧ W.rangeAt w.heap.size 0 (mc m) from ⟨(V.out.on hb2).blk.cell 1, rangeM_of (V.out.on hb2).word⟩))
          clear A hV hn'
          go_wp2_with fail
          refine wp_region_Z 10 (S := (fun w' => w'.cell? ⟨b, 1, none⟩ = some (.slice pL n' cL) ∧ w'.rangeAt w.heap.size 0 (mc m))) (by kernel_rfl) (HS.out _ ((Below.refl _ _).drew)) (fun hHeld hInv => ?_)
          refine z_take 0 (by kernel_rfl) (v := ?v1) (by kernel_rfl) (by kernel_rfl) (by kernel_rfl) (by kernel_rfl) (fun _ _ _ h => h) (by rfl) ?y1 (by assumption) (by assumption) ?r1
          case y1 => (intro w hSw; (try dsimp only at hSw); (obtain ⟨hSa, hSb⟩ := hSw); simp only [List.getElem_cons_succ, List.getElem_cons_zero]; go_simp; (try with_reducible rfl))
          clear hInv; intro hInv
          try simp only [List.getElem_cons_succ, List.getElem_cons_zero, Act.put, List.setIfInBounds_toArray, List.set_cons_zero, List.set_cons_succ]
          refine z_take 1 (by kernel_rfl) (v := ?v2) (by kernel_rfl) (by kernel_rfl) (by kernel_rfl) (by kernel_rfl) (fun _ _ _ h => h) (by rfl) ?y2 (by assumption) (by assumption) ?r2
          case y2 => (intro w hSw; (try dsimp only at hSw); (obtain ⟨hSa, hSb⟩ := hSw); simp only [List.getElem_cons_succ, List.getElem_cons_zero]; go_simp; (try with_reducible rfl))
          clear hInv; intro hInv
          try simp only [List.getElem_cons_succ, List.getElem_cons_zero, Act.put, List.setIfInBounds_toArray, List.set_cons_zero, List.set_cons_succ]
          refine z_take 2 (by kernel_rfl) (v := ?v3) (by kernel_rfl) (by kernel_rfl) (by kernel_rfl) (by kernel_rfl) (fun _ _ _ h => h) (by rfl) ?y3 (by assumption) (by assumption) ?r3
          case y3 => (intro w hSw; (try dsimp only at hSw); (obtain ⟨hSa, hSb⟩ := hSw); simp only [List.getElem_cons_succ, List.getElem_cons_zero]; go_simp; (try with_reducible rfl))
          clear hInv; intro hInv
          try simp only [List.getElem_cons_succ, List.getElem_cons_zero, Act.put, List.setIfInBounds_toArray, List.set_cons_zero, List.set_cons_succ]
          refine z_take 3 (by kernel_rfl) (v := ?v4) (by kernel_rfl) (by kernel_rfl) (by kernel_rfl) (by kernel_rfl) (fun _ _ _ h => h) (by rfl) ?y4 (by assumption) (by assumption) ?r4
          case y4 => (intro w hSw; (try dsimp only at hSw); (obtain ⟨hSa, hSb⟩ := hSw); simp only [List.getElem_cons_succ, List.getElem_cons_zero]; go_simp; (try with_reducible rfl))
          clear hInv; intro hInv
          try simp only [List.getElem_cons_succ, List.getElem_cons_zero, Act.put, List.setIfInBounds_toArray, List.set_cons_zero, List.set_cons_succ]
          refine z_take 4 (by kernel_rfl) (v := ?v5) (by kernel_rfl) (by kernel_rfl) (by kernel_rfl) (by kernel_rfl) (fun _ _ _ h => h) (by rfl) ?y5 (by assumption) (by assumption) ?r5
          case y5 => (intro w hSw; (try dsimp only at hSw); (obtain ⟨hSa, hSb⟩ := hSw); simp only [List.getElem_cons_succ, List.getElem_cons_zero]; go_simp; (try with_reducible rfl))
          clear hInv; intro hInv
          try simp only [List.getElem_cons_succ, List.getElem_cons_zero, Act.put, List.setIfInBounds_toArray, List.set_cons_zero, List.set_cons_succ]
          refine z_take 5 (by kernel_rfl) (v := ?v6) (by kernel_rfl) (by kernel_rfl) (by kernel_rfl) (by kernel_rfl) (fun _ _ _ h => h) (by rfl) ?y6 (by assumption) (by assumption) ?r6
          case y6 => (intro w hSw; (try dsimp only at hSw); have lm := run_loadM hSw.2; (obtain ⟨hSa, hSb⟩ := hSw); simp only [List.getElem_cons_succ, List.getElem_cons_zero]; go_simp; (try with_reducible rfl))
          clear hInv; intro hInv
          try simp only [List.getElem_cons_succ, List.getElem_cons_zero, Act.put, List.setIfInBounds_toArray, List.set_cons_zero, List.set_cons_succ]
          refine z_ready 6 (by kernel_rfl) (by kernel_rfl) (by kernel_rfl) (by assumption) (fun K hK => ?_)
          simp only [List.getElem_cons_succ, List.getElem_cons_zero]
          go_simp
          have cB := run_buildM1 wt.drew m
          have V6 := Lib.hid (V.out.on (show Below wt.heap.size wt (wt.drew.alloc (.cells (mc m).toArray mt)) from (Below.refl _ _).drew.alloc (Nat.le_refl _) _))
          have HA6 := Lib.hid (at_newR wt.drew (mc m) mt)
          generalize wt.drew.alloc (.cells (mc m).toArray mt) = w6 at *
          go_simp
          refine hK.out _ _ ⟨V6.out.blk.cell 1, rangeM_of V6.out.word⟩ (fun hHeld hInv => ?_)
          clear hK K
          try simp only [List.getElem_cons_succ, List.getElem_cons_zero, Act.put, List.setIfInBounds_toArray, List.set_cons_zero, List.set_cons_succ]
          refine z_ready 7 (by kernel_rfl) (by kernel_rfl) (by kernel_rfl) (by assumption) (fun K hK => ?_)
          simp only [List.getElem_cons_succ, List.getElem_cons_zero]
          rw [if_pos (by rfl)]
          refine wp_app_s (.tmp 56) (.tmp 58) 35 rfl 0 mt (z := .agg #[.int .i64 0, .int .i64 0, .int .i64 0]) (by decide) Try.underlying35 mem_info rfl _ n' (pms Q) (by simp [Act.eval, Act.put]) V6.out.rowL (some ⟨wt.heap.size, 0, none⟩) 1 1 (mc m) (by simp [Act.eval, Act.put]; try rfl) HA6.out rfl (fun h => by cases h) (Nat.le_refl _) (wflat_one [m]) (by omega) (by unfold maxLen; omega) (Nat.zero_le _) ?_
          intro v7 w7 hv7 hg7 hb7
          have V7 := Lib.hid (V6.out.appL hg7 hv7 hb7)
          clear hv7 hg7 hb7
          refine hK.out _ _ ⟨V7.out.blk.cell 1, rangeM_of V7.out.word⟩ (fun hHeld hInv => ?_)
          clear hK K
          try simp only [List.getElem_cons_succ, List.getElem_cons_zero, Act.put, List.setIfInBounds_toArray, List.set_cons_zero, List.set_cons_succ]
          refine z_take 8 (by kernel_rfl) (v := ?v7) (by kernel_rfl) (by kernel_rfl) (by kernel_rfl) (by kernel_rfl) (fun _ _ _ h => h) (by rfl) ?y7 (by assumption) (by assumption) ?r7
          case y7 => (intro w hSw; (try dsimp only at hSw); (obtain ⟨hSa, hSb⟩ := hSw); simp only [List.getElem_cons_succ, List.getElem_cons_zero]; go_simp; (try with_reducible rfl))
          clear hInv; intro hInv
          try simp only [List.getElem_cons_succ, List.getElem_cons_zero, Act.put, List.setIfInBounds_toArray, List.set_cons_zero, List.set_cons_succ]
          refine z_take 9 (by kernel_rfl) (v := ?v8) (by kernel_rfl) (by kernel_rfl) (by kernel_rfl) (by kernel_rfl) (fun _ _ _ h => h) (by rfl) ?y8 (by assumption) (by assumption) ?r8
          case y8 => (intro w hSw; (try dsimp only at hSw); (obtain ⟨hSa, hSb⟩ := hSw); simp only [List.getElem_cons_succ, List.getElem_cons_zero]; go_simp; (try with_reducible rfl))
          clear hInv; intro hInv
          try simp only [List.getElem_cons_succ, List.getElem_cons_zero, Act.put, List.setIfInBounds_toArray, List.set_cons_zero, List.set_cons_succ]
          refine z_last 10 (by kernel_rfl) rfl (by kernel_rfl) (by kernel_rfl) (fun K hK => ?_)
          simp only [List.getElem_cons_succ, List.getElem_cons_zero]
          go_simp
          obtain ⟨p7, c7, hv, _, _, _, _, _⟩ := own_at_s V7.out.rowL
          subst hv
          have d7 : w7.cell? ⟨b, 1, none⟩ = some (.slice pL n' cL) := V7.out.blk.cell 1
          have f7 : w7.frozen? ⟨b, 1, none⟩ = false := V7.out.blk.free 1
          (try go_simp)
          refine hK.out _ _ ?_
          clear hK K
          have V8 := Lib.hid (V7.out.set1 (.slice p7 (n' + 1) c7))
          clear V V6 V7 HA6 HS d7 f7 cB
          generalize w7.setCell ⟨b, 1, none⟩ (.slice p7 (n' + 1) c7) = w8 at *
          have c8 : w8.cell? ⟨b, 2, none⟩ = some (.slice pT n' cT) := V8.out.blk.cell 2
          have cI := run_buildI1 w8 0
          have V9 := Lib.hid (V8.out.on (show Below w8.heap.size w8 (w8.alloc (.cells #[.int .i64 0] it)) from (Below.refl _ _).alloc (Nat.le_refl _) _))
          have HA9 := Lib.hid (at_newR w8 [.int .i64 0] it)
          generalize w8.alloc (.cells #[.int .i64 0] it) = w9 at *
          go_wp2_with (refine wpList_app_s rfl _ _ 52 rfl 0 it (z := .int .i64 0) (by decide) Try.underlying52 knum_info rfl _ n' (pts Q) rfl V9.out.rowT (some ⟨w8.heap.size, 0, none⟩) 1 1 [.int .i64 0] rfl HA9.out rfl (fun h => by cases h) (Nat.le_refl _) (by intro u hu; rw [List.mem_singleton.1 hu]; rfl) (by omega) (by unfold maxLen; omega) (Nat.zero_le _) ?_; intro v10 w10 hv10 hg10 hb10; have V10 := Lib.hid (V9.out.appT hg10 hv10 hb10); clear hv10 hg10 hb10 V9 HA9; obtain ⟨p10, cc10, hv10, _, _, _, _, _⟩ := own_at_s V10.out.rowT; subst hv10; have d10 : w10.cell? ⟨b, 2, none⟩ = some (.slice pT n' cT) := V10.out.blk.cell 2; have f10 : w10.frozen? ⟨b, 2, none⟩ = false := V10.out.blk.free 2)
          go_ret2
          have hd := (V10.out.set2 (.slice p10 (n' + 1) cc10))
          rw [HEL.out, HET.out] at hd
          rw [HAD.out]
          exact hd.done HQL.out HPR.out (HOK.out.add m) _
        · have QO := Lib.hid (hC.call (P := Try.prog) (f := 36) (args := #[mv m, mv x.m]) (v := .bool false) (fun w' hb => rover_of (decide_eq_false hov) w'))
          have HE2 := Lib.hid (HE.out.1 hov)
          clear hb2 hAL2 hrg2 hC hov HE
          go_wp2_with fail
          refine wp_region_cls W (by kernel_rfl) (by kernel_rfl) HCC.out.one ?_
          repeat go_big_quiet_step ((go_at_call 36; exact QO.out _))
          refine wpQuiet_nil ?_
          rintro _ ⟨mm, rfl⟩
          have A3 := Lib.hid (A2.out.on (HCC.out.back mm))
          clear A2 QO HCC d2 m1 m2
          generalize W mm = w3 at *
          clear W hne
          go_wp2_with fail
          go_ret2
          rw [HE2.out]
          exact A3.out.same HP.out HOK.out _
      · have t1 : (x.m.I == m.I) = false := by rw [beq_eq_false_iff_ne]; exact he
        have HX2 := Lib.hid (show ∀ (k : Nat) (y : Tl), k < i + 1 → P[k]? = some y → y.m.I ≠ m.I from fun k y hk hy => by
          rcases Nat.lt_succ_iff_lt_or_eq.1 hk with h1 | h1
          · exact HX.out k y h1 hy
          · subst h1; rw [HXI.out] at hy; cases hy; exact he)
        clear he hb hAL hAT hrg hil HX HXI
        go_wp2_with fail
        go_quiet (fail)
        have A2 := Lib.hid (A.out.on (below_drewN (Below.refl _ _) nq))
        clear A c1 c2 c3
        generalize wr.drewN nq = w2 at *
        go_wp2_with fail
        go_roundw
        case rel => exact ⟨i + 1, by go_num, by omega, HX2, A2⟩
        case measure => simp [intOf]; omega
    · obtain rfl : i = n := by omega
      have HE2 := Lib.hid (Gs.radd_new HP.out HM.out (fun k x hk => HX.out k x (by rw [HN.out]; exact hk)))
      have HPR := Lib.hid HE2.out.2
      have HAD := Lib.hid HE2.out.1
      have hQn : P.length ≤ 64 := by rw [← HN.out]; exact hPl
      obtain ⟨_, _, _, _, hb, _⟩ := A.out.raw.cells
      rw [← HN.out] at hb
      have c1 := hb.cell 1
      clear HE2 HX hb
      obtain ⟨Q, hQ⟩ : ∃ Q, Q = P := ⟨_, rfl⟩
      rw [← hQ] at A HPR hQn
      clear hQ
      obtain ⟨wt, hwt⟩ : ∃ y, y = wr := ⟨_, rfl⟩
      subst hwt
      obtain ⟨vL, vT, hV⟩ := RawV.of A.out
      obtain ⟨n', hn'⟩ : ∃ y, y = Q.length := ⟨_, rfl⟩
      rw [← hn'] at hV hQn
      have HQL := Lib.hid (show (Q ++ [⟨m, 0⟩] : List Tl).length = n' + 1 from by rw [List.length_append, hn']; rfl)
      have HEL := Lib.hid (show pms Q ++ mc m = pms (Q ++ [⟨m, 0⟩]) from pms_snoc Q m)
      have HET := Lib.hid (show pts Q ++ [.int .i64 0] = pts (Q ++ [⟨m, 0⟩]) from pts_snoc Q m)
      obtain ⟨pL, cL, hvL, l1, l2, _, _, _⟩ := own_at_s hV.rowL
      obtain ⟨pT, cT, hvT, l3, l4, _, _, _⟩ := own_at_s hV.rowT
      subst hvL hvT
      unfold maxLen at l2 l4
      have V := Lib.hid hV
      have HS := Lib.hid (fun W (hb2 : Below wt.heap.size wt W) => (show W.cell? ⟨b, 1, none⟩ = some (.slice pL n' cL) ∧ W.rangeAt w.heap.size 0 (mc m) from ⟨(V.out.on hb2).blk.cell 1, rangeM_of (V.out.on hb2).word⟩))
      clear A hV hn'
      go_wp2_with fail
      refine wp_region_Z 10 (S := (fun w' => w'.cell? ⟨b, 1, none⟩ = some (.slice pL n' cL) ∧ w'.rangeAt w.heap.size 0 (mc m))) (by kernel_rfl) (HS.out _ ((Below.refl _ _).drew)) (fun hHeld hInv => ?_)
      refine z_take 0 (by kernel_rfl) (v := ?v9) (by kernel_rfl) (by kernel_rfl) (by kernel_rfl) (by kernel_rfl) (fun _ _ _ h => h) (by rfl) ?y9 (by assumption) (by assumption) ?r9
      case y9 => (intro w hSw; (try dsimp only at hSw); (obtain ⟨hSa, hSb⟩ := hSw); simp only [List.getElem_cons_succ, List.getElem_cons_zero]; go_simp; (try with_reducible rfl))
      clear hInv; intro hInv
      try simp only [List.getElem_cons_succ, List.getElem_cons_zero, Act.put, List.setIfInBounds_toArray, List.set_cons_zero, List.set_cons_succ]
      refine z_take 1 (by kernel_rfl) (v := ?v10) (by kernel_rfl) (by kernel_rfl) (by kernel_rfl) (by kernel_rfl) (fun _ _ _ h => h) (by rfl) ?y10 (by assumption) (by assumption) ?r10
      case y10 => (intro w hSw; (try dsimp only at hSw); (obtain ⟨hSa, hSb⟩ := hSw); simp only [List.getElem_cons_succ, List.getElem_cons_zero]; go_simp; (try with_reducible rfl))
      clear hInv; intro hInv
      try simp only [List.getElem_cons_succ, List.getElem_cons_zero, Act.put, List.setIfInBounds_toArray, List.set_cons_zero, List.set_cons_succ]
      refine z_take 2 (by kernel_rfl) (v := ?v11) (by kernel_rfl) (by kernel_rfl) (by kernel_rfl) (by kernel_rfl) (fun _ _ _ h => h) (by rfl) ?y11 (by assumption) (by assumption) ?r11
      case y11 => (intro w hSw; (try dsimp only at hSw); (obtain ⟨hSa, hSb⟩ := hSw); simp only [List.getElem_cons_succ, List.getElem_cons_zero]; go_simp; (try with_reducible rfl))
      clear hInv; intro hInv
      try simp only [List.getElem_cons_succ, List.getElem_cons_zero, Act.put, List.setIfInBounds_toArray, List.set_cons_zero, List.set_cons_succ]
      refine z_take 3 (by kernel_rfl) (v := ?v12) (by kernel_rfl) (by kernel_rfl) (by kernel_rfl) (by kernel_rfl) (fun _ _ _ h => h) (by rfl) ?y12 (by assumption) (by assumption) ?r12
      case y12 => (intro w hSw; (try dsimp only at hSw); (obtain ⟨hSa, hSb⟩ := hSw); simp only [List.getElem_cons_succ, List.getElem_cons_zero]; go_simp; (try with_reducible rfl))
      clear hInv; intro hInv
      try simp only [List.getElem_cons_succ, List.getElem_cons_zero, Act.put, List.setIfInBounds_toArray, List.set_cons_zero, List.set_cons_succ]
      refine z_take 4 (by kernel_rfl) (v := ?v13) (by kernel_rfl) (by kernel_rfl) (by kernel_rfl) (by kernel_rfl) (fun _ _ _ h => h) (by rfl) ?y13 (by assumption) (by assumption) ?r13
      case y13 => (intro w hSw; (try dsimp only at hSw); (obtain ⟨hSa, hSb⟩ := hSw); simp only [List.getElem_cons_succ, List.getElem_cons_zero]; go_simp; (try with_reducible rfl))
      clear hInv; intro hInv
      try simp only [List.getElem_cons_succ, List.getElem_cons_zero, Act.put, List.setIfInBounds_toArray, List.set_cons_zero, List.set_cons_succ]
      refine z_take 5 (by kernel_rfl) (v := ?v14) (by kernel_rfl) (by kernel_rfl) (by kernel_rfl) (by kernel_rfl) (fun _ _ _ h => h) (by rfl) ?y14 (by assumption) (by assumption) ?r14
      case y14 => (intro w hSw; (try dsimp only at hSw); have lm := run_loadM hSw.2; (obtain ⟨hSa, hSb⟩ := hSw); simp only [List.getElem_cons_succ, List.getElem_cons_zero]; go_simp; (try with_reducible rfl))
      clear hInv; intro hInv
      try simp only [List.getElem_cons_succ, List.getElem_cons_zero, Act.put, List.setIfInBounds_toArray, List.set_cons_zero, List.set_cons_succ]
      refine z_ready 6 (by kernel_rfl) (by kernel_rfl) (by kernel_rfl) (by assumption) (fun K hK => ?_)
      simp only [List.getElem_cons_succ, List.getElem_cons_zero]
      go_simp
      have cB := run_buildM1 wt.drew m
      have V6 := Lib.hid (V.out.on (show Below wt.heap.size wt (wt.drew.alloc (.cells (mc m).toArray mt)) from (Below.refl _ _).drew.alloc (Nat.le_refl _) _))
      have HA6 := Lib.hid (at_newR wt.drew (mc m) mt)
      generalize wt.drew.alloc (.cells (mc m).toArray mt) = w6 at *
      go_simp
      refine hK.out _ _ ⟨V6.out.blk.cell 1, rangeM_of V6.out.word⟩ (fun hHeld hInv => ?_)
      clear hK K
      try simp only [List.getElem_cons_succ, List.getElem_cons_zero, Act.put, List.setIfInBounds_toArray, List.set_cons_zero, List.set_cons_succ]
      refine z_ready 7 (by kernel_rfl) (by kernel_rfl) (by kernel_rfl) (by assumption) (fun K hK => ?_)
      simp only [List.getElem_cons_succ, List.getElem_cons_zero]
      rw [if_pos (by rfl)]
      refine wp_app_s (.tmp 56) (.tmp 58) 35 rfl 0 mt (z := .agg #[.int .i64 0, .int .i64 0, .int .i64 0]) (by decide) Try.underlying35 mem_info rfl _ n' (pms Q) (by simp [Act.eval, Act.put]) V6.out.rowL (some ⟨wt.heap.size, 0, none⟩) 1 1 (mc m) (by simp [Act.eval, Act.put]; try rfl) HA6.out rfl (fun h => by cases h) (Nat.le_refl _) (wflat_one [m]) (by omega) (by unfold maxLen; omega) (Nat.zero_le _) ?_
      intro v7 w7 hv7 hg7 hb7
      have V7 := Lib.hid (V6.out.appL hg7 hv7 hb7)
      clear hv7 hg7 hb7
      refine hK.out _ _ ⟨V7.out.blk.cell 1, rangeM_of V7.out.word⟩ (fun hHeld hInv => ?_)
      clear hK K
      try simp only [List.getElem_cons_succ, List.getElem_cons_zero, Act.put, List.setIfInBounds_toArray, List.set_cons_zero, List.set_cons_succ]
      refine z_take 8 (by kernel_rfl) (v := ?v15) (by kernel_rfl) (by kernel_rfl) (by kernel_rfl) (by kernel_rfl) (fun _ _ _ h => h) (by rfl) ?y15 (by assumption) (by assumption) ?r15
      case y15 => (intro w hSw; (try dsimp only at hSw); (obtain ⟨hSa, hSb⟩ := hSw); simp only [List.getElem_cons_succ, List.getElem_cons_zero]; go_simp; (try with_reducible rfl))
      clear hInv; intro hInv
      try simp only [List.getElem_cons_succ, List.getElem_cons_zero, Act.put, List.setIfInBounds_toArray, List.set_cons_zero, List.set_cons_succ]
      refine z_take 9 (by kernel_rfl) (v := ?v16) (by kernel_rfl) (by kernel_rfl) (by kernel_rfl) (by kernel_rfl) (fun _ _ _ h => h) (by rfl) ?y16 (by assumption) (by assumption) ?r16
      case y16 => (intro w hSw; (try dsimp only at hSw); (obtain ⟨hSa, hSb⟩ := hSw); simp only [List.getElem_cons_succ, List.getElem_cons_zero]; go_simp; (try with_reducible rfl))
      clear hInv; intro hInv
      try simp only [List.getElem_cons_succ, List.getElem_cons_zero, Act.put, List.setIfInBounds_toArray, List.set_cons_zero, List.set_cons_succ]
      refine z_last 10 (by kernel_rfl) rfl (by kernel_rfl) (by kernel_rfl) (fun K hK => ?_)
      simp only [List.getElem_cons_succ, List.getElem_cons_zero]
      go_simp
      obtain ⟨p7, c7, hv, _, _, _, _, _⟩ := own_at_s V7.out.rowL
      subst hv
      have d7 : w7.cell? ⟨b, 1, none⟩ = some (.slice pL n' cL) := V7.out.blk.cell 1
      have f7 : w7.frozen? ⟨b, 1, none⟩ = false := V7.out.blk.free 1
      (try go_simp)
      refine hK.out _ _ ?_
      clear hK K
      have V8 := Lib.hid (V7.out.set1 (.slice p7 (n' + 1) c7))
      clear V V6 V7 HA6 HS d7 f7 cB
      generalize w7.setCell ⟨b, 1, none⟩ (.slice p7 (n' + 1) c7) = w8 at *
      have c8 : w8.cell? ⟨b, 2, none⟩ = some (.slice pT n' cT) := V8.out.blk.cell 2
      have cI := run_buildI1 w8 0
      have V9 := Lib.hid (V8.out.on (show Below w8.heap.size w8 (w8.alloc (.cells #[.int .i64 0] it)) from (Below.refl _ _).alloc (Nat.le_refl _) _))
      have HA9 := Lib.hid (at_newR w8 [.int .i64 0] it)
      generalize w8.alloc (.cells #[.int .i64 0] it) = w9 at *
      go_wp2_with (refine wpList_app_s rfl _ _ 52 rfl 0 it (z := .int .i64 0) (by decide) Try.underlying52 knum_info rfl _ n' (pts Q) rfl V9.out.rowT (some ⟨w8.heap.size, 0, none⟩) 1 1 [.int .i64 0] rfl HA9.out rfl (fun h => by cases h) (Nat.le_refl _) (by intro u hu; rw [List.mem_singleton.1 hu]; rfl) (by omega) (by unfold maxLen; omega) (Nat.zero_le _) ?_; intro v10 w10 hv10 hg10 hb10; have V10 := Lib.hid (V9.out.appT hg10 hv10 hb10); clear hv10 hg10 hb10 V9 HA9; obtain ⟨p10, cc10, hv10, _, _, _, _, _⟩ := own_at_s V10.out.rowT; subst hv10; have d10 : w10.cell? ⟨b, 2, none⟩ = some (.slice pT n' cT) := V10.out.blk.cell 2; have f10 : w10.frozen? ⟨b, 2, none⟩ = false := V10.out.blk.free 2)
      go_ret2
      have hd := (V10.out.set2 (.slice p10 (n' + 1) cc10))
      rw [HEL.out, HET.out] at hd
      rw [HAD.out]
      exact hd.done HQL.out HPR.out (HOK.out.add m) _
theorem rgadd_any (b : Nat) (fp : List Nat) (N : Nat) (l : List Tl) (m : Mb) (w : World) (h : RGRep w b fp (N, l)) :
    Calls Try.prog 15 #[optr b, mv m] w (ODone RGRep b fp (N, (Gs.add N l m).1) (.tuple #[.bool (Gs.add N l m).2.1, v64 (Gs.add N l m).2.2]) w) := by
  by_cases hm : m.May ∧ m.I ≤ N
  · exact rgadd_good b fp N l m w h hm
  · rw [Gs.add_bad hm]
    by_cases hmay : m.May
    · exact rgadd_who b fp N l m w h hmay (Int.lt_of_not_ge fun e => hm ⟨hmay, e⟩)
    · exact rgadd_may b fp N l m w h hmay
theorem refGossipOK : GossipOK 9 15 12 17 19 RGRep where
  held := rgHeld
  ok := fun h => by obtain ⟨P, _, _, ho⟩ := h; exact ho
  new := rgnew_any
  add := rgadd_any
  take := rgtake_any
  len := rglen_any
  lim := rglim_any
end
end Go.Proofs.Ytgohapbobbkaeaa
