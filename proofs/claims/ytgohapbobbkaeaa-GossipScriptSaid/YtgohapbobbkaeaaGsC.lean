/-
  The program's Add.
-/
import Derived.Test.YtgohapbobbkaeaaGsB
import Derived.BigQuiet
import Derived.Deep.QuietTactic
namespace Go.Proofs.Ytgohapbobbkaeaa
set_option linter.unusedSimpArgs false
set_option linter.unusedVariables false
open Go.RowKit Sha
/-- Where the word that came lies, and the buffer. -/
structure AddIn (w0 w : World) (b : Nat) (fp : List Nat) (N : Nat) (l : List Tl) (m : Mb) : Prop where
  rep : GRep w b fp (N, l)
  word : Blk w w0.heap.size (mc m) mt
  below : Below w0.heap.size w0 w
theorem AddIn.start {w : World} {b : Nat} {fp : List Nat} {N : Nat} {l : List Tl} (h : GRep w b fp (N, l)) (m : Mb) : AddIn w (w.alloc (.cells (mc m).toArray mt)) b fp N l m :=
  ⟨gHeld.on h ((Below.refl _ _).alloc (Nat.le_refl _) _), Blk.new w (mc m).toArray mt, (Below.refl _ _).alloc (Nat.le_refl _) _⟩
theorem AddIn.on {w0 w w' : World} {b : Nat} {fp : List Nat} {N : Nat} {l : List Tl} {m : Mb} (h : AddIn w0 w b fp N l m) (hb : Below w.heap.size w w') : AddIn w0 w' b fp N l m :=
  ⟨gHeld.on h.rep hb, h.word.upon hb, below_next h.below hb⟩
theorem AddIn.same {w0 w : World} {b : Nat} {fp : List Nat} {N : Nat} {l : List Tl} {m : Mb} (h : AddIn w0 w b fp N l m) (v : Value) : ODone GRep b fp (N, l) v w0 (.returned v) w := ⟨rfl, fp, h.rep, Touch.of_below h.below, From.refl _ _⟩
theorem AddIn.done {w0 w w' : World} {b : Nat} {fp fp' : List Nat} {N : Nat} {l' : List Tl} (ht : Touch fp w0 w) (hr : LineRep w' b fp' (optr b) (v64 N) l') (hok : Gs.OK N l') (h2 : Touch fp w w') (hf : From fp fp' w) (v : Value) : ODone GRep b fp (N, l') v w0 (.returned v) w' :=
  ⟨rfl, fp', ⟨hr, hok⟩, ht.trans h2 (From.refl _ _), fun k hk => (hf k hk).imp id fun h => Nat.le_trans ht.size h⟩
theorem GRep.get {w : World} {b : Nat} {fp : List Nat} {N : Nat} {l : List Tl} (h : GRep w b fp (N, l)) (k : Nat) (hk : k < l.length) : ∃ q c, Blk w b [optr b, v64 N, .slice q l.length c, snf] gt ∧ ∃ g off, q = some ⟨g, off, none⟩ ∧ w.rangeAt g (off + k * 4) (tc l[k]) := by
  obtain ⟨⟨v, _, hb, ho, _⟩, _⟩ := h
  obtain ⟨q, c, hv, _, _, hA, _, _⟩ := own_at_s ho
  dsimp only at hv hb hA
  obtain ⟨g, off, rfl, _⟩ := hA.addr (by rw [tflat_length]; omega)
  exact ⟨_, c, hv ▸ hb, g, off, rfl, rangeT hA k hk⟩
section
attribute [local go_sem ↓] execOp_loadM execOp_loadT execOp_storeT execOp_buildT execOp_sliceT
set_option maxRecDepth 100000 in
set_option maxHeartbeats 4000000 in
theorem gadd_bad (b : Nat) (fp : List Nat) (N : Nat) (l : List Tl) (m : Mb) (w : World) (h : GRep w b fp (N, l)) (hm : ¬ (m.May ∧ m.I ≤ N)) :
    Calls Try.prog 14 #[optr b, mv m] w (ODone GRep b fp (N, l) (.tuple #[.bool false, v64 2]) w) := by
  have A0 := Lib.hid (AddIn.start h m)
  have hN : N ≤ 64 := h.2.n2
  obtain ⟨q, c, hb⟩ := A0.out.rep.cells
  have HNO := Lib.hid (gnone_any b _ _ hb)
  have l0 := run_loadM (rangeM_of A0.out.word)
  clear h hb
  by_cases hmay : m.May
  · have hI : (N : Int) < m.I := by
      refine Int.lt_of_not_ge fun e => hm ⟨hmay, e⟩
    have HC := Lib.hid (fun W => check_ok hmay W)
    have t1 : decide ((N : Int) < m.I) = true := decide_eq_true hI
    clear hmay hm
    go_enter Try.func14, Try.ntmps14
    go_wp2_with fail
    refine HNO.out.mono ?_
    rintro e w1 ⟨rfl, rfl⟩
    go_wp2_with fail
    refine (HC.out _).mono ?_
    rintro e w1 ⟨rfl, hb1⟩
    have A1 := Lib.hid (A0.out.on hb1)
    clear A0 hb1 HNO HC l0
    obtain ⟨q, c, hb⟩ := A1.out.rep.cells
    have d0 : w1.cell? ⟨w.heap.size, 0, none⟩ = some (.int .i64 m.I) := A1.out.word.cell 0
    have d1 : w1.cell? ⟨b, 1, none⟩ = some (v64 N) := hb.cell 1
    clear hb
    go_wp2_with fail
    go_quiet (fail)
    have A2 := Lib.hid (A1.out.on (below_drewN (Below.refl _ _) nq))
    generalize w1.drewN nq = w2 at *
    go_wp2_with fail
    go_ret2
    exact A2.out.same _
  · have HC := Lib.hid (fun W => check_no hmay W)
    clear hmay hm
    go_enter Try.func14, Try.ntmps14
    go_wp2_with fail
    refine HNO.out.mono ?_
    rintro e w1 ⟨rfl, rfl⟩
    go_wp2_with fail
    refine (HC.out _).mono ?_
    rintro e w1 ⟨rfl, hb1⟩
    have A1 := Lib.hid (A0.out.on hb1)
    go_wp2_with fail
    go_ret2
    exact A1.out.same _
set_option maxRecDepth 100000 in
set_option maxHeartbeats 8000000 in
theorem gadd_new (b : Nat) (fp : List Nat) (N : Nat) (l : List Tl) (m : Mb) (w : World) (h : GRep w b fp (N, l)) (hm : m.May ∧ m.I ≤ N) (hat : ¬ Gs.at_ l m.I < l.length) :
    Calls Try.prog 14 #[optr b, mv m] w (ODone GRep b fp (N, Gs.put l ⟨m, 0⟩) (.tuple #[.bool true, v64 0]) w) := by
  have A0 := Lib.hid (AddIn.start h m)
  have hN : N ≤ 64 := h.2.n2
  have hlen : l.length ≤ N := h.2.len
  have HOK := Lib.hid (show Gs.OK N (Gs.put l ⟨m, 0⟩) from by have := h.2.add m; rwa [Gs.add_new hm hat] at this)
  have HSR := Lib.hid h.2.srt
  obtain ⟨q, c, hb⟩ := A0.out.rep.cells
  have HNO := Lib.hid (gnone_any b _ _ hb)
  have l0 := run_loadM (rangeM_of A0.out.word)
  have HC := Lib.hid (fun W => check_ok hm.1 W)
  have t1 : decide ((N : Int) < m.I) = false := decide_eq_false (by omega)
  have hix : Gs.idx l m.I = -1 := if_neg hat
  have HF := Lib.hid (fun W (hr : GRep W b fp (N, l)) (hw : Blk W w.heap.size (mc m) mt) => tfind_any b fp _ _ l m w.heap.size W hr.line (by omega) hw)
  rw [hix] at HF
  clear h hb hm hat hix
  go_enter Try.func14, Try.ntmps14
  go_wp2_with fail
  refine HNO.out.mono ?_
  rintro e w1 ⟨rfl, rfl⟩
  go_wp2_with fail
  refine (HC.out _).mono ?_
  rintro e w1 ⟨rfl, hb1⟩
  have A1 := Lib.hid (A0.out.on hb1)
  clear A0 hb1 HNO HC l0
  obtain ⟨q, c, hb⟩ := A1.out.rep.cells
  have d0 : w1.cell? ⟨w.heap.size, 0, none⟩ = some (.int .i64 m.I) := A1.out.word.cell 0
  have d1 : w1.cell? ⟨b, 1, none⟩ = some (v64 N) := hb.cell 1
  clear hb
  go_wp2_with fail
  go_quiet (fail)
  have A2 := Lib.hid (A1.out.on (below_drewN (Below.refl _ _) nq))
  clear d0 d1 A1
  generalize w1.drewN nq = w2 at *
  have HF2 := Lib.hid (HF.out _ A2.out.rep A2.out.word)
  go_wp2_with fail
  refine HF2.out.mono ?_
  rintro e w3 ⟨rfl, hb3⟩
  have A3 := Lib.hid (A2.out.on hb3)
  clear A2 hb3 HF2 HF
  have lk := fun k => run_loadM (rangeM_of ((A3.out.on (below_drewN (Below.refl _ _) k)).word))
  go_wp2_with fail
  refine region_quiet_tail 5 (by kernel_rfl) (by kernel_rfl) ?_
  simp only [List.take_succ_cons, List.take_zero, List.drop_succ_cons, List.drop_zero]
  repeat go_big_quiet_step (fail)
  refine wpQuiet_nil ?_
  rintro _ ⟨k, rfl⟩
  have A4 := Lib.hid (A3.out.on (below_drewN (Below.refl _ _) k))
  clear A3 lk
  generalize w3.drewN k = w4 at *
  have HP := Lib.hid (put_any b fp (optr b) (v64 N) l ⟨m, 0⟩ w4 A4.out.rep.line HSR.out (by omega))
  go_wp2_with fail
  refine HP.out.mono ?_
  rintro e w5 ⟨rfl, fp', hr, ht, hf⟩
  have HD := Lib.hid (AddIn.done (Touch.of_below A4.out.below) hr HOK.out ht hf (.tuple #[.bool true, v64 0]))
  clear hr ht hf
  go_wp2_with fail
  go_ret2
  exact HD.out
set_option maxRecDepth 100000 in
set_option maxHeartbeats 8000000 in
theorem gadd_not (b : Nat) (fp : List Nat) (N : Nat) (l : List Tl) (m : Mb) (w : World) (h : GRep w b fp (N, l)) (hm : m.May ∧ m.I ≤ N) (hat : Gs.at_ l m.I < l.length) (hov : ¬ m.Over (l[Gs.at_ l m.I]).m) :
    Calls Try.prog 14 #[optr b, mv m] w (ODone GRep b fp (N, l) (.tuple #[.bool false, v64 0]) w) := by
  have A0 := Lib.hid (AddIn.start h m)
  have hN : N ≤ 64 := h.2.n2
  have hlen : l.length ≤ N := h.2.len
  skip
  obtain ⟨q, c, hb⟩ := A0.out.rep.cells
  have HNO := Lib.hid (gnone_any b _ _ hb)
  have l0 := run_loadM (rangeM_of A0.out.word)
  have HC := Lib.hid (fun W => check_ok hm.1 W)
  have t1 : decide ((N : Int) < m.I) = false := decide_eq_false (by omega)
  obtain ⟨k, hk⟩ : ∃ k, k = Gs.at_ l m.I := ⟨_, rfl⟩
  have hix : Gs.idx l m.I = (k : Nat) := by rw [hk]; exact if_pos hat
  have HF := Lib.hid (fun W (hr : GRep W b fp (N, l)) (hw : Blk W w.heap.size (mc m) mt) => tfind_any b fp _ _ l m w.heap.size W hr.line (by omega) hw)
  rw [hix] at HF
  have hkl : k < l.length := by rw [hk]; exact hat
  have hov2 : decide (m.Over (l[k]'hkl).m) = false := by subst hk; exact decide_eq_false hov
  have HOV := Lib.hid (fun W => over_at hov2 W)
  skip
  have HNI := Lib.hid (show w.heap.size ∉ fp from fun e => Nat.lt_irrefl _ (gHeld.low h _ e))
  clear h hb hm hat hix hk hov hov2
  have tk0 : decide ((0 : Int) ≤ (k : Int)) = true := decide_eq_true (by omega)
  go_enter Try.func14, Try.ntmps14
  go_wp2_with fail
  refine HNO.out.mono ?_
  rintro e w1 ⟨rfl, rfl⟩
  go_wp2_with fail
  refine (HC.out _).mono ?_
  rintro e w1 ⟨rfl, hb1⟩
  have A1 := Lib.hid (A0.out.on hb1)
  clear A0 hb1 HNO HC l0
  obtain ⟨q, c, hb⟩ := A1.out.rep.cells
  have d0 : w1.cell? ⟨w.heap.size, 0, none⟩ = some (.int .i64 m.I) := A1.out.word.cell 0
  have d1 : w1.cell? ⟨b, 1, none⟩ = some (v64 N) := hb.cell 1
  clear hb
  go_wp2_with fail
  go_quiet (fail)
  have A2 := Lib.hid (A1.out.on (below_drewN (Below.refl _ _) nq))
  clear d0 d1 A1
  generalize w1.drewN nq = w2 at *
  have HF2 := Lib.hid (HF.out _ A2.out.rep A2.out.word)
  go_wp2_with fail
  refine HF2.out.mono ?_
  rintro e w3 ⟨rfl, hb3⟩
  have A3 := Lib.hid (A2.out.on hb3)
  clear A2 hb3 HF2 HF
  obtain ⟨q, c, hb, hget⟩ := A3.out.rep.get k hkl
  obtain ⟨g, off, rfl, hr⟩ := hget
  obtain ⟨I, W, hC⟩ := cls_of w3
  have hne : Nonempty I := hC.ne
  have d2 := hC.cell (show w3.cell? ⟨b, 2, none⟩ = some (.slice (some ⟨g, off, none⟩) l.length c) from hb.cell 2)
  have l1 := fun n => run_loadM (rangeM_on (rangeM_of A3.out.word) (hC.back n))
  have l2 := fun n => run_loadTm (rangeT_on hr (hC.back n))
  have QO := Lib.hid (hC.call (P := Try.prog) (f := 26) (args := #[mv m, mv (l[k]'hkl).m]) (v := .bool false) (fun w' hb => HOV.out w'))
  have HCC := Lib.hid hC
  have hjn : (0 : Int) ≤ (k : Int) ∧ (k : Int) < (l.length : Int) := by omega
  have HKL := Lib.hid hkl
  generalize l[k] = y at *
  obtain ⟨nl, hnl⟩ : ∃ n, n = l.length := ⟨_, rfl⟩
  rw [← hnl] at d2 hjn
  have HNL := Lib.hid hnl
  clear hb hr hC hkl HOV hnl
  go_wp2_with fail
  refine wp_region_cls W (by kernel_rfl) (by kernel_rfl) HCC.out.one ?_
  repeat go_big_quiet_step ((go_at_call 26; exact QO.out _))
  refine wpQuiet_nil ?_
  rintro _ ⟨mm, rfl⟩
  have A4 := Lib.hid (A3.out.on (HCC.out.back mm))
  clear A3 QO HCC d2 l1 l2
  generalize W mm = w4 at *
  clear W hne
  go_wp2_with fail
  go_ret2
  exact A4.out.same _
set_option maxRecDepth 100000 in
set_option maxHeartbeats 8000000 in
theorem gadd_over (b : Nat) (fp : List Nat) (N : Nat) (l : List Tl) (m : Mb) (w : World) (h : GRep w b fp (N, l)) (hm : m.May ∧ m.I ≤ N) (hat : Gs.at_ l m.I < l.length) (hov : m.Over (l[Gs.at_ l m.I]).m) :
    Calls Try.prog 14 #[optr b, mv m] w (ODone GRep b fp (N, (Gs.add N l m).1) (.tuple #[.bool true, v64 0]) w) := by
  have A0 := Lib.hid (AddIn.start h m)
  have hN : N ≤ 64 := h.2.n2
  have hlen : l.length ≤ N := h.2.len
  have HSR := Lib.hid h.2.srt
  obtain ⟨q, c, hb⟩ := A0.out.rep.cells
  have HNO := Lib.hid (gnone_any b _ _ hb)
  have l0 := run_loadM (rangeM_of A0.out.word)
  have HC := Lib.hid (fun W => check_ok hm.1 W)
  have t1 : decide ((N : Int) < m.I) = false := decide_eq_false (by omega)
  obtain ⟨k, hk⟩ : ∃ k, k = Gs.at_ l m.I := ⟨_, rfl⟩
  have hix : Gs.idx l m.I = (k : Nat) := by rw [hk]; exact if_pos hat
  have HF := Lib.hid (fun W (hr : GRep W b fp (N, l)) (hw : Blk W w.heap.size (mc m) mt) => tfind_any b fp _ _ l m w.heap.size W hr.line (by omega) hw)
  rw [hix] at HF
  have hkl : k < l.length := by rw [hk]; exact hat
  have hov2 : decide (m.Over (l[k]'hkl).m) = true := by subst hk; exact decide_eq_true hov
  have HOV := Lib.hid (fun W => over_at hov2 W)
  have HOK := Lib.hid (show Gs.OK N (Gs.put (l.take k ++ l.drop (k + 1)) ⟨m, 0⟩) from by
    have := h.2.add m
    rw [Gs.add_over hm hat hov, ← hk, List.eraseIdx_eq_take_drop_succ] at this; exact this)
  have HEQ := Lib.hid (show (Gs.add N l m).1 = Gs.put (l.take k ++ l.drop (k + 1)) ⟨m, 0⟩ from by rw [Gs.add_over hm hat hov, ← hk, List.eraseIdx_eq_take_drop_succ])
  have HNI := Lib.hid (show w.heap.size ∉ fp from fun e => Nat.lt_irrefl _ (gHeld.low h _ e))
  clear h hb hm hat hix hk hov hov2
  have tk0 : decide ((0 : Int) ≤ (k : Int)) = true := decide_eq_true (by omega)
  go_enter Try.func14, Try.ntmps14
  go_wp2_with fail
  refine HNO.out.mono ?_
  rintro e w1 ⟨rfl, rfl⟩
  go_wp2_with fail
  refine (HC.out _).mono ?_
  rintro e w1 ⟨rfl, hb1⟩
  have A1 := Lib.hid (A0.out.on hb1)
  clear A0 hb1 HNO HC l0
  obtain ⟨q, c, hb⟩ := A1.out.rep.cells
  have d0 : w1.cell? ⟨w.heap.size, 0, none⟩ = some (.int .i64 m.I) := A1.out.word.cell 0
  have d1 : w1.cell? ⟨b, 1, none⟩ = some (v64 N) := hb.cell 1
  clear hb
  go_wp2_with fail
  go_quiet (fail)
  have A2 := Lib.hid (A1.out.on (below_drewN (Below.refl _ _) nq))
  clear d0 d1 A1
  generalize w1.drewN nq = w2 at *
  have HF2 := Lib.hid (HF.out _ A2.out.rep A2.out.word)
  go_wp2_with fail
  refine HF2.out.mono ?_
  rintro e w3 ⟨rfl, hb3⟩
  have A3 := Lib.hid (A2.out.on hb3)
  clear A2 hb3 HF2 HF
  obtain ⟨q, c, hb, hget⟩ := A3.out.rep.get k hkl
  obtain ⟨g, off, rfl, hr⟩ := hget
  obtain ⟨I, W, hC⟩ := cls_of w3
  have hne : Nonempty I := hC.ne
  have d2 := hC.cell (show w3.cell? ⟨b, 2, none⟩ = some (.slice (some ⟨g, off, none⟩) l.length c) from hb.cell 2)
  have l1 := fun n => run_loadM (rangeM_on (rangeM_of A3.out.word) (hC.back n))
  have l2 := fun n => run_loadTm (rangeT_on hr (hC.back n))
  have QO := Lib.hid (hC.call (P := Try.prog) (f := 26) (args := #[mv m, mv (l[k]'hkl).m]) (v := .bool true) (fun w' hb => HOV.out w'))
  have HCC := Lib.hid hC
  have hjn : (0 : Int) ≤ (k : Int) ∧ (k : Int) < (l.length : Int) := by omega
  have HKL := Lib.hid hkl
  generalize l[k] = y at *
  obtain ⟨nl, hnl⟩ : ∃ n, n = l.length := ⟨_, rfl⟩
  rw [← hnl] at d2 hjn
  have HNL := Lib.hid hnl
  clear hb hr hC hkl HOV hnl
  go_wp2_with fail
  refine wp_region_cls W (by kernel_rfl) (by kernel_rfl) HCC.out.one ?_
  repeat go_big_quiet_step ((go_at_call 26; exact QO.out _))
  refine wpQuiet_nil ?_
  rintro _ ⟨mm, rfl⟩
  have A4 := Lib.hid (A3.out.on (HCC.out.back mm))
  clear A3 QO HCC d2 l1 l2
  generalize W mm = w4 at *
  clear W hne
  have i1 : IntKind.i64.wrap ((k : Int) + 1) = (k : Int) + 1 := IntWalk.i64_in _ (by have := HNL.out; omega)
  have HCU := Lib.hid (cut_any b fp (optr b) (v64 N) l k (k + 1) ((k : Int) + 1) w4 A4.out.rep.line (by omega) (Or.inl ⟨by have := HKL.out; omega, by omega⟩) (by omega))
  go_wp2_with fail
  refine HCU.out.mono ?_
  rintro e w5 ⟨v5, rfl, _, hl5, ht5⟩
  have K5 := Lib.hid (show Blk w5 w.heap.size (mc m) mt from (ht5.block _ A4.out.word.lt HNI.out).trans A4.out.word)
  have L5 := Lib.hid hl5
  have T5 := Lib.hid ((Touch.of_below A4.out.below).trans ht5 (From.refl _ _))
  clear hl5 ht5 A4 HCU
  have lk := fun k => run_loadM (rangeM_of (K5.out.drewN k))
  have HSP := Lib.hid (show (l.take k ++ l.drop (k + 1)).Pairwise Gs.lt from by rw [← List.eraseIdx_eq_take_drop_succ]; exact HSR.out.sublist (List.eraseIdx_sublist _ _))
  have HLP := Lib.hid (show (l.take k ++ l.drop (k + 1)).length ≤ 1000 from by rw [List.length_append, List.length_take, List.length_drop]; omega)
  generalize l.take k ++ l.drop (k + 1) = l2 at *
  go_wp2_with fail
  refine region_quiet_tail 5 (by kernel_rfl) (by kernel_rfl) ?_
  simp only [List.take_succ_cons, List.take_zero, List.drop_succ_cons, List.drop_zero]
  repeat go_big_quiet_step (fail)
  refine wpQuiet_nil ?_
  rintro _ ⟨kk, rfl⟩
  have T6 := Lib.hid (T5.out.drewN kk)
  have HP := Lib.hid (put_any b fp (optr b) (v64 N) l2 ⟨m, 0⟩ (w5.drewN kk) (show LineRep (w5.drewN kk) b fp (optr b) (v64 N) l2 from L5.out) HSP.out HLP.out)
  clear L5 T5 lk K5
  generalize w5.drewN kk = w6 at *
  go_wp2_with fail
  refine HP.out.mono ?_
  rintro e w7 ⟨rfl, fp', hr, ht, hf⟩
  have HD := Lib.hid (AddIn.done T6.out hr HOK.out ht hf (.tuple #[.bool true, v64 0]))
  clear hr ht hf
  go_wp2_with fail
  go_ret2
  rw [HEQ.out]
  exact HD.out
theorem gadd_any (b : Nat) (fp : List Nat) (N : Nat) (l : List Tl) (m : Mb) (w : World) (h : GRep w b fp (N, l)) : Calls Try.prog 14 #[optr b, mv m] w (ODone GRep b fp (N, (Gs.add N l m).1) (.tuple #[.bool (Gs.add N l m).2.1, v64 (Gs.add N l m).2.2]) w) := by
  by_cases hm : m.May ∧ m.I ≤ N
  · by_cases hat : Gs.at_ l m.I < l.length
    · by_cases hov : m.Over (l[Gs.at_ l m.I]).m
      · have := gadd_over b fp N l m w h hm hat hov
        rw [Gs.add_over hm hat hov] at this ⊢; exact this
      · rw [Gs.add_not hm hat hov]; exact gadd_not b fp N l m w h hm hat hov
    · rw [Gs.add_new hm hat]; exact gadd_new b fp N l m w h hm hat
  · rw [Gs.add_bad hm]; exact gadd_bad b fp N l m w h hm
end
end Go.Proofs.Ytgohapbobbkaeaa
