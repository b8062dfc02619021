/-
  The program's fold: its contract.
  The program's Fold; what the fact package is asked of bytes and folds.
-/
import Derived.Test.YtokpabkcaofahaaGreatPb45
import Derived.Test.YtokpabkcaofahaaGreatPb46
namespace Go.Proofs.YtokpabkcaofahaaGreat
section
set_option linter.unusedSimpArgs false
set_option linter.unusedVariables false
open Go.RowKit Go.Shelf Sha Fct
attribute [local go_sem] Oper.semAt_some
attribute [local go_sem ↓] execOp_allocFact execOp_allocSte execOp_storeFact execOp_storeSte execOp_boxSte execOp_loadSte execOp_makeSte execOp_loadFact
theorem ykF_len {ys : List (Hd Fac)} (hok : ∀ y ∈ ys, sF.ok y.1) (k : Nat) : (ykF ys k).1.D.length = 32 := by
  by_cases h : k < ys.length
  · rw [ykF_at h]; exact Fac.ok.len (hok _ (List.getElem_mem h))
  · unfold ykF
    rw [List.getD_eq_getElem?_getD, List.getElem?_eq_none (by omega)]
    exact Fld.zero32_length
/-- What a fold stands on, at the range. -/
structure FoldB (w w1 : World) (B g g2 g3 gt bm : Nat) (s : Ste) (r : Rows9) (k0 : Hds) : Prop where
  below : Below w.heap.size w w1
  o : StO w1 B g s r
  k2 : Blk w1 g2 (scells Ste.none Hds.none) 47
  k3 : Blk w1 g3 [.int .i64 0] 32
  kt : Blk w1 gt [.map (some bm)] 76
  tab : Tab w1 (.map (some bm))
  lg : w.heap.size ≤ g
  lg2 : w.heap.size ≤ g2
  lg3 : w.heap.size ≤ g3
  ne : g2 ≠ g
theorem FoldB.of {w wa wb wd : World} {B bm : Nat} {s : Ste} {r : Rows9} {k0 : Hds} (h : StR w B s r) (hk0 : ocells s r = scells s k0) (hB : B ≤ w.heap.size)
    (hwa : wa = w.alloc (.cells (scells s k0).toArray 47)) (hwb : wb = wa.alloc (.cells (scells Ste.none Hds.none).toArray 47)) (hbd : Below (wb.alloc (.cells #[.int .i64 0] 32)).heap.size (wb.alloc (.cells #[.int .i64 0] 32)) wd)
    (hT : wd.heap[bm]? = some (.map (tabE 10) 10)) : FoldB w (wd.alloc (.cells #[.map (some bm)] 76)) B w.heap.size wa.heap.size wb.heap.size wd.heap.size bm s r k0 := by
  have za : wa.heap.size = w.heap.size + 1 := by rw [hwa]; simp
  have zb : wb.heap.size = w.heap.size + 1 + 1 := by rw [hwb]; simp [za]
  have ba : Below w.heap.size w wa := by rw [hwa]; exact (Below.refl _ w).alloc (Nat.le_refl _) _
  have bb : Below w.heap.size w wb := by rw [hwb]; exact ba.alloc (by omega) _
  have bc : Below w.heap.size w (wb.alloc (.cells #[.int .i64 0] 32)) := bb.alloc (by omega) _
  have bd : Below w.heap.size w wd := bc.trans (hbd.mono bc.size)
  have b1 : Below w.heap.size w (wd.alloc (.cells #[.map (some bm)] 76)) := bd.alloc bd.size _
  have bd1 : Below wd.heap.size wd (wd.alloc (.cells #[.map (some bm)] 76)) := (Below.refl _ wd).alloc (Nat.le_refl _) _
  have ka : Blk wa w.heap.size (scells s k0) 47 := by rw [hwa]; exact Blk.new w _ 47
  have kb : Blk wb wa.heap.size (scells Ste.none Hds.none) 47 := by rw [hwb]; exact Blk.new wa _ 47
  have kab : Blk wb w.heap.size (scells s k0) 47 := by rw [hwb]; exact ka.old _
  have kc := Blk.new wb #[.int .i64 0] 32
  have kac := kab.old (.cells #[.int .i64 0] 32)
  have kbc := kb.old (.cells #[.int .i64 0] 32)
  have l1 : ∀ {g cs t}, Blk (wb.alloc (.cells #[.int .i64 0] 32)) g cs t → Blk (wd.alloc (.cells #[.map (some bm)] 76)) g cs t := fun hk => (hk.below hbd hk.lt).below bd1 (hk.below hbd hk.lt).lt
  refine ⟨b1, (h.below b1).on (by rw [hk0]; exact l1 kac) hB, l1 kbc, l1 kc, Blk.new wd _ _, ⟨bm, rfl, (bd1.block bm (Array.getElem?_eq_some_iff.1 hT).1).trans hT⟩, Nat.le_refl _, by omega, by omega, by omega⟩
set_option maxRecDepth 100000 in
set_option maxHeartbeats 4000000 in
theorem fold_any (w0 w : World) (B : Nat) (s : Ste) (r : Rows9) (k0 : Hds) (ys : List (Hd Fac)) (p : Option Addr) (n c Bs : Nat)
    (h : StR w B s r) (hk0 : ocells s r = scells s k0) (hs : Sound s) (hfew : (facts s).length ≤ 100000000) (hn : ys.length = n) (hmax : n ≤ 100000000)
    (hbx : Boxed w Bs 30 (.slice p n c)) (hrow : ∀ W', Chg (fun j => OwnR w B j) w W' → At W' p (ys.flatMap sF.row))
    (hgood : ∀ y ∈ ys, sF.Good w0 y.1 y.2.1 y.2.2) (hb0 : Below w0.heap.size w0 w) (hB0 : w0.heap.size ≤ B) (hB : B ≤ w.heap.size) :
    Calls Tryz.prog 52 #[.agg (scells s k0).toArray, .func (.func 93) #[] #[.pointer (some ⟨Bs, 0, none⟩)]] w (FoldP w B (s.run (ys.map (·.1)))) := by
  refine (callsIn_wide (n := 5)).1 ?_
  obtain ⟨l, hl⟩ : ∃ l, l = ys.map (·.1) := ⟨_, rfl⟩
  rw [← hl]
  have hok : ∀ y ∈ ys, sF.ok y.1 := fun y hy => (hgood y hy).ok
  obtain ⟨wa, hwa⟩ : ∃ x, x = w.alloc (.cells (scells s k0).toArray 47) := ⟨_, rfl⟩
  have bx := run_boxOp (P := Tryz.prog) (t := 47) (cs := (scells s k0).toArray) w
  rw [← hwa] at bx
  have al := alloc_ste wa
  obtain ⟨wb, hwb⟩ : ∃ x, x = wa.alloc (.cells (scells Ste.none Hds.none).toArray 47) := ⟨_, rfl⟩
  rw [← hwb] at al
  have HFB := Lib.hid (fun (wd : World) (bm : Nat) (hbd : Below (wb.alloc (.cells #[.int .i64 0] 32)).heap.size (wb.alloc (.cells #[.int .i64 0] 32)) wd) (hT : wd.heap[bm]? = some (.map (tabE 10) 10)) => FoldB.of h hk0 hB hwa hwb hbd hT)
  have HS := Lib.hid hs
  have HFEW := Lib.hid hfew
  have HN := Lib.hid hn
  have HBX := Lib.hid hbx
  have HROW := Lib.hid hrow
  have HGD := Lib.hid hgood
  have HB0 := Lib.hid hb0
  have HBB := Lib.hid hB0
  have HL := Lib.hid hl
  have HLL := Lib.hid (show l.length = n by rw [hl, List.length_map, hn])
  have HOK := Lib.hid hok
  have HBW := Lib.hid hB
  obtain ⟨g, hg⟩ : ∃ b, b = w.heap.size := ⟨_, rfl⟩
  obtain ⟨g2, hg2⟩ : ∃ b, b = wa.heap.size := ⟨_, rfl⟩
  rw [← hg] at bx HFB
  rw [← hg2] at al HFB
  clear h hk0 hs hfew hn hbx hrow hgood hb0 hB0 hB hl hok hwa hwb hg hg2
  refine callsIn_of_wp_marks Tryz.func52 rfl trivial ?_ rfl
  simp only [Tryz.ntmps52, List.size_toArray, List.length_cons, List.length_nil, Nat.reduceAdd, Nat.reduceSub, Array.replicate_succ, Array.replicate_zero, List.push_toArray, List.append_toArray, List.nil_append, List.cons_append]
  gi_wp2_with (refine ⟨trivial, ?_⟩; gi_at_call 41; refine (callsIn_wide.2 (forms_any _)).mono ?_; rintro e wd ⟨_, rfl, ⟨bm, rfl, hT⟩, hbd⟩; have HFB2 := Lib.hid (HFB.out wd bm hbd hT); clear hT hbd)
  have hfb := HFB2.out
  obtain ⟨w1, hw1⟩ : ∃ x, x = wd.alloc (.cells #[.map (some bm)] 76) := ⟨_, rfl⟩
  obtain ⟨gt, hgt⟩ : ∃ x, x = wd.heap.size := ⟨_, rfl⟩
  obtain ⟨g3, hg3⟩ : ∃ x, x = wb.heap.size := ⟨_, rfl⟩
  rw [← hw1, ← hgt, ← hg3] at hfb
  rw [← hw1, ← hgt, ← hg3]
  have HF := Lib.hid hfb
  clear hw1 hgt hg3 hfb HFB2 HFB bx al
  have hw1b := HF.out.below
  refine wpIn_range_says rfl (by omega) (gf := 93) (lb := #[.pointer (some ⟨Bs, 0, none⟩)]) rfl trivial (enters_of Tryz.func93 (by kernel_rfl) rfl)
    (fvals_says 4 (by omega) p n c ys HN.out (by omega) HOK.out Bs w1) (Below.refl _ _) (fun _ => rfl)
    (FoldI s l w1 B g) (FoldX s l w1 B g g2 g3) (foldI_own s l w1 B g) (fun c => foldX_own s l w1 B g g2 g3 c)
    (fun k W hI => by
      obtain ⟨t, r', h1, h2, h3, h4⟩ := hI
      refine ⟨?_, HROW.out W (chg_fold (g2 := g) (g3 := g) (D := 0) hw1b HF.out.lg HF.out.lg HF.out.lg (fun k e => e.elim) h4)⟩
      have b1 : Blk w1 Bs [.slice p n c] 30 := (show Blk w Bs [.slice p n c] 30 from HBX.out).below hw1b (Boxed.lt HBX.out)
      refine (h4.blk b1 fun e => ?_).cell 0
      rcases e with (e | ⟨_, cs, t', fz, e2, e3⟩) | e
      · have := Boxed.lt HBX.out; have := HF.out.lg; omega
      · unfold Blk at b1; rw [b1] at e2; cases e2; rcases e3 with e3 | e3 | e3 | e3 | e3 <;> exact absurd e3 (by decide)
      · exact e)
    ⟨s, r, by rw [List.take_zero]; rfl, HS.out, HF.out.o, Chg.refl _ _⟩
    (fun k a' W => ∃ gf, w1.heap.size ≤ gf ∧ Blk W gf (fcells (ykF ys k).1 (ykF ys k).2.1 (ykF ys k).2.2) 28 ∧ a' = { tmps := #[.agg (scells s k0).toArray, .func (.func 93) #[] #[.pointer (some ⟨Bs, 0, none⟩)], .pointer (some ⟨g, 0, none⟩), undef, .pointer (some ⟨g2, 0, none⟩), .pointer (some ⟨g3, 0, none⟩), .pointer (some ⟨gt, 0, none⟩), .pointer (some ⟨gf, 0, none⟩), undef, .map (some bm), .func (.func 93) #[] #[.pointer (some ⟨Bs, 0, none⟩)], .agg (fcells (ykF ys k).1 (ykF ys k).2.1 (ykF ys k).2.2).toArray, undef, undef, undef, undef, undef, undef, undef, undef, undef, undef], defers := [] })
    (fun k a' => fun u W W' row ⟨gf, h1, h2, h3⟩ hg hr => ⟨gf, h1, blk_ownF (β := Unit) gf w1.heap.size _ _ u W W' row h2 hg hr, h3⟩)
    ?assign ?body ?done ?stop
  case assign =>
    intro lp k W K hI hK
    have hsz : w1.heap.size ≤ W.heap.size := by obtain ⟨t, r', h1, h2, h3, h4⟩ := hI; exact h4.size
    have hlen := ykF_len HOK.out k
    have a1 := alloc_fact W
    have a2 := store_fact1 W (q := (ykF ys k).2.1) (c := (ykF ys k).2.2) hlen
    have HK2 := Lib.hid (Blk.new W (fcells (ykF ys k).1 (ykF ys k).2.1 (ykF ys k).2.2).toArray 28)
    have HI := Lib.hid ((foldI_own s l w1 B g).alloc (.cells (fcells (ykF ys k).1 (ykF ys k).2.1 (ykF ys k).2.2).toArray 28) hI)
    have HKP := Lib.hid ((KeepsOthers.alloc W (.cells (fcells (ykF ys k).1 (ykF ys k).2.1 (ykF ys k).2.2).toArray 28)).from w1.heap.size)
    clear hI
    obtain ⟨g0, hg0⟩ : ∃ g, g = W.heap.size := ⟨_, rfl⟩
    rw [← hg0] at a1 a2 HK2 hsz
    clear hg0
    generalize W.alloc (.cells (fcells fz none 0).toArray 28) = W1 at *
    generalize W.alloc (.cells (fcells (ykF ys k).1 (ykF ys k).2.1 (ykF ys k).2.2).toArray 28) = W2 at *
    unfold tellF
    gi_wp2
    exact hK _ _ HKP.out HI.out ⟨g0, hsz, HK2.out, rfl⟩
  case body =>
    rintro lp k a' W hl hrec hk ⟨t, r', h1, h2, h3, h4⟩ ⟨gf, hgf, kf, rfl⟩
    have hky : k < ys.length := by rw [HN.out]; exact hk
    have hyk := ykF_at hky
    obtain ⟨⟨x, q, qc⟩, hy⟩ : ∃ y : Hd Fac, y = ykF ys k := ⟨_, rfl⟩
    rw [← hy] at kf hyk ⊢
    simp only at kf ⊢
    have hx : sF.Good w0 x q qc := by have h9 := HGD.out _ (List.getElem_mem hky); rw [← hyk] at h9; exact h9
    have hlk : k < l.length := by rw [HLL.out]; exact hk
    have hlx : l[k] = x := by
      have h9 : l[k]? = some x := by rw [HL.out, List.getElem?_map, List.getElem?_eq_getElem hky, ← hyk]; rfl
      rw [List.getElem?_eq_getElem hlk] at h9
      exact Option.some.inj h9
    have hgB : B ≤ g := Nat.le_trans HBW.out HF.out.lg
    have hbw1 : Below w0.heap.size w0 w1 := HB0.out.trans (hw1b.mono HB0.out.size)
    have hgW : sF.Good W x q qc := good_own hx hbw1 HBB.out hgB (fun k e => e.elim) h4
    have hno : ∀ {j cs t'}, Blk w1 j cs t' → ¬ rowT t' → j ≠ g → ¬ (Own9 w1 B g j ∨ False) := by
      rintro j cs t' hb hr hne ((e | ⟨_, cs2, t2, fz, e2, e3⟩) | e)
      · exact hne e
      · unfold Blk at hb; rw [hb] at e2; cases e2; exact hr e3
      · exact e
    have ct : W.cell? ⟨gt, 0, none⟩ = some (.map (some bm)) := (h4.blk HF.out.kt (hno HF.out.kt (by unfold rowT; decide) fun e => by have h9 := HF.out.kt; rw [e] at h9; exact absurd (blk_ty h9 HF.out.o.blk) (by decide))).cell 0
    have hTB : Tab W (.map (some bm)) := by
      obtain ⟨b2, e2, hT⟩ := HF.out.tab
      cases e2
      refine ⟨bm, rfl, (h4.block bm (Array.getElem?_eq_some_iff.1 hT).1 fun e => ?_).trans hT⟩
      rcases e with (e | ⟨_, cs, t', fz, e3, _⟩) | e
      · have h9 : w1.heap[g]? = _ := HF.out.o.blk
        rw [← e, hT] at h9; cases h9
      · rw [hT] at e3; cases e3
      · exact e
    have k2W := h4.blk HF.out.k2 (hno HF.out.k2 (by unfold rowT; decide) HF.out.ne)
    have k3W := h4.blk HF.out.k3 (hno HF.out.k3 (by unfold rowT; decide) fun e => by have h9 := HF.out.k3; rw [e] at h9; exact absurd (blk_ty h9 HF.out.o.blk) (by decide))
    have lf := load_factB kf hx.ok.len
    have HKF := Lib.hid kf
    have hpc := pcheck_any x q qc (.map (some bm)) W hTB hgW
    have hfw : (facts t).length ≤ 400000000 := by
      have h9 := run_few _ _ _ h1
      have h10 := HFEW.out
      have h11 : (l.take k).length ≤ k := by rw [List.length_take]; exact Nat.min_le_left _ _
      omega
    have HX := Lib.hid hx
    have H1 := Lib.hid h1
    have H2 := Lib.hid h2
    have H3 := Lib.hid h3
    have H4 := Lib.hid h4
    have HGW := Lib.hid hgW
    have HLK := Lib.hid hlk
    have HLX := Lib.hid hlx
    have HK2 := Lib.hid k2W
    have HK3 := Lib.hid k3W
    have HFW := Lib.hid hfw
    have HGB := Lib.hid hgB
    clear hky hyk hy h1 h2 h3 h4 kf hx hlx hgB hbw1 hgW hno hTB k2W k3W hfw
    cases hc : can x with
    | true =>
      rw [check_ok ((can_iff x).1 hc)] at hpc
      have HPC := Lib.hid hpc
      have HCN := Lib.hid hc
      clear hpc hc
      gi_wp2_with (first
        | (refine ⟨trivial, ?_⟩; gi_at_call 42; refine (CallsIn.inRound lp (callsIn_wide.2 HPC.out)).mono ?_; rintro e w2 ⟨rfl, hb2⟩; have lf2 := load_factB (HKF.out.below hb2 HKF.out.lt) HX.out.ok.len; have HB2 := Lib.hid hb2; have HDO := Lib.hid (do_any w2 B g t r' x q qc (H3.out.below hb2) (HGW.out.below hb2) ((can_iff x).1 HCN.out) (good_low HX.out HBB.out) H2.out (H3.out.rows.lens HFW.out (by omega)) (Nat.le_trans (Nat.le_trans HBW.out (Nat.le_trans hw1b.size H4.out.size)) hb2.size)); clear hb2 lf)
        | (refine ⟨trivial, ?_⟩; gi_at_call 92; refine (CallsIn.inRound lp (callsIn_wide.2 HDO.out)).mono ?_; rintro e w3 ⟨rfl, r3, hS3, hC3⟩; have HS3 := Lib.hid hS3; have HC3 := Lib.hid hC3; clear hS3 hC3))
      have hs3 := H3.out.below HB2.out
      refine ⟨((keepsOthers_below HB2.out).trans (own9_keeps hs3 HC3.out)).from _, t.on x, r3, ?_, H2.out.on HX.out.ok ((can_iff x).1 HCN.out), HS3.out, chg9_trans (H4.out.grown (below_grown HB2.out none) fun k hk => by cases hk) HC3.out⟩
      rw [← HLX.out]
      exact run_step l s t k HLK.out H1.out (by rw [HLX.out]; exact HCN.out)
    | false =>
      rw [check_no (fun h => by rw [(can_iff x).2 h] at hc; cases hc)] at hpc
      have HPC := Lib.hid hpc
      have HCN := Lib.hid hc
      clear hpc hc
      gi_wp2_with (refine ⟨trivial, ?_⟩; gi_at_call 42; refine (CallsIn.inRound lp (callsIn_wide.2 HPC.out)).mono ?_; rintro e w2 ⟨rfl, hb2⟩; have HB2 := Lib.hid hb2; have kk2 := HK2.out.below hb2 HK2.out.lt; have kk3 := HK3.out.below hb2 HK3.out.lt; have mk := make_ste w2; have s2 := store_ste (s := Ste.none) (h := Hds.none) kk2; have k2e := kk2.row (scells Ste.none Hds.none); have k3e := kk3.rowOther (scells Ste.none Hds.none).toArray (fun e => by rw [e] at kk3; exact absurd (blk_ty kk3 kk2) (by decide)); have HKE := Lib.hid (show Chg (fun j => j = g2 ∨ j = g3) w2 (w2.setRow g2 (scells Ste.none Hds.none).toArray) from ⟨rfl, rfl, rfl, by simp [World.setRow], fun k _ hn => setRow_other _ _ _ _ fun e => hn (Or.inl e)⟩); obtain ⟨w4, hw4⟩ : ∃ v, v = w2.setRow g2 (scells Ste.none Hds.none).toArray := ⟨_, rfl⟩; rw [← hw4] at s2 k2e k3e HKE; have c3 := k3e.cell 0; have z3 := k3e.free 0; have HK2E := Lib.hid k2e; have HK3E := Lib.hid k3e; clear hb2 kk2 kk3 k2e k3e hw4)
      have kk2 := HK2.out.below HB2.out HK2.out.lt
      have kk3 := HK3.out.below HB2.out HK3.out.lt
      have h23 : g2 ≠ g3 := fun e => by rw [e] at kk2; exact absurd (blk_ty kk2 kk3) (by decide)
      have e5 : Chg (fun j => Own9 w1 B g j ∨ (j = g2 ∨ j = g3)) w1 (w4.setCell ⟨g3, 0, none⟩ (.int .i64 2)) :=
        (((H4.out.mono fun k _ e => Or.inl (e.elim id False.elim)).grown (below_grown HB2.out none) fun k hk => by cases hk).trans (HKE.out.mono fun k _ e => Or.inr e)).grown (setCell_grown w4 g3 0 _) fun k hk _ => by cases hk; exact Or.inr (Or.inr rfl)
      refine ⟨(((keepsOthers_below HB2.out).trans (chg_keeps HKE.out fun k o hk ho e => ?_)).trans (KeepsOthers.setCell _ _ _)).from _, rfl, run_stop l s t k hlk H1.out (by rw [HLX.out]; exact HCN.out), HK2E.out.setOther _ _ h23, HK3E.out.set 0 _, e5⟩
      rcases e with rfl | rfl
      · have h9 : w2.heap[k]? = _ := kk2
        rw [hk] at h9; cases h9; cases ho
      · have h9 : w2.heap[k]? = _ := kk3
        rw [hk] at h9; cases h9; cases ho
  case done =>
    rintro D W hD ⟨t, r', h1, h2, h3, h4⟩ hdf
    rw [show l.take n = l from List.take_of_length_le (by rw [HLL.out]; exact Nat.le_refl _)] at h1
    obtain ⟨k', hk', hgd⟩ := h3.rows.hds
    have hno : ∀ {j cs t'}, Blk w1 j cs t' → ¬ rowT t' → j ≠ g → ¬ (Own9 w1 B g j ∨ False) := by
      rintro j cs t' hb hr hne ((e | ⟨_, cs2, t2, fz, e2, e3⟩) | e)
      · exact hne e
      · unfold Blk at hb; rw [hb] at e2; cases e2; exact hr e3
      · exact e
    have k2W := h4.blk HF.out.k2 (hno HF.out.k2 (by unfold rowT; decide) HF.out.ne)
    have k3W := h4.blk HF.out.k3 (hno HF.out.k3 (by unfold rowT; decide) fun e => by have h9 := HF.out.k3; rw [e] at h9; exact absurd (blk_ty h9 HF.out.o.blk) (by decide))
    have h23 : g2 ≠ g3 := fun e => by rw [e] at k2W; exact absurd (blk_ty k2W k3W) (by decide)
    have hblk : Blk W g (scells t k') 47 := by rw [← hk']; exact h3.blk
    have ld := load_steB hblk
    have s2 := store_ste (s := t) (h := k') k2W
    have k2e := k2W.row (scells t k')
    have k3e := k3W.rowOther (scells t k').toArray (Ne.symm h23)
    have HEND := Lib.hid (ends_chg (W := W) (g2 := g2) (g3 := g3) (D := D) (scells t k') (.int .i64 0) (.deferred none))
    have hD2 : D ≠ g2 := fun e => by subst e; have h9 : W.heap[D]? = _ := k2W; rw [hdf] at h9; cases h9
    have hD3 : D ≠ g3 := fun e => by subst e; have h9 : W.heap[D]? = _ := k3W; rw [hdf] at h9; cases h9
    have hdf4 : (W.setRow g2 (scells t k').toArray).heap[D]? = some (.deferred (some [])) := (setRow_other _ _ _ _ hD2).trans hdf
    obtain ⟨w4, hw4⟩ : ∃ v, v = W.setRow g2 (scells t k').toArray := ⟨_, rfl⟩
    rw [← hw4] at s2 k2e k3e HEND hdf4
    have c3 := k3e.cell 0
    have z3 := k3e.free 0
    have hdf5 : (w4.setCell ⟨g3, 0, none⟩ (.int .i64 0)).heap[D]? = some (.deferred (some [])) := (Below.heap_setCell _ _ _ _ hD3).trans hdf4
    have k2f : Blk ((w4.setCell ⟨g3, 0, none⟩ (.int .i64 0)).putObj D (.deferred none)) g2 (scells t k') 47 := (World.putObj_heap_other (Ne.symm hD2)).trans (k2e.setOther _ _ h23)
    have k3f : Blk ((w4.setCell ⟨g3, 0, none⟩ (.int .i64 0)).putObj D (.deferred none)) g3 [.int .i64 0] 32 := (World.putObj_heap_other (Ne.symm hD3)).trans (k3e.set 0 _)
    have HR := Lib.hid (show FoldP w B (s.run l) (.returned (.tuple #[.agg (scells t k').toArray, .int .i64 0])) ((w4.setCell ⟨g3, 0, none⟩ (.int .i64 0)).putObj D (.deferred none)) from by
      rw [h1]
      refine ⟨r', k', rfl, hk', h3.rows.ends k2W k3W hdf HEND.out, ?_⟩
      refine chg_fold (g := g) (g2 := g2) (g3 := g3) (D := D) (X := fun j => j = g2 ∨ j = g3 ∨ j = D) hw1b HF.out.lg HF.out.lg2 HF.out.lg3 (fun k e => ?_) ((h4.mono fun k _ e => Or.inl (e.elim id False.elim)).trans (HEND.out.mono fun k _ e => Or.inr e))
      rcases e with rfl | rfl | rfl
      · exact HF.out.lg2
      · exact HF.out.lg3
      · exact Nat.le_trans hw1b.size hD)
    have HK2F := Lib.hid k2f
    have HK3F := Lib.hid k3f
    have HDF := Lib.hid hdf5
    clear h1 h2 h3 h4 hk' hgd hno k2W k3W h23 hblk k2e k3e HEND hD2 hD3 hdf hdf4 hw4 k2f k3f hdf5
    gi_wp2
    refine ⟨by simp, .inl ⟨_, _, rfl, run_takeDeferred HDF.out, ?_⟩⟩
    exact ⟨_, results_ste rfl _ _ g2 g3 t k' 0 rfl rfl HK2F.out (HK3F.out.cell 0), HR.out⟩
  case stop =>
    rintro D c' k W hD hk ⟨rfl, hr, k2, k3, hc⟩ hdf
    have hD2 : D ≠ g2 := fun e => by subst e; have h9 : W.heap[D]? = _ := k2; rw [hdf] at h9; cases h9
    have hD3 : D ≠ g3 := fun e => by subst e; have h9 : W.heap[D]? = _ := k3; rw [hdf] at h9; cases h9
    have k2f : Blk (W.putObj D (.deferred none)) g2 (scells Ste.none Hds.none) 47 := (World.putObj_heap_other (Ne.symm hD2)).trans k2
    have k3f : Blk (W.putObj D (.deferred none)) g3 [.int .i64 2] 32 := (World.putObj_heap_other (Ne.symm hD3)).trans k3
    have HR := Lib.hid (show FoldP w B (s.run l) (.returned (.tuple #[.agg (scells Ste.none Hds.none).toArray, .int .i64 2])) (W.putObj D (.deferred none)) from by
      rw [hr]
      refine ⟨Rows9.none, Hds.none, rfl, by rw [scells_eq]; rfl, StR.none_ _ _, ?_⟩
      refine chg_fold (g := g) (g2 := g2) (g3 := g3) (D := D) (X := fun j => (j = g2 ∨ j = g3) ∨ j = D) hw1b HF.out.lg HF.out.lg2 HF.out.lg3 (fun k e => ?_) ((hc.mono fun k _ e => e.elim Or.inl fun e => Or.inr (Or.inl e)).grown (grownBy_putObj' W D _) fun k e _ => by cases e; exact Or.inr (Or.inr rfl))
      rcases e with (rfl | rfl) | rfl
      · exact HF.out.lg2
      · exact HF.out.lg3
      · exact Nat.le_trans hw1b.size hD)
    have HK2F := Lib.hid k2f
    have HK3F := Lib.hid k3f
    have HDF := Lib.hid hdf
    clear hr k2 k3 hc hD2 hD3 k2f k3f hdf
    gi_wp2
    refine ⟨by simp, .inl ⟨_, _, rfl, run_takeDeferred HDF.out, ?_⟩⟩
    exact ⟨_, results_ste rfl _ _ g2 g3 Ste.none Hds.none 2 rfl rfl HK2F.out (HK3F.out.cell 0), HR.out⟩
end
section
set_option linter.unusedSimpArgs false
set_option linter.unusedVariables false
open Go.RowKit Sha Fct
attribute [local go_sem ↓] execOp_allocSte execOp_storeSte execOp_makeSte
theorem results_ste1 {fn : Func} {p u : Tmp} (h : fn.results = #[.cell p 47, .tmp u]) (tmps : Array Value) (w : World) (g : Nat) (s : Ste) (k : Hds) (v : Value)
    (hp : tmps.getD p undef = .pointer (some ⟨g, 0, none⟩)) (hu : tmps.getD u undef = v) (hg : Blk w g (scells s k) 47) :
    (results fn tmps).run Tryz.prog w = .ok (.tuple #[.agg (scells s k).toArray, v]) w := by
  have hp' : tmps[p]?.getD undef = .pointer (some ⟨g, 0, none⟩) := by simpa using hp
  have hu' : tmps[u]?.getD undef = v := by simpa using hu
  have e1 := run_loadVar_row (P := Tryz.prog) w g 47 47 (scells s k).toArray (0, 0) _ hg Tryz.underlying47 rfl (ste_sizeA s k)
  simp [results, h, hp', hu', asAddr, e1]
theorem scells_inj {s t : Ste} {h k : Hds} (e : scells s h = scells t k) : h = k := by
  rw [scells_eq, scells_eq] at e
  obtain ⟨⟨a1, a2, a3⟩, ⟨b1, b2, b3⟩, ⟨c1, c2, c3⟩, ⟨d1, d2, d3⟩, ⟨e1, e2, e3⟩⟩ := h
  obtain ⟨⟨x1, x2, x3⟩, ⟨y1, y2, y3⟩, ⟨z1, z2, z3⟩, ⟨u1, u2, u3⟩, ⟨v1, v2, v3⟩⟩ := k
  simp only [Sl3.v, List.cons.injEq, Value.slice.injEq, and_true] at e
  obtain ⟨_, _, ⟨rfl, rfl, rfl⟩, ⟨rfl, rfl, rfl⟩, ⟨rfl, rfl, rfl⟩, ⟨rfl, rfl, rfl⟩, rfl, rfl, rfl⟩ := e
  rfl
theorem StR.good {w : World} {B : Nat} {s : Ste} {r : Rows9} {k : Hds} (h : StR w B s r) (hk : ocells s r = scells s k) : SGood w s k := by
  obtain ⟨k2, h1, h2⟩ := h.hds
  rw [hk] at h1
  rw [scells_inj h1]; exact h2
theorem chg_belowR {w0 w w' : World} {B : Nat} (hb : Below w0.heap.size w0 w) (hB : w0.heap.size ≤ B) (hc : Chg (fun j => OwnR w B j) w w') : Below w0.heap.size w0 w' :=
  hb.trans ⟨hc.os, hc.tape, hc.output, hc.size, fun k hk => hc.block k (Nat.lt_of_lt_of_le hk hb.size) fun e => by have := e.1; omega⟩
set_option maxRecDepth 100000 in
set_option maxHeartbeats 2000000 in
theorem pFold_any (l : List Fac) (p : Option Addr) (n c : Nat) (w : World) (h : sF.Told w p n c l) (hl : l.length ≤ 100000000) :
    Calls Tryz.prog 20 #[.slice p n c] w (FSte w (Fct.fold l)) := by
  obtain ⟨ys, hy, hyn, hA, hgd, _⟩ := h.rows'
  have hn : n ≤ 100000000 := by rw [h.len]; exact hl
  have al := alloc_ste w
  have k1 : Blk (w.alloc (.cells (scells Ste.none Hds.none).toArray 47)) w.heap.size (scells Ste.none Hds.none) 47 := Blk.new w _ 47
  have b1 := (Below.refl w.heap.size w).alloc (Nat.le_refl _) (.cells (scells Ste.none Hds.none).toArray 47)
  obtain ⟨w1, hw1⟩ : ∃ x, x = w.alloc (.cells (scells Ste.none Hds.none).toArray 47) := ⟨_, rfl⟩
  rw [← hw1] at al k1 b1
  have b2 := b1.alloc b1.size (.cells #[.slice p n c] 30)
  have k2 := k1.old (.cells #[.slice p n c] 30)
  have hbx := Boxed.new w1 30 (.slice p n c)
  have mk := make_ste w1
  have HV := Lib.hid (fvals_any p n c w1)
  obtain ⟨w2, hw2⟩ : ∃ x, x = w1.alloc (.cells #[.slice p n c] 30) := ⟨_, rfl⟩
  rw [← hw2] at b2 k2 hbx HV
  have HF := Lib.hid (fold_any w w2 w.heap.size Ste.none Rows9.none Hds.none ys p n c w1.heap.size (StR.none_ _ _) (by rw [scells_eq]; rfl) Sound.none (by have : (facts Ste.none).length = 0 := rfl; omega) hyn hn hbx
    (fun W' hc => hA.carry fun a v hv => by
      have ha := World.block_lt_of_cell? w a hv
      exact (World.cell?_of_block (w := w) (a := a) ((hc.block _ (Nat.lt_of_lt_of_le ha b2.size) fun e => by have := e.1; omega).trans (b2.block _ ha))).trans hv)
    hgd b2 (Nat.le_refl _) b2.size)
  rw [hy] at HF
  obtain ⟨g, hg⟩ : ∃ g, g = w.heap.size := ⟨_, rfl⟩
  have HG := Lib.hid hg
  have HB2 := Lib.hid b2
  rw [← hg] at al k2
  have HK2 := Lib.hid k2
  clear h hl hy hyn hA hgd hw1 hw2 k1 b1 b2 k2 hbx hg
  go_enter Tryz.func20, Tryz.ntmps20
  go_wp2_with fail
  refine HV.out.mono ?_
  rintro e w3 ⟨rfl, rfl⟩
  go_wp2_with fail
  refine HF.out.mono ?_
  rintro e w4 ⟨r', k', rfl, hk', hR, hC⟩
  have k4 := hC.blk HK2.out (fun ⟨_, cs, t', fz, e2, e3⟩ => by
    have h9 := HK2.out
    unfold Blk at h9; rw [h9] at e2; cases e2
    rcases e3 with e3 | e3 | e3 | e3 | e3 <;> exact absurd e3 (by decide))
  have st := store_ste (s := (Ste.none.run l).1) (h := k') k4
  have HK5 := Lib.hid (k4.row (scells (Ste.none.run l).1 k'))
  have HB4 := Lib.hid (chg_belowR HB2.out (Nat.le_refl _) hC)
  have HB5 := Lib.hid (Below.setRow HB4.out (show w.heap.size ≤ g by rw [HG.out]; exact Nat.le_refl _) (scells (Ste.none.run l).1 k').toArray)
  have HS5 := Lib.hid (show SGood (w4.setRow g (scells (Ste.none.run l).1 k').toArray) (Ste.none.run l).1 k' from (hR.chg (Q := fun j => j = g) (show Chg (fun j => j = g) w4 (w4.setRow g (scells (Ste.none.run l).1 k').toArray) from ⟨rfl, rfl, rfl, by simp [World.setRow], fun k _ hn => setRow_other _ _ _ _ hn⟩) (fun k cs fz t hk ht e => by
    subst e
    have h9 : w4.heap[k]? = _ := k4
    rw [hk] at h9; cases h9
    rcases ht with (ht | ht | ht | ht | ht) | ht <;> exact absurd ht (by decide))).good hk')
  clear k4 hk' hR hC
  obtain ⟨t, ht⟩ : ∃ t, t = Ste.none.run l := ⟨_, rfl⟩
  rw [← ht] at st HK5 HB5 HS5 ⊢
  have HT := Lib.hid (show Fct.fold l = t from ht.symm)
  obtain ⟨t1, t2⟩ := t
  simp only at st HK5 HB5 HS5 ⊢
  clear ht
  go_wp2_with fail
  refine bodyPost_ret (v := .tuple #[.agg (scells t1 k').toArray, .int .i64 t2]) (results_ste1 rfl _ _ g t1 k' (.int .i64 t2) rfl rfl HK5.out) rfl ?_
  rw [HT.out]
  exact ⟨k', rfl, HS5.out, HB5.out⟩
theorem factFold : FactsFold where
  toFactsBytes := factBytes
  fold l p n c w h hl _ := pFold_any l p n c w h (Nat.le_trans hl (by decide))
end
end Go.Proofs.YtokpabkcaofahaaGreat
