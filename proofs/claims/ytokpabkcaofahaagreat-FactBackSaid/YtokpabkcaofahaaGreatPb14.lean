/-
  The law FactKnown.
  Plain mathematics of facts: how large their bytes are. No program is named here.
  A region that draws its order, all of whose operations answer the same in every world behind one: read, and call what only adds to memory. General: no program is named here.
  The law package of facts: has.
  A region that draws its order: a head that reads and calls quietly (its callees may draw), a tail whose order is forced; outside a round and inside one. No program is named here.
  A region that draws its order: a head all of whose operations answer the same in every world behind one (they read, and call what only adds to memory), and a tail whose order is forced. General: no program is named here.
-/
import Derived.Test.YtokpabkcaofahaaGreatPb13
import Derived.Test.YtokpabkcaofahaaGreatPb6
import Derived.Test.YtokpabkcaofahaaGreatPb1
import Derived.Deep.Quiet
import Derived.Deep.QuietTactic
import Derived.BigQuiet
import Derived.Deep.RegionHeld3
import Derived.Deep.Cut
import Derived.BigRegion
import Derived.Test.YtokpabkcaofahaaGreatPb2
import Derived.StillTail
import Derived.OrdersIn
import Derived.RangeFuncCalls
import Derived.OwnWalkIn
namespace Go.Proofs.YtokpabkcaofahaaGreat
section
set_option linter.unusedSimpArgs false
set_option linter.unusedVariables false
open Go.RowKit Sha Fct
attribute [local go_sem ↓] execOp_allocFact execOp_allocSte execOp_storeFact execOp_storeSte execOp_boxFact execOp_boxSte execOp_loadSte execOp_makeFact execOp_makeSte execOp_buildFacts execOp_loadFact
theorem range_below {w w' : World} {b o : Nat} {cs : List Value} (h : w.rangeAt b o cs) (hb : Below w.heap.size w w') : w'.rangeAt b o cs := fun j v hv => (hb.cell (World.block_lt_of_cell? w _ (h j v hv))).trans (h j v hv)
/-- A state whose votes are one: where that lies. -/
theorem votes_one {w : World} {s : Ste} {h : Hds} (g : SGood w s h) {v : Vot} (e : s.votes = [v]) : ∃ b off q c, h.v.1 = some ⟨b, off, none⟩ ∧ h.v.2.1 = 1 ∧ 1 ≤ h.v.2.2 ∧ w.rangeAt b off (vcells v q c) := by
  have h1 := g.v
  rw [e] at h1
  obtain ⟨b, off, q, c, hp, hr, _⟩ := h1.rows.get 0 (by simp)
  have hl := h1.len
  have hle := h1.le
  simp only [List.length_cons, List.length_nil] at hl
  refine ⟨b, off, q, c, hp, hl, by omega, ?_⟩
  simpa [sV] using hr
set_option maxRecDepth 100000 in
set_option maxHeartbeats 8000000 in
theorem fknown_any (F : FactsFold) (w : World) : Calls Tryz.prog 5 #[] w fun e w' => e = .returned (.bool true) ∧ Below w.heap.size w w' := by
  have al := fun w => alloc_fact w
  have as_ := fun w => alloc_ste w
  obtain ⟨⟨t1, e1⟩, ht1⟩ : ∃ r, r = Fct.fold [eVote 7 5 2 [], eVote 8 5 1 [9]] := ⟨_, rfl⟩
  obtain ⟨⟨t2, e2⟩, ht2⟩ : ∃ r, r = Fct.fold [eVote 7 5 2 [], eVote 8 6 1 [9], eVote 7 4 4 []] := ⟨_, rfl⟩
  have x1 := e_v1
  have x2 := e_v2
  rw [← ht1] at x1
  rw [← ht2] at x2
  simp only at x1 x2
  obtain ⟨rfl, x1⟩ := x1
  obtain ⟨rfl, x2⟩ := x2
  have H1 := Lib.hid ht1.symm
  have H2 := Lib.hid ht2.symm
  have X1 := Lib.hid x1
  have X2 := Lib.hid x2
  clear ht1 ht2 x1 x2
  go_enter Tryz.func5, Tryz.ntmps5
  go_wp2_with fail
  refine (fails_any F 2 0 [11] _ 1 1 _ rfl (by simp) (at_made w [.int .u8 11] 5) (by omega) (by omega) (fun h => by cases h) (by omega) e_get11 (by omega)).mono ?_
  rintro e w1 ⟨rfl, hb⟩
  have Bw1 := Lib.hid (show Below w.heap.size w w1 from ((Below.refl w.heap.size w).alloc (Nat.le_refl _) _).trans (hb.mono (by simp)))
  clear hb
  go_wp2_with fail
  refine (fails_any F 4 1 [1, 0] _ 2 2 _ rfl (by simp) (at_made w1 [.int .u8 1, .int .u8 0] 5) (by omega) (by omega) (fun h => by cases h) (by omega) e_get10 (by omega)).mono ?_
  rintro e w2 ⟨rfl, hb⟩
  have Bw2 := Lib.hid (Bw1.out.trans ((((Below.refl w1.heap.size w1).alloc (Nat.le_refl _) (Obj.cells #[.int .u8 1, .int .u8 0] 5)).trans (hb.mono (by simp))).mono Bw1.out.size))
  clear hb Bw1
  go_wp2_with fail
  refine (fblob_any w2).mono ?_
  rintro e u1 ⟨q1, d1, rfl, hg, hb⟩
  have Bu1 := Lib.hid (Bw2.out.trans (hb.mono Bw2.out.size))
  have Gu1 := Lib.hid hg
  clear hg hb Bw2
  go_wp2_with fail
  refine (fhint_any 2 4 u1 (fit_small (by omega)) (fit_small (by omega))).mono ?_
  rintro e u2 ⟨q2, d2, rfl, hg, hb⟩
  have Bu2 := Lib.hid (Bu1.out.trans (hb.mono Bu1.out.size))
  have Gu1 := Lib.hid (Gu1.out.below hb)
  have Gu2 := Lib.hid hg
  clear hg hb Bu1
  go_wp2_with fail
  refine (fdone_any 2 4 u2 (fit_small (by omega)) (fit_small (by omega))).mono ?_
  rintro e u3 ⟨q3, d3, rfl, hg, hb⟩
  have Bu3 := Lib.hid (Bu2.out.trans (hb.mono Bu2.out.size))
  have Gu1 := Lib.hid (Gu1.out.below hb)
  have Gu2 := Lib.hid (Gu2.out.below hb)
  have Gu3 := Lib.hid hg
  clear hg hb Bu2
  have bf : (buildOp 30 3 #[(0, Value.agg (fcells (eBlob) q1 d1).toArray), (1, Value.agg (fcells (eHint 2 4) q2 d2).toArray), (2, Value.agg (fcells (eDone 2 4) q3 d3).toArray)]).run Tryz.prog u3 = .ok (.value (.slice (some ⟨u3.heap.size, 0, none⟩) 3 3)) (u3.alloc (.cells (([(eBlob, q1, d1), (eHint 2 4, q2, d2), (eDone 2 4, q3, d3)] : List (Hd Fac)).map sF.row).flatten.toArray 28)) := build_facts u3 [(eBlob, q1, d1), (eHint 2 4, q2, d2), (eDone 2 4, q3, d3)] (by intro y hy; simp only [List.mem_cons, List.not_mem_nil, or_false] at hy; rcases hy with rfl | rfl | rfl <;> first | exact sum32 _ | exact zlen) (by simp)
  have tf := told_facts u3 [(eBlob, q1, d1), (eHint 2 4, q2, d2), (eDone 2 4, q3, d3)] (by intro y hy; simp only [List.mem_cons, List.not_mem_nil, or_false] at hy; rcases hy with rfl | rfl | rfl <;> first | exact Gu1.out | exact Gu2.out | exact Gu3.out | exact drop_good _) (by simp)
  have hb := (Below.refl u3.heap.size u3).alloc (Nat.le_refl _) (.cells (([(eBlob, q1, d1), (eHint 2 4, q2, d2), (eDone 2 4, q3, d3)] : List (Hd Fac)).map sF.row).flatten.toArray 28)
  obtain ⟨u4, hnw⟩ : ∃ x, x = u3.alloc (.cells (([(eBlob, q1, d1), (eHint 2 4, q2, d2), (eDone 2 4, q3, d3)] : List (Hd Fac)).map sF.row).flatten.toArray 28) := ⟨_, rfl⟩
  rw [← hnw] at bf tf hb
  have Tu4 := Lib.hid tf
  have Bu4 := Lib.hid (Bu3.out.trans (hb.mono Bu3.out.size))
  clear tf hb hnw Gu1 Gu2 Gu3 Bu3
  go_wp2_with fail
  refine (counts_any F _ _ _ 0 0 0 [eBlob, eHint 2 4, eDone 2 4] _ 3 3 u4 Tu4.out (by omega) (by simp [show 2 ≤ dataMost from by decide]) e_f3 rfl rfl rfl).mono ?_
  rintro e u5 ⟨rfl, hb⟩
  have Bu5 := Lib.hid (Bu4.out.trans (hb.mono Bu4.out.size))
  clear hb bf Tu4 Bu4
  go_wp2_with fail
  refine (fblob_any u5).mono ?_
  rintro e u6 ⟨q6, d6, rfl, hg, hb⟩
  have Bu6 := Lib.hid (Bu5.out.trans (hb.mono Bu5.out.size))
  have Gu6 := Lib.hid hg
  clear hg hb Bu5
  go_wp2_with fail
  refine (fkeep_any 4 u6 (fit_small (by omega))).mono ?_
  rintro e u7 ⟨q7, d7, rfl, hg, hb⟩
  have Bu7 := Lib.hid (Bu6.out.trans (hb.mono Bu6.out.size))
  have Gu6 := Lib.hid (Gu6.out.below hb)
  have Gu7 := Lib.hid hg
  clear hg hb Bu6
  go_wp2_with fail
  refine (fhint_any 2 4 u7 (fit_small (by omega)) (fit_small (by omega))).mono ?_
  rintro e u8 ⟨q8, d8, rfl, hg, hb⟩
  have Bu8 := Lib.hid (Bu7.out.trans (hb.mono Bu7.out.size))
  have Gu6 := Lib.hid (Gu6.out.below hb)
  have Gu7 := Lib.hid (Gu7.out.below hb)
  have Gu8 := Lib.hid hg
  clear hg hb Bu7
  go_wp2_with fail
  refine (fdone_any 2 4 u8 (fit_small (by omega)) (fit_small (by omega))).mono ?_
  rintro e u9 ⟨q9, d9, rfl, hg, hb⟩
  have Bu9 := Lib.hid (Bu8.out.trans (hb.mono Bu8.out.size))
  have Gu6 := Lib.hid (Gu6.out.below hb)
  have Gu7 := Lib.hid (Gu7.out.below hb)
  have Gu8 := Lib.hid (Gu8.out.below hb)
  have Gu9 := Lib.hid hg
  clear hg hb Bu8
  have bf : (buildOp 30 4 #[(0, Value.agg (fcells (eBlob) q6 d6).toArray), (1, Value.agg (fcells (eKeep 4) q7 d7).toArray), (2, Value.agg (fcells (eHint 2 4) q8 d8).toArray), (3, Value.agg (fcells (eDone 2 4) q9 d9).toArray)]).run Tryz.prog u9 = .ok (.value (.slice (some ⟨u9.heap.size, 0, none⟩) 4 4)) (u9.alloc (.cells (([(eBlob, q6, d6), (eKeep 4, q7, d7), (eHint 2 4, q8, d8), (eDone 2 4, q9, d9)] : List (Hd Fac)).map sF.row).flatten.toArray 28)) := build_facts u9 [(eBlob, q6, d6), (eKeep 4, q7, d7), (eHint 2 4, q8, d8), (eDone 2 4, q9, d9)] (by intro y hy; simp only [List.mem_cons, List.not_mem_nil, or_false] at hy; rcases hy with rfl | rfl | rfl | rfl <;> first | exact sum32 _ | exact zlen) (by simp)
  have tf := told_facts u9 [(eBlob, q6, d6), (eKeep 4, q7, d7), (eHint 2 4, q8, d8), (eDone 2 4, q9, d9)] (by intro y hy; simp only [List.mem_cons, List.not_mem_nil, or_false] at hy; rcases hy with rfl | rfl | rfl | rfl <;> first | exact Gu6.out | exact Gu7.out | exact Gu8.out | exact Gu9.out | exact drop_good _) (by simp)
  have hb := (Below.refl u9.heap.size u9).alloc (Nat.le_refl _) (.cells (([(eBlob, q6, d6), (eKeep 4, q7, d7), (eHint 2 4, q8, d8), (eDone 2 4, q9, d9)] : List (Hd Fac)).map sF.row).flatten.toArray 28)
  obtain ⟨u10, hnw⟩ : ∃ x, x = u9.alloc (.cells (([(eBlob, q6, d6), (eKeep 4, q7, d7), (eHint 2 4, q8, d8), (eDone 2 4, q9, d9)] : List (Hd Fac)).map sF.row).flatten.toArray 28) := ⟨_, rfl⟩
  rw [← hnw] at bf tf hb
  have Tu10 := Lib.hid tf
  have Bu10 := Lib.hid (Bu9.out.trans (hb.mono Bu9.out.size))
  clear tf hb hnw Gu6 Gu7 Gu8 Gu9 Bu9
  go_wp2_with fail
  refine (counts_any F _ _ _ 1 1 0 [eBlob, eKeep 4, eHint 2 4, eDone 2 4] _ 4 4 u10 Tu10.out (by omega) (by simp [show 2 ≤ dataMost from by decide]) e_f4 rfl rfl rfl).mono ?_
  rintro e u11 ⟨rfl, hb⟩
  have Bu11 := Lib.hid (Bu10.out.trans (hb.mono Bu10.out.size))
  clear hb bf Tu10 Bu10
  go_wp2_with fail
  refine (fblob_any u11).mono ?_
  rintro e u12 ⟨q12, d12, rfl, hg, hb⟩
  have Bu12 := Lib.hid (Bu11.out.trans (hb.mono Bu11.out.size))
  have Gu12 := Lib.hid hg
  clear hg hb Bu11
  go_wp2_with fail
  refine (fhint_any 2 4 u12 (fit_small (by omega)) (fit_small (by omega))).mono ?_
  rintro e u13 ⟨q13, d13, rfl, hg, hb⟩
  have Bu13 := Lib.hid (Bu12.out.trans (hb.mono Bu12.out.size))
  have Gu12 := Lib.hid (Gu12.out.below hb)
  have Gu13 := Lib.hid hg
  clear hg hb Bu12
  go_wp2_with fail
  refine (fdone_any 2 5 u13 (fit_small (by omega)) (fit_small (by omega))).mono ?_
  rintro e u14 ⟨q14, d14, rfl, hg, hb⟩
  have Bu14 := Lib.hid (Bu13.out.trans (hb.mono Bu13.out.size))
  have Gu12 := Lib.hid (Gu12.out.below hb)
  have Gu13 := Lib.hid (Gu13.out.below hb)
  have Gu14 := Lib.hid hg
  clear hg hb Bu13
  have bf : (buildOp 30 3 #[(0, Value.agg (fcells (eBlob) q12 d12).toArray), (1, Value.agg (fcells (eHint 2 4) q13 d13).toArray), (2, Value.agg (fcells (eDone 2 5) q14 d14).toArray)]).run Tryz.prog u14 = .ok (.value (.slice (some ⟨u14.heap.size, 0, none⟩) 3 3)) (u14.alloc (.cells (([(eBlob, q12, d12), (eHint 2 4, q13, d13), (eDone 2 5, q14, d14)] : List (Hd Fac)).map sF.row).flatten.toArray 28)) := build_facts u14 [(eBlob, q12, d12), (eHint 2 4, q13, d13), (eDone 2 5, q14, d14)] (by intro y hy; simp only [List.mem_cons, List.not_mem_nil, or_false] at hy; rcases hy with rfl | rfl | rfl <;> first | exact sum32 _ | exact zlen) (by simp)
  have tf := told_facts u14 [(eBlob, q12, d12), (eHint 2 4, q13, d13), (eDone 2 5, q14, d14)] (by intro y hy; simp only [List.mem_cons, List.not_mem_nil, or_false] at hy; rcases hy with rfl | rfl | rfl <;> first | exact Gu12.out | exact Gu13.out | exact Gu14.out | exact drop_good _) (by simp)
  have hb := (Below.refl u14.heap.size u14).alloc (Nat.le_refl _) (.cells (([(eBlob, q12, d12), (eHint 2 4, q13, d13), (eDone 2 5, q14, d14)] : List (Hd Fac)).map sF.row).flatten.toArray 28)
  obtain ⟨u15, hnw⟩ : ∃ x, x = u14.alloc (.cells (([(eBlob, q12, d12), (eHint 2 4, q13, d13), (eDone 2 5, q14, d14)] : List (Hd Fac)).map sF.row).flatten.toArray 28) := ⟨_, rfl⟩
  rw [← hnw] at bf tf hb
  have Tu15 := Lib.hid tf
  have Bu15 := Lib.hid (Bu14.out.trans (hb.mono Bu14.out.size))
  clear tf hb hnw Gu12 Gu13 Gu14 Bu14
  go_wp2_with fail
  refine (counts_any F _ _ _ 1 0 1 [eBlob, eHint 2 4, eDone 2 5] _ 3 3 u15 Tu15.out (by omega) (by simp [show 2 ≤ dataMost from by decide]) e_f5 rfl rfl rfl).mono ?_
  rintro e u16 ⟨rfl, hb⟩
  have Bu16 := Lib.hid (Bu15.out.trans (hb.mono Bu15.out.size))
  clear hb bf Tu15 Bu15
  go_wp2_with fail
  refine (fvote_any 7 5 2 [] none 0 0 u16 (fit_small (by omega)) (fit_small (by omega)) (fit_small (by omega)) rfl (by simp) (At.nil _ _) (by omega) (by omega) (fun _ => rfl)).mono ?_
  rintro e u17 ⟨q17, d17, rfl, hg, hb⟩
  have Bu17 := Lib.hid (Bu16.out.trans (hb.mono Bu16.out.size))
  have Gu17 := Lib.hid hg
  clear hg hb Bu16
  go_wp2_with fail
  refine (fvote_any 8 5 1 [9] (some ⟨u17.heap.size, 0, none⟩) 1 1 _ (fit_small (by omega)) (fit_small (by omega)) (fit_small (by omega)) rfl (by simp) (at_made u17 [.int .u8 9] 5) (by omega) (by omega) (fun h => by cases h)).mono ?_
  rintro e u18 ⟨q18, d18, rfl, hg, hb0⟩
  have hb := ((Below.refl u17.heap.size u17).alloc (Nat.le_refl _) (Obj.cells #[.int .u8 9] 5)).trans (hb0.mono (by simp))
  have Bu18 := Lib.hid (Bu17.out.trans (hb.mono Bu17.out.size))
  have Gu17 := Lib.hid (Gu17.out.below hb)
  have Gu18 := Lib.hid hg
  clear hg hb hb0 Bu17
  have bf : (buildOp 30 2 #[(0, Value.agg (fcells (eVote 7 5 2 []) q17 d17).toArray), (1, Value.agg (fcells (eVote 8 5 1 [9]) q18 d18).toArray)]).run Tryz.prog u18 = .ok (.value (.slice (some ⟨u18.heap.size, 0, none⟩) 2 2)) (u18.alloc (.cells (([(eVote 7 5 2 [], q17, d17), (eVote 8 5 1 [9], q18, d18)] : List (Hd Fac)).map sF.row).flatten.toArray 28)) := build_facts u18 [(eVote 7 5 2 [], q17, d17), (eVote 8 5 1 [9], q18, d18)] (by intro y hy; simp only [List.mem_cons, List.not_mem_nil, or_false] at hy; rcases hy with rfl | rfl <;> exact zlen) (by simp)
  have tf := told_facts u18 [(eVote 7 5 2 [], q17, d17), (eVote 8 5 1 [9], q18, d18)] (by intro y hy; simp only [List.mem_cons, List.not_mem_nil, or_false] at hy; rcases hy with rfl | rfl <;> first | exact Gu17.out | exact Gu18.out) (by simp)
  have hb := (Below.refl u18.heap.size u18).alloc (Nat.le_refl _) (.cells (([(eVote 7 5 2 [], q17, d17), (eVote 8 5 1 [9], q18, d18)] : List (Hd Fac)).map sF.row).flatten.toArray 28)
  obtain ⟨u19, hnw⟩ : ∃ x, x = u18.alloc (.cells (([(eVote 7 5 2 [], q17, d17), (eVote 8 5 1 [9], q18, d18)] : List (Hd Fac)).map sF.row).flatten.toArray 28) := ⟨_, rfl⟩
  rw [← hnw] at bf tf hb
  have Tu19 := Lib.hid tf
  have Bu19 := Lib.hid (Bu18.out.trans (hb.mono Bu18.out.size))
  clear tf hb hnw Gu17 Gu18 Bu18
  go_wp2_with fail
  have hfo := F.fold [eVote 7 5 2 [], eVote 8 5 1 [9]] _ 2 2 u19 Tu19.out (by have : listMost = 2000000 := rfl; simp [this]) (by simp [show 1 ≤ dataMost from by decide])
  unfold FSte at hfo
  rw [H1.out] at hfo
  refine hfo.mono ?_
  rintro e u20 ⟨h1, rfl, hg, hb⟩
  have Bu20 := Lib.hid (Bu19.out.trans (hb.mono Bu19.out.size))
  have S1 := Lib.hid hg
  clear hg hb hfo bf Tu19 Bu19
  have sx := fun h => store_ste1 u20 t1 h
  go_wp2_with fail
  have hb := (Below.refl u20.heap.size u20).alloc (Nat.le_refl _) (Obj.cells (scells t1 h1).toArray 47)
  have hk := Blk.new u20 (scells t1 h1).toArray 47
  obtain ⟨u21, hnw⟩ : ∃ x, x = u20.alloc (Obj.cells (scells t1 h1).toArray 47) := ⟨_, rfl⟩
  rw [← hnw] at hb hk ⊢
  have Bu21 := Lib.hid (Bu20.out.trans (hb.mono Bu20.out.size))
  have S1 := Lib.hid (S1.out.below hb)
  have K1 := Lib.hid hk
  clear hb hk hnw sx Bu20
  generalize u20.heap.size = g1 at *
  refine (fvote_any 7 5 2 [] none 0 0 u21 (fit_small (by omega)) (fit_small (by omega)) (fit_small (by omega)) rfl (by simp) (At.nil _ _) (by omega) (by omega) (fun _ => rfl)).mono ?_
  rintro e u22 ⟨q22, d22, rfl, hg, hb⟩
  have Bu22 := Lib.hid (Bu21.out.trans (hb.mono Bu21.out.size))
  have S1 := Lib.hid (S1.out.below hb)
  have K1 := Lib.hid (K1.out.below hb K1.out.lt)
  have Gu22 := Lib.hid hg
  clear hg hb Bu21
  go_wp2_with fail
  refine (fvote_any 8 6 1 [9] (some ⟨u22.heap.size, 0, none⟩) 1 1 _ (fit_small (by omega)) (fit_small (by omega)) (fit_small (by omega)) rfl (by simp) (at_made u22 [.int .u8 9] 5) (by omega) (by omega) (fun h => by cases h)).mono ?_
  rintro e u23 ⟨q23, d23, rfl, hg, hb0⟩
  have hb := ((Below.refl u22.heap.size u22).alloc (Nat.le_refl _) (Obj.cells #[.int .u8 9] 5)).trans (hb0.mono (by simp))
  have Bu23 := Lib.hid (Bu22.out.trans (hb.mono Bu22.out.size))
  have Gu22 := Lib.hid (Gu22.out.below hb)
  have S1 := Lib.hid (S1.out.below hb)
  have K1 := Lib.hid (K1.out.below hb K1.out.lt)
  have Gu23 := Lib.hid hg
  clear hg hb hb0 Bu22
  go_wp2_with fail
  refine (fvote_any 7 4 4 [] none 0 0 u23 (fit_small (by omega)) (fit_small (by omega)) (fit_small (by omega)) rfl (by simp) (At.nil _ _) (by omega) (by omega) (fun _ => rfl)).mono ?_
  rintro e u24 ⟨q24, d24, rfl, hg, hb⟩
  have Bu24 := Lib.hid (Bu23.out.trans (hb.mono Bu23.out.size))
  have Gu22 := Lib.hid (Gu22.out.below hb)
  have Gu23 := Lib.hid (Gu23.out.below hb)
  have S1 := Lib.hid (S1.out.below hb)
  have K1 := Lib.hid (K1.out.below hb K1.out.lt)
  have Gu24 := Lib.hid hg
  clear hg hb Bu23
  have bf : (buildOp 30 3 #[(0, Value.agg (fcells (eVote 7 5 2 []) q22 d22).toArray), (1, Value.agg (fcells (eVote 8 6 1 [9]) q23 d23).toArray), (2, Value.agg (fcells (eVote 7 4 4 []) q24 d24).toArray)]).run Tryz.prog u24 = .ok (.value (.slice (some ⟨u24.heap.size, 0, none⟩) 3 3)) (u24.alloc (.cells (([(eVote 7 5 2 [], q22, d22), (eVote 8 6 1 [9], q23, d23), (eVote 7 4 4 [], q24, d24)] : List (Hd Fac)).map sF.row).flatten.toArray 28)) := build_facts u24 [(eVote 7 5 2 [], q22, d22), (eVote 8 6 1 [9], q23, d23), (eVote 7 4 4 [], q24, d24)] (by intro y hy; simp only [List.mem_cons, List.not_mem_nil, or_false] at hy; rcases hy with rfl | rfl | rfl <;> exact zlen) (by simp)
  have tf := told_facts u24 [(eVote 7 5 2 [], q22, d22), (eVote 8 6 1 [9], q23, d23), (eVote 7 4 4 [], q24, d24)] (by intro y hy; simp only [List.mem_cons, List.not_mem_nil, or_false] at hy; rcases hy with rfl | rfl | rfl <;> first | exact Gu22.out | exact Gu23.out | exact Gu24.out) (by simp)
  have hb := (Below.refl u24.heap.size u24).alloc (Nat.le_refl _) (.cells (([(eVote 7 5 2 [], q22, d22), (eVote 8 6 1 [9], q23, d23), (eVote 7 4 4 [], q24, d24)] : List (Hd Fac)).map sF.row).flatten.toArray 28)
  obtain ⟨u25, hnw⟩ : ∃ x, x = u24.alloc (.cells (([(eVote 7 5 2 [], q22, d22), (eVote 8 6 1 [9], q23, d23), (eVote 7 4 4 [], q24, d24)] : List (Hd Fac)).map sF.row).flatten.toArray 28) := ⟨_, rfl⟩
  rw [← hnw] at bf tf hb
  have Tu25 := Lib.hid tf
  have Bu25 := Lib.hid (Bu24.out.trans (hb.mono Bu24.out.size))
  have S1 := Lib.hid (S1.out.below hb)
  have K1 := Lib.hid (K1.out.below hb K1.out.lt)
  clear tf hb hnw Gu22 Gu23 Gu24 Bu24
  go_wp2_with fail
  have hfo := F.fold [eVote 7 5 2 [], eVote 8 6 1 [9], eVote 7 4 4 []] _ 3 3 u25 Tu25.out (by have : listMost = 2000000 := rfl; simp [this]) (by simp [show 1 ≤ dataMost from by decide])
  unfold FSte at hfo
  rw [H2.out] at hfo
  refine hfo.mono ?_
  rintro e u26 ⟨h2, rfl, hg, hb⟩
  have Bu26 := Lib.hid (Bu25.out.trans (hb.mono Bu25.out.size))
  have S1 := Lib.hid (S1.out.below hb)
  have K1 := Lib.hid (K1.out.below hb K1.out.lt)
  have S2 := Lib.hid hg
  clear hg hb hfo bf Tu25 Bu25
  have v1 : t1.votes = [⟨(t1.votes.headD ⟨0, 0, 0, 0, 0, []⟩).S, (t1.votes.headD ⟨0, 0, 0, 0, 0, []⟩).PN, (t1.votes.headD ⟨0, 0, 0, 0, 0, []⟩).PO, 0, 0, (t1.votes.headD ⟨0, 0, 0, 0, 0, []⟩).B⟩] := by
    have x := X1.out
    match hv : t1.votes with
    | [] => rw [hv] at x; simp at x
    | [v] => rw [hv] at x; simp at x; cases v; simp at x ⊢; exact x
    | v :: u :: l => rw [hv] at x; simp at x
  have v2 : t2.votes = [⟨(t2.votes.headD ⟨0, 0, 0, 0, 0, []⟩).S, 6, 1, (t2.votes.headD ⟨0, 0, 0, 0, 0, []⟩).AN, (t2.votes.headD ⟨0, 0, 0, 0, 0, []⟩).AO, (t2.votes.headD ⟨0, 0, 0, 0, 0, []⟩).B⟩] := by
    have x := X2.out
    match hv : t2.votes with
    | [] => rw [hv] at x; simp at x
    | [v] => rw [hv] at x; simp at x; cases v; simp at x ⊢; exact x
    | v :: u :: l => rw [hv] at x; simp at x
  obtain ⟨b1, o1, p1, m1, hp1, hl1, hc1, hr1⟩ := votes_one S1.out v1
  obtain ⟨b2, o2, p2, m2, hp2, hl2, hc2, hr2⟩ := votes_one S2.out v2
  have cA : (u26.alloc (.cells (scells t2 h2).toArray 47)).cell? ⟨g1, 5, none⟩ = some (.slice (some ⟨b1, o1, none⟩) 1 h1.v.2.2) := by rw [← hp1, ← hl1]; exact ((K1.out.old _).cell 5).trans (scells_5 t1 h1)
  have cB : (u26.alloc (.cells (scells t2 h2).toArray 47)).cell? ⟨u26.heap.size, 5, none⟩ = some (.slice (some ⟨b2, o2, none⟩) 1 h2.v.2.2) := by rw [← hp2, ← hl2]; exact ((Blk.new u26 (scells t2 h2).toArray 47).cell 5).trans (scells_5 t2 h2)
  have R1 := Lib.hid hr1
  have R2 := Lib.hid hr2
  have P1 := Lib.hid hp1
  have P2 := Lib.hid hp2
  have L1 := Lib.hid hl1
  have L2 := Lib.hid hl2
  clear v1 v2 hp1 hp2 hl1 hl2 hr1 hr2
  have sx := fun h => store_ste1 u26 t2 h
  go_wp2_with fail
  have hb := (Below.refl u26.heap.size u26).alloc (Nat.le_refl _) (Obj.cells (scells t2 h2).toArray 47)
  have hk := Blk.new u26 (scells t2 h2).toArray 47
  obtain ⟨u27, hnw⟩ : ∃ x, x = u26.alloc (Obj.cells (scells t2 h2).toArray 47) := ⟨_, rfl⟩
  rw [← hnw] at hb hk ⊢
  have Bu27 := Lib.hid (Bu26.out.trans (hb.mono Bu26.out.size))
  have R1 := Lib.hid (range_below R1.out hb)
  have R2 := Lib.hid (range_below R2.out hb)
  have S2 := Lib.hid (S2.out.below hb)
  have S1 := Lib.hid (S1.out.below hb)
  have K1 := Lib.hid (K1.out.below hb K1.out.lt)
  have K2 := Lib.hid hk
  clear hb hk hnw sx Bu26
  generalize u26.heap.size = g2 at *
  refine (awake_any F u27).mono ?_
  rintro e w9 ⟨rfl, hb⟩
  have B9 := Lib.hid (Bu27.out.trans (hb.mono Bu27.out.size))
  have dA : w9.cell? ⟨g1, 5, none⟩ = some (.slice (some ⟨b1, o1, none⟩) 1 h1.v.2.2) := by rw [← P1.out, ← L1.out]; exact ((K1.out.below hb K1.out.lt).cell 5).trans (scells_5 t1 h1)
  have dB : w9.cell? ⟨g2, 5, none⟩ = some (.slice (some ⟨b2, o2, none⟩) 1 h2.v.2.2) := by rw [← P2.out, ← L2.out]; exact ((K2.out.below hb K2.out.lt).cell 5).trans (scells_5 t2 h2)
  have a3 : w9.cell? ⟨b1, o1 + 3, none⟩ = some (.int .i64 0) := range_below R1.out hb 3 _ rfl
  have a4 : w9.cell? ⟨b1, o1 + 4, none⟩ = some (.int .i64 0) := range_below R1.out hb 4 _ rfl
  have b3 : w9.cell? ⟨b2, o2 + 1, none⟩ = some (.int .i64 6) := range_below R2.out hb 1 _ rfl
  have b4 : w9.cell? ⟨b2, o2 + 2, none⟩ = some (.int .i64 1) := range_below R2.out hb 2 _ rfl
  clear hb S1 S2 K1 K2 R1 R2 cA cB
  go_wp2_with fail
  go_ret
  exact ⟨rfl, B9.out⟩
end
section
set_option linter.unusedSimpArgs false
set_option linter.unusedVariables false
namespace Fld
theorem encs_bd : ∀ (s : List Int) (l : List Itm), (∀ x ∈ l, x.ok) → ∀ n ∈ encs s l, 0 ≤ n ∧ n ≤ 255
  | [], _, _, n, h => by simp [encs] at h
  | _ :: _, [], _, n, h => by simp [encs] at h
  | c :: s, x :: l, hx, n, h => by
    simp only [encs, List.mem_append] at h
    rcases h with h | h
    · exact enc_bd c x (hx x (List.mem_cons_self ..)) n h
    · exact encs_bd s l (fun y hy => hx y (List.mem_cons_of_mem _ hy)) n h
theorem encs_len : ∀ (s : List Int) (l : List Itm), (∀ x ∈ l, x.ok) → fits s l = true → (encs s l).length ≤ 4009 * s.length
  | [], l, _, _ => by cases l <;> simp [encs]
  | c :: s, l, hx, h => by
    obtain ⟨x, r, rfl, h1, h2, h3⟩ := Fct.fits_one h
    simp only [encs, List.length_append, List.length_cons]
    have h4 := (enc_len c x (hx x (List.mem_cons_self ..)) h1 h2).1
    have h5 := encs_len s r (fun y hy => hx y (List.mem_cons_of_mem _ hy)) h3
    omega
end Fld
namespace Fct
theorem letters_len (k : Int) : (letters k).length ≤ 5 := by
  unfold letters shape
  simp only [List.length_cons]
  (repeat' split) <;> simp
theorem put_bd {f : Fac} (h : f.ok) : ∀ n ∈ (put f).1, 0 ≤ n ∧ n ≤ 255 := by
  by_cases hc : Can f
  · rw [put_can hc]; exact Fld.encs_bd _ _ (items_ok h)
  · rw [put_not hc]; simp
theorem put_len {f : Fac} (h : f.ok) : (put f).1.length ≤ 30000 := by
  by_cases hc : Can f
  · rw [put_can hc]
    have h1 := Fld.encs_len _ _ (items_ok h) hc.fits
    have h2 := letters_len f.K
    simp only
    omega
  · rw [put_not hc]; simp
end Fct
end
section
set_option linter.unusedSimpArgs false
set_option linter.unusedVariables false
open Go.RowKit
variable {P : Program}
theorem wp_region_cls {I : Type} (W : I → World) {id : Nat} {Q : Exit → Act → World → Prop} {a : Act} {w : World} {l : List Oper} (hm : P.follows .mixedOrders = true) (hB : Region.lexB .any l.toArray = true) (h0 : ∃ n, w.drew = W n)
    (h : wpQuiet P l.toArray (fun w' => ∃ n, w' = W n) (fun a' => ∀ w', (∃ n, w' = W n) → Q .normal a' w') l a) : (Code.region id l.toArray true).wp P Q a w :=
  wp_region_quiet (C := fun w' => ∃ n, w' = W n) hm hB h0 (by simpa using h)
/-- The worlds behind one, by number. -/
structure Cls (w : World) (I : Type) (W : I → World) : Prop where
  back : ∀ n, Below w.heap.size w (W n)
  all : ∀ w', Below w.heap.size w w' → ∃ n, w' = W n
theorem cls_of (w : World) : ∃ (I : Type) (W : I → World), Cls w I W := ⟨{w' : World // Below w.heap.size w w'}, Subtype.val, fun n => n.2, fun w' h => ⟨⟨w', h⟩, rfl⟩⟩
section
variable {w : World} {I : Type} {W : I → World}
theorem Cls.ne (h : Cls w I W) : Nonempty I := by
  obtain ⟨n, _⟩ := h.all w (Below.refl _ _)
  exact ⟨n⟩
theorem Cls.one (h : Cls w I W) : ∃ n, w.drew = W n := h.all _ (Below.refl _ _).drew
theorem Cls.cell (h : Cls w I W) {p : Addr} {v : Value} (hc : w.cell? p = some v) : ∀ n, (W n).cell? p = some v := fun n => ((h.back n).cell (World.block_lt_of_cell? w p hc)).trans hc
theorem Cls.call (h : Cls w I W) {f : Nat} {args : Array Value} {v : Value} (hc : ∀ w', Below w.heap.size w w' → Calls P f args w' fun e w'' => e = .returned v ∧ Below w'.heap.size w' w'') : ∀ n, Calls P f args (W n) fun e w'' => e = .returned v ∧ ∃ m, w'' = W m := fun n =>
  (hc _ (h.back n)).mono fun e w'' ⟨he, hb⟩ => ⟨he, h.all _ ((h.back n).trans (hb.mono (h.back n).size))⟩
end
end
section
set_option linter.unusedSimpArgs false
set_option linter.unusedVariables false
open Go.RowKit Sha Fct
/-- Ids compared, as one operation. -/
@[irreducible] def eqlOp (t : TypeId) (x y : Operand) (u v : Value) : Sem Next := do pure (.value (← (do eqGuard .eql t x y u v; binOp .eql t u v)))
theorem execOp_eqlId (ρ : Operand → Value) (dst : Option Tmp) (x y : Operand) (r : TypeId) (ty : TypeId) (pos : String) (after : Array Edge) (guard : Option (Nat × Bool)) :
    execOp ρ { dst := dst, op := .binOp .eql 25 x y r, type := ty, pos := pos, after := after, guard := guard } = eqlOp 25 x y (ρ x) (ρ y) := by unfold eqlOp; rfl
theorem run_eqlId (x y : Operand) (xs ys : List Int) (hx : xs.length = 32) (hy : ys.length = 32) (b : Bool) (hb : b = decide (xs = ys)) (w : World) : (eqlOp 25 x y (.agg (xs.map v8).toArray) (.agg (ys.map v8).toArray)).run Tryz.prog w = .ok (.value (.bool b)) w := by
  have hr := run_eql_arr (P := Tryz.prog) w x y 25 5 32 .u8 Tryz.underlying25 Tryz.underlying5 kslice1 xs ys hx hy
  subst hb
  unfold eqlOp
  simp only [Sem.run_bind, Sem.run_pure, Result.andThen_ok] at hr ⊢
  rw [hr]
  rfl
theorem load_idr {w : World} {g o : Nat} {xs : List Int} (hx : xs.length = 32) (h : w.rangeAt g o (xs.map v8)) : (loadOp 25 (.pointer (some ⟨g, o, none⟩))).run Tryz.prog w = .ok (.value (.agg (xs.map v8).toArray)) w :=
  run_loadOp (run_loadAt_mid w g o 25 _ _ h Tryz.underlying25 rfl (by rw [id_size, List.length_map, hx]))
theorem execOp_boxId (ρ : Operand → Value) (dst : Option Tmp) (x : Operand) (ty : TypeId) (pos : String) (after : Array Edge) (guard : Option (Nat × Bool)) :
    execOp ρ { dst := dst, op := .box 25 x, type := ty, pos := pos, after := after, guard := guard } = boxOp 25 (ρ x) := by unfold boxOp; rfl
attribute [local go_sem ↓] execOp_allocFact execOp_allocSte execOp_storeFact execOp_storeSte execOp_boxFact execOp_boxSte execOp_loadSte execOp_makeFact execOp_makeSte execOp_buildFacts execOp_loadFact execOp_loadId execOp_eqlId execOp_boxId
end
section
set_option linter.unusedSimpArgs false
set_option linter.unusedVariables false
section
variable {P : Program} {ops : Array Oper} {md : Region.Mode} {C : World → Prop}
/-- The head: as long as it is not through, what may come up is of it, and quiet. -/
def wpHead (P : Program) (md : Region.Mode) (ops : Array Oper) (C : World → Prop) (n : Nat) (L : Array Bool → Act → Prop) : Nat → Array Bool → Act → Prop
  | 0, listed, a => L listed a
  | f + 1, listed, a => Region.ready md ops listed ≠ [] ∧ ∀ i ∈ Region.ready md ops listed, i < n ∧ qOp P ops C i (wpHead P md ops C n L f (listed.setIfInBounds i true)) a
theorem wpHead_first {n i : Nat} {oi : Oper} {v : Value} {L : Array Bool → Act → Prop} (hi : ops[i]? = some oi) (hsel : ∀ (j : Nat) (o : Oper) cs b, ops[j]? = some o → o.op ≠ .select cs b)
    (hs : Region.sinkB md ops n = true) (hc : Region.chainB md ops n = true) (hn : n < ops.size) (hin : i < n) (hdone : ∀ listed a, L listed a → ∀ j ∈ Region.ready md ops listed, n ≤ j) (f : Nat) :
    ∀ (listed : Array Bool) (a : Act), HeadInv md ops n listed →
      (∀ j oj, ops[j]? = some oj → j ≠ i → listed.getD j true = false → (∀ e ∈ oj.after, Region.binds md e = true → e.on ≠ i) → oi.apart ops oj = true) →
      i ∈ Region.ready md ops listed → YieldsIn P ops C oi v a → wpHead P md ops C n L f (listed.setIfInBounds i true) (a.put oi.dst v) → wpHead P md ops C n L (f + 1) listed a := by
  induction f with
  | zero =>
    intro listed a inv _ hr hy H
    have hun := (mem_ready.1 hr).1
    refine ⟨List.ne_nil_of_mem hr, fun j hj => ?_⟩
    have hjn : j < n := Nat.lt_of_not_le fun h => tail_waits hs hc hn inv _ i rfl hin hun j h hj
    by_cases hji : j = i
    · subst hji; exact ⟨hjn, hy.qOp hi H⟩
    · have := hdone _ _ H j (ready_mono hj hji); omega
  | succ f ih =>
    intro listed a inv hfree hr hy H
    have hun := (mem_ready.1 hr).1
    refine ⟨List.ne_nil_of_mem hr, fun j hj => ?_⟩
    have hjn : j < n := Nat.lt_of_not_le fun h => tail_waits hs hc hn inv _ i rfl hin hun j h hj
    by_cases hji : j = i
    · subst hji; exact ⟨hjn, hy.qOp hi H⟩
    · refine ⟨hjn, ?_⟩
      obtain ⟨hjun, oj, hoj, hall⟩ := mem_ready.1 hj
      have hnot : ∀ e ∈ oj.after, Region.binds md e = true → e.on ≠ i := fun e he hb heq => by
        have h1 := hall e he hb
        rw [heq, getD_both hun] at h1; cases h1
      refine qOp_mono (fun a' h3 => ih _ a' (inv.set hj hjn) (fun k ok hk hki hku hno => hfree k ok hk hki ?_ hno) (ready_mono hr (Ne.symm hji)) h3.1 ?_)
        (qOp_put hoj (hfree j oj hoj hji hjun hnot) (fun cs b => hsel i oi cs b hi) (fun cs b => hsel j oj cs b hoj) hy (H.2 j (ready_mono hj hji)).2)
      · by_cases hjk : j = k
        · subst hjk; exact hjun
        · rwa [getD_set_ne true hjk] at hku
      · rw [Array.setIfInBounds_comm _ _ hji]; exact h3.2
theorem wpHead_lex {n g : Nat} {Lq : Act → Prop} (hsel : Region.noSelect ops = true) (hs : Region.sinkB md ops n = true) (hc : Region.chainB md ops n = true) (hn : n < ops.size) :
    ∀ (l : List Oper) (k : Nat) (listed : Array Bool) (a : Act), (∀ j, j < l.length → l[j]? = ops[k + j]?) → k + l.length = n → HeadInv md ops n listed →
      Region.lexHead md ops g l.length k listed = true → wpQuiet P ops C Lq l a → wpHead P md ops C n (fun listed' a' => Region.seqB md ops g n listed' = true ∧ Lq a') l.length listed a := by
  intro l
  induction l with
  | nil =>
    intro k listed a _ hk _ hB h
    simp only [List.length_nil, Nat.add_zero] at hk
    subst hk
    exact ⟨hB, h⟩
  | cons o l ih =>
    intro k listed a hl hk inv hB h
    have h0 : ops[k]? = some o := (hl 0 (by simp)).symm
    simp only [List.length_cons, Region.lexHead, Bool.and_eq_true] at hB hk
    have hr : k ∈ Region.ready md ops listed := by simpa using hB.1.1
    obtain ⟨v, hy, hK⟩ := yieldsIn_of_qOp (C := C) (P := P) (K := wpQuiet P ops C Lq l) h0 (by unfold qOp; simp only [h0]; exact h)
    exact wpHead_first h0 (Region.noSelect_spec hsel) hs hc hn (by omega) (fun _ _ hL => seqB_ready hL.1) l.length listed a inv (Region.free_spec h0 hB.1.2) hr hy
      (ih (k + 1) _ _ (fun j hj => by have h1 := hl (j + 1) (by simp; omega); rw [List.getElem?_cons_succ] at h1; rw [h1, show k + (j + 1) = k + 1 + j by omega]) (by omega) (inv.set hr (by omega)) hB.2 hK)
variable {Q : Exit → Act → World → Prop}
theorem any_of_head {n g : Nat} {L : Array Bool → Act → Prop} (hL : ∀ listed a w, C w → L listed a → wpAny P md ops Q g listed a w) (f : Nat) :
    ∀ (listed : Array Bool) (a : Act) (w : World), C w → wpHead P md ops C n L f listed a → wpAny P md ops Q (f + g) listed a w := by
  induction f with
  | zero => intro listed a w hC h; rw [Nat.zero_add]; exact hL _ _ _ hC h
  | succ f ih =>
    intro listed a w hC h
    rw [show f + 1 + g = f + g + 1 by omega]
    exact ⟨fun h0 => absurd h0 h.1, fun i hi => wpOp_of_qOp hC (fun a' w' hw' h' => ih _ a' w' hw' h') (h.2 i hi).2⟩
/-- What a lexical head comes to. -/
theorem head_of_lex {l : List Oper} {a : Act} {Lq : Act → Prop} (n : Nat) (hB : Region.lexTailB .any l.toArray n = true) (h : wpQuiet P l.toArray C Lq (l.take n) a) :
    n < l.length ∧ wpHead P .any l.toArray C n (fun listed' a' => Region.seqB .any l.toArray (l.length - n) n listed' = true ∧ Lq a') n (Array.replicate l.length false) a := by
  simp only [Region.lexTailB, Bool.and_eq_true, decide_eq_true_eq] at hB
  obtain ⟨⟨⟨⟨hsel, hn⟩, hs⟩, hc⟩, hlex⟩ := hB
  have hn' : n < l.length := by simpa using hn
  have htl : (l.take n).length = n := by rw [List.length_take]; omega
  have inv : HeadInv .any l.toArray n (Array.replicate l.toArray.size false) :=
    ⟨by simp, fun j oj _ hl => (by rw [getD_replicate_false] at hl; cases hl), fun t _ ht => getD_in (by simpa using ht) (getD_replicate_false _ _)⟩
  have H := wpHead_lex (P := P) (C := C) (Lq := Lq) (md := .any) (g := l.toArray.size - n) hsel hs hc hn (l.take n) 0 _ a (fun j hj => by rw [List.getElem?_take_of_lt (by omega)]; simp) (by omega) inv (by rw [htl]; exact hlex) h
  rw [htl] at H
  exact ⟨hn', by simpa using H⟩
variable {F : Fence} {m : Nat}
end
end
section
set_option linter.unusedSimpArgs false
set_option linter.unusedVariables false
open Go.RowKit
theorem region_cls_tail {P : Program} {Q : Exit → Act → World → Prop} {I : Type} (W : I → World) {id : Nat} {a : Act} {w : World} {l : List Oper} (n : Nat) (hm : P.follows .mixedOrders = true) (hB : Region.lexTailB .any l.toArray n = true) (h0 : ∃ k, w.drew = W k)
    (h : wpQuiet P l.toArray (fun w' => ∃ k, w' = W k) (fun a' => ∀ w', (∃ k, w' = W k) → wpList P l.toArray Q (l.drop n) a' w') (l.take n) a) : (Code.region id l.toArray true).wp P Q a w := by
  obtain ⟨hn, H⟩ := head_of_lex n hB h
  refine wp_region_any hm ?_
  have hA := any_of_head (Q := Q) (g := l.length - n) (C := fun w' => ∃ k, w' = W k) (fun listed a' w' hw' hL => by
    have h1 := wpAny_of_seq (md := .any) (Q' := Q) (l.drop n) n listed a' w' (fun j => by simp [List.getElem?_drop]) (by rw [List.length_drop]; exact hL.1) (hL.2 w' hw')
    rwa [List.length_drop] at h1) n _ a w.drew h0 H
  rw [show n + (l.length - n) = l.length by omega] at hA
  simpa using hA
end
end Go.Proofs.YtokpabkcaofahaaGreat
