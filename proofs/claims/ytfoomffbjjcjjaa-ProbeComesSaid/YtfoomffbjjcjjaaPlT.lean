/-
  The law ProbeTurns.
-/
import Derived.Test.YtfoomffbjjcjjaaPlN
import Derived.Test.YtfoomffbjjcjjaaLtZ
import Derived.Test.YtfoomffbjjcjjaaRdT
import Derived.Test.YtfoomffbjjcjjaaClsT
namespace Go.Proofs.Ytfoomffbjjcjjaa
set_option linter.unusedSimpArgs false
set_option linter.unusedVariables false
open Go.RowKit Sha Lot
abbrev QC (bl : Nat) : ObjRep Cst := CRep PRep ProgLot bl
theorem qcHeld (bl : Nat) : Held (QC bl) := cHeld prHeld lotsOK.ok.rep bl
section
variable {w : World} {b bl : Nat} {fp : List Nat} {s : Rd.St} {Ls : List Int} {N : Nat}
theorem qc_order (h : QC bl w b fp (s, (Ls, N))) : Calls Try.prog 17 #[optr b] w (PbOrder s.L w) := by
  obtain ⟨fr, fl, rfl, _, hr, _⟩ := h; exact rorder_any b fr s w hr
theorem qc_told (h : QC bl w b fp (s, (Ls, N))) : Calls Try.prog 18 #[optr b] w fun e w' => e = .returned (v64 s.t) ∧ Below w.heap.size w w' := by
  obtain ⟨fr, fl, rfl, _, hr, _⟩ := h; exact rtold_any b fr s w hr
theorem qc_ok (h : QC bl w b fp (s, (Ls, N))) : Rd.OK s := by obtain ⟨fr, fl, _, _, hr, _⟩ := h; exact hr.2
end
theorem first_any (m : Nat) (w : World) (hm : m ≤ 64) : Calls Try.prog 25 #[.int .i64 m] w fun e w' => ∃ v, e = .returned v ∧ Own64 w' w.heap.size it v m ((ups m).map v64) ∧ Below w.heap.size w w' := by
  go_enter Try.func25, Try.ntmps25
  go_wp2_with fail
  go_loopw [3, 4] (fun v iv wr => ∃ k : Nat, iv = .int .i64 ((k : Int) + 1) ∧ k ≤ m ∧ Hid (Own64 wr w.heap.size it v k ((ups k).map v64)) ∧ Hid (Below w.heap.size w wr)) (fun _ iv _ => m + 1 - (intOf iv).toNat)
  case atStart => exact ⟨0, rfl, by omega, Lib.hid (Own64.nil _ _ _), Lib.hid (Below.refl _ _)⟩
  case round =>
    obtain ⟨k, rfl, hk, HV, HB⟩ := hrel
    by_cases hlt : k < m
    · have t1 : decide ((k : Int) + 1 ≤ (m : Int)) = true := decide_eq_true (by omega)
      have HUP := Lib.hid (show (ups k).map v64 ++ [v64 ((k : Int) + 1)] = (ups (k + 1)).map v64 from by rw [ups_succ, List.map_append]; rfl)
      have i2 : IntKind.i64.wrap ((k : Int) + 1 + 1) = (k : Int) + 1 + 1 := IntWalk.i64_in _ (by omega)
      obtain ⟨qv, cv, hv, _⟩ := own_at_s HV.out.row
      subst hv
      go_wp2_with (at_builtin; refine wpList_app64 rfl (.tmp 10) (.tmp 12) 22 rfl w.heap.size 3 Try.underlying22 knum_info _ k _ rfl (HV.out.alloc _) (some ⟨wr.heap.size, 0, none⟩) 1 1 [v64 ((k : Int) + 1)] rfl (at_newR wr [v64 ((k : Int) + 1)] it) rfl (fun h => by cases h) (by omega) (by intro u hu; rw [List.mem_singleton.1 hu]; exact ⟨_, rfl⟩) (by omega) (by unfold maxLen; omega) (by have := HB.out.size; simp; omega) ?_; intro v4 w4 hown4 _ hb4 hs4; (have O4 := Lib.hid hown4); (have B4 := Lib.hid ((HB.out.alloc HB.out.size _).trans hb4)); clear hown4 hb4 hs4)
      rw [HUP.out] at O4
      go_roundw
      case rel => exact ⟨k + 1, by go_num, by omega, O4, B4⟩
      case measure => simp [intOf]; omega
    · obtain rfl : k = m := by omega
      have t1 : decide ((k : Int) + 1 ≤ (k : Int)) = false := decide_eq_false (by omega)
      go_wp2_with fail
      go_ret
      exact ⟨_, rfl, HV.out, HB.out⟩
/-- An object, and a block that is not its. -/
structure SoloB (bl : Nat) (w0 w : World) (b : Nat) (f : List Nat) (c : Cst) (g : Nat) (la : List Int) : Prop where
  solo : Solo (QC bl) w0 w b f c
  blk : Blk w g (la.map v64) it
  out : g ∉ f
  new : w0.heap.size ≤ g
section
variable {bl : Nat} {w0 w w' : World} {b : Nat} {f f' : List Nat} {c c' : Cst} {g : Nat} {la : List Int}
theorem SoloB.on (h : SoloB bl w0 w b f c g la) (hb : Below w.heap.size w w') : SoloB bl w0 w' b f c g la := ⟨h.solo.on (qcHeld bl) hb, h.blk.upon hb, h.out, h.new⟩
theorem SoloB.step (h : SoloB bl w0 w b f c g la) (hr : QC bl w' b f' c') (ht : Touch f w w') (hf : From f f' w) : SoloB bl w0 w' b f' c' g la :=
  ⟨h.solo.step hr ht hf, (ht.block g h.blk.lt h.out).trans h.blk, fun e => by rcases hf g e with h1 | h1; exact h.out h1; have := h.blk.lt; omega, h.new⟩
theorem SoloB.set (h : SoloB bl w0 w b f c g la) (i : Nat) (x : Int) : SoloB bl w0 (w.setCell ⟨g, i, none⟩ (v64 x)) b f c g (la.set i x) :=
  ⟨⟨(qcHeld bl).keep h.solo.one fun k hk => Below.heap_setCell _ _ _ _ (fun e => h.out ((show k = g from e) ▸ hk)), h.solo.new, h.solo.below.setCell h.new _⟩, by have := h.blk.set i (v64 x); rwa [← List.map_set] at this, h.out, h.new⟩
end
set_option maxRecDepth 100000 in
set_option maxHeartbeats 16000000 in
theorem pturns_any (nd : Int) (ls : List Int) (m0 : Nat) (p : Option Addr) (d : Nat) (my : Int) (w : World) (hnd : -9223372036854775808 ≤ nd ∧ nd ≤ 9223372036854775807) (hm0 : ls.length = m0) (hl : GoodN w ls p d) (hmy : -9223372036854775808 ≤ my ∧ my ≤ 9223372036854775807) :
    Calls Try.prog 6 #[v64 nd, .slice p m0 d, v64 my] w (PlTrue w) := by
  obtain ⟨m1, hm1⟩ : ∃ m : Nat, pickOf nd 64 = (m : Int) := ⟨(pickOf nd 64).toNat, by have := pickOf_bd nd 64 (by omega); omega⟩
  have hm64 : m1 ≤ 63 := by have := pickOf_bd nd 64 (by omega); omega
  obtain ⟨M, hM⟩ : ∃ m : Nat, pickOf my 401 = (m : Int) := ⟨(pickOf my 401).toNat, by have := pickOf_bd my 401 (by omega); omega⟩
  have hM400 : M ≤ 400 := by have := pickOf_bd my 401 (by omega); omega
  have HP1 := Lib.hid (fun W => (show Calls Try.prog 23 #[v64 nd, .int .i64 64] W fun e w' => e = .returned (.int .i64 (m1 : Int)) ∧ W = w' from by rw [← hm1]; exact pick_any nd 64 W (by omega) (by omega) hnd))
  have HP2 := Lib.hid (fun W => (show Calls Try.prog 23 #[v64 my, .int .i64 401] W fun e w' => e = .returned (.int .i64 (M : Int)) ∧ W = w' from by rw [← hM]; exact pick_any my 401 W (by omega) (by omega) hmy))
  have GL := Lib.hid hl
  have HM0 := Lib.hid hm0
  clear hm1 hM hnd hmy hl hm0
  go_enter Try.func6, Try.ntmps6
  go_wp2_with fail
  refine (pknown_any probeOK w).mono ?_
  rintro e Wk ⟨rfl, hbk⟩
  have BK := Lib.hid hbk
  clear hbk
  have i1 : IntKind.i64.wrap (1 + (m1 : Int)) = ((m1 + 1 : Nat) : Int) := by rw [IntWalk.i64_in _ (by omega)]; omega
  go_wp2_with (go_at_call 23; refine (HP1.out _).mono ?_; rintro e w' ⟨rfl, rfl⟩)
  obtain ⟨m, hm⟩ : ∃ m, m = m1 + 1 := ⟨_, rfl⟩
  refine (lotsOK.ok.new ls m0 p d Wk HM0.out (GL.out.below BK.out)).mono ?_
  rintro e W1 ⟨hb1, ⟨hz, bl, fl, rfl, hrl, hnl⟩ | ⟨hz, rfl⟩⟩
  · have B1 := Lib.hid (below_next BK.out hb1)
    have HRL := Lib.hid hrl
    have HNL := Lib.hid (show ∀ k ∈ fl, w.heap.size ≤ k from fun k hk => Nat.le_trans BK.out.size (hnl k hk))
    clear hb1 hrl hnl hz HP1 i1
    go_wp2_with fail
    rw [show ((m1 : Int) + 1) = ((m : Nat) : Int) from by omega]
    have hm1 : 1 ≤ m := by omega
    have hm2 : m ≤ 64 := by omega
    clear hm hm64
    refine (first_any m W1 hm2).mono ?_
    rintro e W2 ⟨vu, rfl, ho, hb2⟩
    obtain ⟨qu, cu, hv, _, hgu⟩ := ho.good (bd_of (ups_new hm2).2)
    subst hv
    have B2 := Lib.hid (below_next B1.out hb2)
    have GU := Lib.hid hgu
    have HR2 := Lib.hid (lotsOK.ok.rep.on HRL.out hb2)
    have HQU := Lib.hid (show ∀ a, qu = some a → a.block ∉ fl from fun a e h => by
      have h1 := (ho.row.lt a.block (by rw [e]; rfl)).1
      have h2 := lotsOK.ok.rep.low HRL.out _ h
      omega)
    clear ho hb2 hgu HRL
    go_wp2_with fail
    refine (pnewR_any (ups m) m qu cu (lptr bl) fl ls 0 W2 (ups_length m) GU.out (by omega) (Or.inr ⟨bl, rfl, HR2.out⟩) (by omega) HQU.out).mono ?_
    rintro e W3 (⟨_, b, fp, fl3, rfl, hr3, hl3, ha3, ht3, hf3, hk3⟩ | ⟨h4, _⟩)
    rotate_left
    · exact absurd (ups_new hm2) h4
    have S3 := Lib.hid (show Solo (QC bl) w W3 b (fp ++ fl3) (⟨Rd.ordered (ups m) ls 0, 0⟩, (ls, 0 + shufN m)) from ⟨⟨fp, fl3, rfl, ha3, hr3, hl3.obj⟩, fun i h5 => by
      rcases List.mem_append.1 h5 with h9 | h9
      · exact Nat.le_trans B2.out.size (hk3 i h9)
      · rcases hf3 i h9 with h10 | h10
        · exact HNL.out i h10
        · exact Nat.le_trans B2.out.size h10, B2.out.trans (ht3.below HNL.out B2.out.size)⟩)
    have HTU := Lib.hid (show Rd.Turn m 0 ⟨Rd.ordered (ups m) ls 0, 0⟩ (List.replicate (m + 1) 0) from Rd.Turn.start hr3.2 (by show (Rd.ordered (ups m) ls 0).length = m; rw [Rd.ordered_len (by rw [ups_length]; exact hm2), ups_length]) (fun x hx => (ups_mem (Rd.ordered_mem (by rw [ups_length]; exact hm2) hx)).2))
    have hsh : shufN (m : Int) ≤ 63 := by unfold shufN; split <;> omega
    obtain ⟨N0, hN0⟩ : ∃ N0, N0 = 0 + shufN m := ⟨_, rfl⟩
    rw [← hN0] at S3
    have hN63 : N0 ≤ 63 := by omega
    clear hr3 hl3 ha3 ht3 hf3 hk3 HR2 HQU GU B1 B2 HNL hsh hN0
    generalize (⟨Rd.ordered (ups m) ls 0, 0⟩ : Rd.St) = st0 at *
    generalize fp ++ fl3 = f0 at *
    have iw : IntKind.i64.wrap ((m : Int) + 1) = (m : Int) + 1 := IntWalk.i64_in _ (by omega)
    have hmk : (Instr.makeSlice 22 (.int .i64 ((m : Int) + 1)) (.int .i64 ((m : Int) + 1))).run Try.prog W3 = .ok (.slice (some ⟨W3.heap.size, 0, none⟩) (m + 1) (m + 1)) (W3.alloc (.cells (madeCells #[Value.int .i64 0] (m + 1)) 3)) := by
      have := run_make_row' (P := Try.prog) 22 3 (.int .i64 0) 8 Try.underlying22 knum_info rfl .i64 .i64 (m + 1) (by omega) (by omega) W3
      simpa using this
    have TB := Lib.hid (show SoloB bl w (W3.alloc (.cells (madeCells #[Value.int .i64 0] (m + 1)) 3)) b f0 (st0, (ls, N0)) W3.heap.size (List.replicate (m + 1) 0) from by
      refine ⟨S3.out.on (qcHeld bl) ((Below.refl _ _).alloc (Nat.le_refl _) _), ?_, fun e => Nat.lt_irrefl _ ((qcHeld bl).low S3.out.one _ e), S3.out.below.size⟩
      have := Blk.new W3 (madeCells #[Value.int .i64 0] (m + 1)) 3
      rw [made64] at this
      rw [List.map_replicate]
      exact this)
    generalize W3.alloc (.cells (madeCells #[Value.int .i64 0] (m + 1)) 3) = W4 at *
    obtain ⟨g, hg⟩ : ∃ g, g = W3.heap.size := ⟨_, rfl⟩
    rw [← hg] at hmk TB
    clear hg S3
    go_wp2_with fail
    go_loopw [13, 14, 15] (fun iv xv ov wr => ∃ (j N : Nat) (s : Rd.St) (la : List Int) (f : List Nat), iv = .int .i64 ((j : Int) + 1) ∧ j ≤ M ∧ N ≤ 63 * (j + 1) ∧ Hid (Rd.Turn m j s la) ∧ Hid (SoloB bl w wr b f (s, (ls, N)) g la)) (fun iv _ _ _ => M + 1 - (intOf iv).toNat)
    case atStart => exact ⟨0, N0, st0, _, f0, rfl, by omega, by omega, HTU, TB⟩
    case round =>
      clear HTU TB hmk
      obtain ⟨j, N, s, la, f, rfl, hj, hN, TU, T⟩ := hrel
      by_cases hlt : j < M
      · have t1 : decide ((j : Int) + 1 ≤ (M : Int)) = true := decide_eq_true (by omega)
        have hlen := TU.out.len
        have hnil : s.L ≠ [] := fun e => by rw [e] at hlen; simp at hlen; omega
        have HX := Lib.hid ((progComp probeOK lotsOK.ok.rep bl).next b f s ls N wr T.out.solo.one (by omega))
        have hnn := nextN_leP s N
        rw [show Rd.nextS s ls N = ⟨(Rd.again s ls N).L, (Rd.again s ls N).t + 1⟩ from if_neg hnil, show Rd.nextV s ls N = (Rd.again s ls N).L.getD (Rd.again s ls N).t 0 from if_neg hnil] at HX
        have htl := Rd.again_lt TU.out.ok hnil ls N
        have hal := Rd.again_len TU.out.ok ls N
        have TD := Lib.hid ((TU.out.again ls N).told (by omega))
        have HOKA := Lib.hid (Rd.again_OK TU.out.ok ls N)
        generalize Rd.again s ls N = sA at *
        generalize Rd.nextN s N = N' at *
        obtain ⟨L, t⟩ := sA
        dsimp only at *
        have hL : L.length = m := by omega
        have htm : t < m := by omega
        obtain ⟨x, hx⟩ : ∃ x, x = L.getD t 0 := ⟨_, rfl⟩
        rw [← hx] at HX TD
        have HXE := Lib.hid (show L[t]? = some x from by rw [hx, List.getD_eq_getElem?_getD, List.getElem?_eq_getElem (by omega)]; rfl)
        have HLL := Lib.hid hL
        have HLA := Lib.hid (TU.out.lal)
        have HN2 := Lib.hid (show N' ≤ 63 * (j + 1 + 1) by omega)
        clear hlen hnil hnn htl hal hx hL TU
        go_wp2_with (go_at_call 23; refine (HP2.out _).mono ?_; rintro e w' ⟨rfl, rfl⟩)
        refine HX.out.mono ?_
        rintro e Wa ⟨rfl, f1, hr, ht, hf⟩
        have TA := Lib.hid (T.out.step hr ht hf)
        clear hr ht hf HX T
        go_wp2_with fail
        refine (qc_order TA.out.solo.one).mono ?_
        rintro e Wb ⟨vo, rfl, ho, hb⟩
        obtain ⟨qo, co, hvo, _, hgo⟩ := ho.good (bd_of HOKA.out.may)
        rw [HLL.out] at hvo
        subst hvo
        have TB := Lib.hid (TA.out.on hb)
        obtain ⟨go, oo, rfl, hco⟩ := hgo.at_.addr (by rw [List.length_map, HLL.out]; omega)
        have d0 : Wb.cell? ⟨go, oo + t, none⟩ = some (v64 x) := hco t _ (by rw [List.getElem?_map, HXE.out]; rfl)
        have hx1 := TD.out.low
        have hx2 := TD.out.top
        obtain ⟨v, hv⟩ : ∃ v, v = Rd.lastOf la x := ⟨_, rfl⟩
        have d1 : Wb.cell? ⟨g, x.toNat, none⟩ = some (v64 v) := by
          rw [TB.out.blk.cell, List.getElem?_map, hv]
          unfold Rd.lastOf
          rw [List.getD_eq_getElem?_getD, List.getElem?_eq_getElem (by rw [HLA.out]; omega)]
          rfl
        have f1' : Wb.frozen? ⟨g, x.toNat, none⟩ = false := TB.out.blk.free _
        have hmod : Int.tmod (j : Int) (m : Int) = (t : Int) := by
          rw [Int.tmod_eq_emod_of_nonneg (by omega)]
          have h7 : j % m = t := TD.out.mod
          exact_mod_cast h7
        have hdv : 0 < v → ((j : Int) + 1) - v ≤ 2 * m - 1 := by rw [hv]; exact TD.out.div
        have hap : 0 < v → (v - 1) / (m : Int) ≠ (j : Int) / (m : Int) := fun h => by
          rw [hv]
          exact TD.out.apart (by rw [← hv]; exact h)
        have hdj : 0 ≤ (j : Int) / (m : Int) ∧ (j : Int) / (m : Int) ≤ j := ⟨Int.ediv_nonneg (by omega) (by omega), Int.ediv_le_self _ (by omega)⟩
        have hwj : wrap64 ((j : Int) / (m : Int)) = (j : Int) / (m : Int) := by
          have := IntWalk.i64_in ((j : Int) / (m : Int)) (by omega)
          simpa [IntKind.wrap_i64, wrap64] using this
        have hv0 : 0 ≤ v := by rw [hv]; exact TD.out.least
        have hvj : v ≤ j := by rw [hv]; exact TD.out.most
        have NX := Lib.hid TD.out.next
        have a1 : decide (x < 1) = false := decide_eq_false (by omega)
        have a2 : decide ((m : Int) < x) = false := decide_eq_false (by omega)
        have ix : 0 ≤ x ∧ x < (m : Int) + 1 := by omega
        have it1 : (0 : Int) ≤ (t : Int) ∧ (t : Int) < (m : Int) := by omega
        have w1 : IntKind.i64.wrap ((j : Int) + 1 - 1) = (j : Int) := by rw [IntWalk.i64_in _ (by omega)]; omega
        have w2 : IntKind.i64.wrap ((t : Int) + 1) = (t : Int) + 1 := IntWalk.i64_in _ (by omega)
        have w3 : IntKind.i64.wrap ((j : Int) + 1 + 1) = (j : Int) + 1 + 1 := IntWalk.i64_in _ (by omega)
        have mz : ((m : Int) == 0) = false := by rw [beq_eq_false_iff_ne]; omega
        obtain ⟨I, W, hC⟩ := cls_of Wb
        have hne : Nonempty I := hC.ne
        have e0 := hC.cell d0
        have e1 := hC.cell d1
        have QT := Lib.hid (hC.call (P := Try.prog) (f := 18) (args := #[optr b]) (v := v64 ((t : Int) + 1)) (fun w' hb => by
          have := qc_told (TB.out.on hb).solo.one
          exact this))
        have HC := Lib.hid hC
        have HDV := Lib.hid hdv
        have HAP := Lib.hid hap
        have HWJ := Lib.hid hwj
        have HV := Lib.hid hv
        clear ho hb hgo hco hC hdv hap hv hdj hwj TA TD HOKA HXE HLL
        by_cases hpos : 0 < v
        · have hd := HDV.out hpos
          have p1 : decide (0 < v) = true := decide_eq_true hpos
          have z4 : IntKind.i64.wrap ((j : Int) + 1 - v) = (j : Int) + 1 - v := IntWalk.i64_in _ (by omega)
          have z5 : IntKind.i64.wrap (2 * (m : Int)) = 2 * (m : Int) := IntWalk.i64_in _ (by omega)
          have z6 : IntKind.i64.wrap (2 * (m : Int) - 1) = 2 * (m : Int) - 1 := IntWalk.i64_in _ (by omega)
          have p2 : decide (2 * (m : Int) - 1 < (j : Int) + 1 - v) = false := decide_eq_false (by omega)
          have z7 : IntKind.i64.wrap (v - 1) = v - 1 := IntWalk.i64_in _ (by omega)
          have p3 : ((v - 1) / (m : Int) == wrap64 ((j : Int) / (m : Int))) = false := by rw [beq_eq_false_iff_ne, HWJ.out]; exact HAP.out hpos
          clear hd
          go_wp2_with fail
          refine wp_region_cls W (by kernel_rfl) (by kernel_rfl) HC.out.one ?_
          repeat go_big_quiet_step ((go_at_call 18; exact QT.out _))
          refine wpQuiet_nil ?_
          rintro _ ⟨mm, rfl⟩
          have T5 := Lib.hid (TB.out.on (HC.out.back mm))
          have d5 : (W mm).cell? ⟨g, x.toNat, none⟩ = some (v64 v) := e1 mm
          clear e0 e1 QT HC TB d0 d1 f1'
          generalize W mm = w5 at *
          clear W hne
          go_wp2_with fail
          go_quiet (fail)
          have T6 := Lib.hid (T5.out.on (below_drewN (Below.refl _ _) nq))
          have d6 : (w5.drewN nq).cell? ⟨g, x.toNat, none⟩ = some (v64 v) := d5
          have f6 : (w5.drewN nq).frozen? ⟨g, x.toNat, none⟩ = false := T6.out.blk.free _
          clear d5 T5
          generalize w5.drewN nq = w6 at *
          have T7 := Lib.hid (T6.out.set x.toNat ((j : Int) + 1))
          clear T6
          go_wp2_with fail
          exact ⟨⟨j + 1, N', ⟨L, t + 1⟩, la.set x.toNat ((j : Int) + 1), f1, by go_num, by omega, HN2.out, NX, T7⟩, by simp [intOf]; omega⟩
        · have p1 : decide (0 < v) = false := decide_eq_false hpos
          go_wp2_with fail
          refine wp_region_cls W (by kernel_rfl) (by kernel_rfl) HC.out.one ?_
          repeat go_big_quiet_step ((go_at_call 18; exact QT.out _))
          refine wpQuiet_nil ?_
          rintro _ ⟨mm, rfl⟩
          have T5 := Lib.hid (TB.out.on (HC.out.back mm))
          have d5 : (W mm).cell? ⟨g, x.toNat, none⟩ = some (v64 v) := e1 mm
          clear e0 e1 QT HC TB d0 d1 f1'
          generalize W mm = w5 at *
          clear W hne
          go_wp2_with fail
          go_quiet (fail)
          have T6 := Lib.hid (T5.out.on (below_drewN (Below.refl _ _) nq))
          have d6 : (w5.drewN nq).cell? ⟨g, x.toNat, none⟩ = some (v64 v) := d5
          have f6 : (w5.drewN nq).frozen? ⟨g, x.toNat, none⟩ = false := T6.out.blk.free _
          clear d5 T5
          generalize w5.drewN nq = w6 at *
          have T7 := Lib.hid (T6.out.set x.toNat ((j : Int) + 1))
          clear T6
          go_wp2_with fail
          go_roundw
          case rel => exact ⟨j + 1, N', ⟨L, t + 1⟩, la.set x.toNat ((j : Int) + 1), f1, by go_num, by omega, HN2.out, NX, T7⟩
          case measure => simp [intOf]; omega
      · obtain rfl : j = M := by omega
        have t1 : decide ((j : Int) + 1 ≤ (j : Int)) = false := decide_eq_false (by omega)
        go_wp2_with (go_at_call 23; refine (HP2.out _).mono ?_; rintro e w' ⟨rfl, rfl⟩)
        go_ret
        exact ⟨rfl, T.out.solo.below⟩
  · have HZ := Lib.hid hz
    have B1 := Lib.hid (below_next BK.out hb1)
    obtain ⟨er, her⟩ : ∃ x, x = newErr ls := ⟨_, rfl⟩
    rw [← her]
    have hne : (er == 0) = false := by rw [beq_eq_false_iff_ne, her]; exact hz
    clear her hz hb1
    go_wp2_with fail
    go_ret
    exact ⟨rfl, B1.out⟩
end Go.Proofs.Ytfoomffbjjcjjaa
