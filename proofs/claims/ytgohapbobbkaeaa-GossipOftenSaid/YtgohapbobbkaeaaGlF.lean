/-
  The law GossipOften.
-/
import Derived.Test.YtgohapbobbkaeaaGlE
import Derived.Test.YtgohapbobbkaeaaPick
import Derived.Deep.OwnRows
import Derived.RegionTactic
import Derived.Deep.DeepCutAuto
import Derived.BigRegion
namespace Go.Proofs.Ytgohapbobbkaeaa
set_option linter.unusedSimpArgs false
set_option linter.unusedVariables false
open Go.RowKit Sha
/-- One object, and two blocks that are not its own. -/
structure SoloC {S : Type} (R : ObjRep S) (w0 w : World) (b : Nat) (fp : List Nat) (s : S) (g1 : Nat) (c1 : List Value) (t1 : TypeId) (g2 : Nat) (c2 : List Value) (t2 : TypeId) : Prop where
  solo : Solo R w0 w b fp s
  k1 : Blk w g1 c1 t1
  k2 : Blk w g2 c2 t2
  o1 : g1 ∉ fp
  o2 : g2 ∉ fp
  n1 : w0.heap.size ≤ g1
  n2 : w0.heap.size ≤ g2
  ne : g1 ≠ g2
section
variable {S : Type} {R : ObjRep S} {w0 w w' : World} {b g1 g2 : Nat} {fp fp' : List Nat} {s s' : S} {c1 c2 : List Value} {t1 t2 : TypeId}
theorem SoloC.on (K : Held R) (h : SoloC R w0 w b fp s g1 c1 t1 g2 c2 t2) (hb : Below w.heap.size w w') : SoloC R w0 w' b fp s g1 c1 t1 g2 c2 t2 := ⟨h.solo.on K hb, h.k1.upon hb, h.k2.upon hb, h.o1, h.o2, h.n1, h.n2, h.ne⟩
theorem SoloC.step (h : SoloC R w0 w b fp s g1 c1 t1 g2 c2 t2) (hr : R w' b fp' s') (ht : Touch fp w w') (hf : From fp fp' w) : SoloC R w0 w' b fp' s' g1 c1 t1 g2 c2 t2 :=
  ⟨h.solo.step hr ht hf, (ht.block g1 h.k1.lt h.o1).trans h.k1, (ht.block g2 h.k2.lt h.o2).trans h.k2, fun e => (hf g1 e).elim h.o1 (fun h2 => by have := h.k1.lt; omega), fun e => (hf g2 e).elim h.o2 (fun h2 => by have := h.k2.lt; omega), h.n1, h.n2, h.ne⟩
theorem SoloC.set1 (K : Held R) (h : SoloC R w0 w b fp s g1 c1 t1 g2 c2 t2) (i : Nat) (v : Value) : SoloC R w0 (w.setCell ⟨g1, i, none⟩ v) b fp s g1 (c1.set i v) t1 g2 c2 t2 :=
  ⟨⟨K.keep h.solo.one fun k e => Below.heap_setCell _ _ _ _ (fun e2 => h.o1 ((show k = g1 from e2) ▸ e)), h.solo.new, Below.setCell h.solo.below h.n1 _⟩, h.k1.set i v, h.k2.setOther _ _ (fun e => h.ne e.symm), h.o1, h.o2, h.n1, h.n2, h.ne⟩
theorem SoloC.set2 (K : Held R) (h : SoloC R w0 w b fp s g1 c1 t1 g2 c2 t2) (i : Nat) (v : Value) : SoloC R w0 (w.setCell ⟨g2, i, none⟩ v) b fp s g1 c1 t1 g2 (c2.set i v) t2 :=
  ⟨⟨K.keep h.solo.one fun k e => Below.heap_setCell _ _ _ _ (fun e2 => h.o2 ((show k = g2 from e2) ▸ e)), h.solo.new, Below.setCell h.solo.below h.n2 _⟩, h.k1.setOther _ _ (fun e => h.ne e), h.k2.set i v, h.o1, h.o2, h.n1, h.n2, h.ne⟩
end
theorem SoloC.swap {S : Type} {R : ObjRep S} {w0 w : World} {b g1 g2 : Nat} {fp : List Nat} {s : S} {c1 c2 : List Value} {t1 t2 : TypeId} (h : SoloC R w0 w b fp s g1 c1 t1 g2 c2 t2) : SoloC R w0 w b fp s g2 c2 t2 g1 c1 t1 := ⟨h.solo, h.k2, h.k1, h.o2, h.o1, h.n2, h.n1, fun e => h.ne e.symm⟩
theorem SoloC.made {S : Type} {R : ObjRep S} {w0 w : World} {b : Nat} {fp : List Nat} {s : S} (K : Held R) (h : Solo R w0 w b fp s) (c1 : Array Value) (t1 : TypeId) (c2 : Array Value) (t2 : TypeId) : SoloC R w0 ((w.alloc (.cells c1 t1)).alloc (.cells c2 t2)).drew b fp s w.heap.size c1.toList t1 (w.heap.size + 1) c2.toList t2 := by
  have hb : Below w.heap.size w ((w.alloc (.cells c1 t1)).alloc (.cells c2 t2)).drew := (((Below.refl w.heap.size w).alloc (Nat.le_refl _) _).alloc (by simp) _).drew
  have k2 := Blk.new (w.alloc (.cells c1 t1)) c2 t2
  rw [World.size_alloc] at k2
  exact ⟨h.on K hb, ((Blk.new w c1 t1).old (.cells c2 t2)).drew, k2.drew, fun e => Nat.lt_irrefl _ (K.low h.one _ e), fun e => by have := K.low h.one _ e; omega, h.below.size, Nat.le_succ_of_le h.below.size, by omega⟩
theorem infoNg : (Try.prog.info? 3).map (fun i => (i.zero, i.size, i.bytes)) = some (some (Value.int .i64 0), 1, 8) := by kernel_rfl
theorem infoBg : (Try.prog.info? 4).map (fun i => (i.zero, i.size, i.bytes)) = some (some (Value.bool false), 1, 1) := by kernel_rfl
theorem madeNg (n : Nat) : (madeCells #[(Value.int .i64 0)] n).toList = ncs (List.replicate n 0) := by
  apply List.ext_getElem?
  intro i
  by_cases hi : i < n
  · simp [madeCells, hi, Nat.mod_one]; try rfl
  · simp [madeCells, hi]
theorem madeBg (n : Nat) : (madeCells #[(Value.bool false)] n).toList = bcs (List.replicate n false) := by
  apply List.ext_getElem?
  intro i
  by_cases hi : i < n
  · simp [madeCells, hi, Nat.mod_one]; try rfl
  · simp [madeCells, hi]
theorem GoodN.at_k {w : World} {xs : List Int} {p : Option Addr} {c : Nat} (h : GoodN w xs p c) (k : Nat) (hk : k < xs.length) : ∃ g off, p = some ⟨g, off, none⟩ ∧ ∀ W, Below w.heap.size w W → W.cell? ⟨g, off + k, none⟩ = some (.int .i64 xs[k]) := by
  obtain ⟨g, off, hp, hc⟩ := h.at_.addr (by rw [List.length_map]; omega)
  refine ⟨g, off, hp, fun W hb => ?_⟩
  have := hc k _ (by rw [List.getElem?_map, List.getElem?_eq_getElem hk]; rfl)
  exact (hb.cell (World.block_lt_of_cell? w _ this)).trans this
theorem Gs.incs_le (ms : List Mb) : ∀ (ct : List Nat) (i : Nat), i < ct.length → (Gs.incs ct ms).getD i 0 ≤ ct.getD i 0 + ms.length := by
  induction ms with
  | nil => intro ct i _; exact Nat.le_refl _
  | cons m ms ih =>
    intro ct i hi
    have h1 := ih (Gs.inc ct m) i (by rw [Gs.inc_len]; exact hi)
    rw [Gs.inc_get ct m i hi] at h1
    show (Gs.incs (Gs.inc ct m) ms).getD i 0 ≤ _
    rw [List.length_cons]
    split at h1 <;> omega
/-- A list told, apart from the counts. -/
structure ToldAt (w : World) (ms : List Mb) (q : Option Addr) (gi : Nat) : Prop where
  at_ : At w q (ms.flatMap mc)
  out : ∀ a, q = some a → a.block ≠ gi
theorem ToldAt.get {w : World} {ms : List Mb} {q : Option Addr} {gi : Nat} (h : ToldAt w ms q gi) (j : Nat) (hj : j < ms.length) : ∃ g off, q = some ⟨g, off, none⟩ ∧ w.cell? ⟨g, off + j * 3, none⟩ = some (.int .i64 ms[j].I) := by
  obtain ⟨g, off, hq, hc⟩ := h.at_.addr (by rw [wflat_length]; omega)
  exact ⟨g, off, hq, hc (j * 3) _ (by have := wflat_get ms j hj 0 (by omega); rw [Nat.add_zero] at this; rw [this]; rfl)⟩
theorem ToldAt.set {w : World} {ms : List Mb} {q : Option Addr} {gi : Nat} (h : ToldAt w ms q gi) (i : Nat) (v : Value) : ToldAt (w.setCell ⟨gi, i, none⟩ v) ms q gi :=
  ⟨h.at_.blocks fun a e => Below.heap_setCell _ _ _ _ (h.out a e), h.out⟩
theorem ncs_set (ct : List Nat) (i v : Nat) : (ncs ct).set i (.int .i64 (v : Int)) = ncs (ct.set i v) := by
  rw [ncs, ncs, List.map_set]
theorem bcs_set (tb : List Bool) (i : Nat) (v : Bool) : (bcs tb).set i (.bool v) = bcs (tb.set i v) := by
  rw [bcs, bcs, List.map_set]
section
attribute [local go_sem ↓] execOp_loadM execOp_storeM execOp_eqlM execOp_buildM
set_option maxRecDepth 100000 in
set_option maxHeartbeats 16000000 in
theorem goften_any {R : GRepT} (F : PGossip R) (nd : Int) (who : List Int) (nw : Nat) (pw : Option Addr) (cw : Nat) (por : List Int) (np : Nat) (pp : Option Addr) (cp : Nat) (w : World) (hnd : -9223372036854775808 ≤ nd ∧ nd ≤ 9223372036854775807) (hw : who.length = nw) (hgw : GoodN w who pw cw) (hp : por.length = np) (hgp : GoodN w por pp cp) :
    Calls Try.prog 6 #[v64 nd, .slice pw nw cw, .slice pp np cp] w (BoolDone true w) := by
  have HK := Lib.hid F.held
  have HW := Lib.hid hgw
  have HP := Lib.hid hgp
  have HWN := Lib.hid hw
  have HPN := Lib.hid hp
  have cw1 := hgw.le
  have cw2 := hgw.max
  have cp1 := hgp.le
  have cp2 := hgp.max
  rw [hw] at cw1
  rw [hp] at cp1
  have HWB := Lib.hid hgw.nums
  have HPB := Lib.hid hgp.nums
  clear hgw hgp hw hp
  obtain ⟨N, hN⟩ : ∃ N : Nat, (N : Int) = 1 + pickOf nd 64 := ⟨(1 + pickOf nd 64).toNat, by have := pickOf_bd nd 64 (by omega); omega⟩
  have hN2 : 1 ≤ N ∧ N ≤ 64 := by have := pickOf_bd nd 64 (by omega); omega
  have HPK := Lib.hid (fun w => pick_any nd 64 w (by omega) (by omega) hnd)
  have hN3 : IntKind.i64.wrap (1 + pickOf nd 64) = (N : Int) := by rw [← hN]; exact IntWalk.i64_in _ (by omega)
  generalize pickOf nd 64 = pk at *
  have hNe : 1 + pk = (N : Int) := hN.symm
  clear hN hnd
  go_enter Try.func6, Try.ntmps6
  go_wp2_with fail
  refine (gknown_any F w).mono ?_
  rintro e w1 ⟨rfl, hb1⟩
  have B1 := Lib.hid hb1
  clear hb1
  go_wp2_with fail
  refine (HPK.out _).mono ?_
  rintro e w2 ⟨rfl, hw2⟩
  obtain rfl := hw2
  go_wp2_with fail
  refine (F.new N w1 (by omega)).mono ?_
  rintro e w2 ⟨hb2, ⟨_, b, fp, rfl, hr, hfn⟩ | ⟨hz, _⟩⟩
  rotate_left
  · exact absurd ⟨by omega, by omega⟩ hz
  rw [Int.toNat_natCast] at hr
  have S2 := Lib.hid (show Solo R w w2 b fp (N, []) from ⟨hr, fun k hk => Nat.le_trans B1.out.size (hfn k hk), below_next B1.out hb2⟩)
  clear hb2 hr hfn B1 HPK hN3 hNe
  by_cases hb1 : 20 < nw
  · go_wp2_with fail
    go_ret
    exact ⟨rfl, S2.out.below⟩
  by_cases hb2 : 300 < np
  · go_wp2_with fail
    go_ret
    exact ⟨rfl, S2.out.below⟩
  have mkB := run_make_row' (P := Try.prog) 54 4 (Value.bool false) 1 Try.underlying54 infoBg rfl .i64 .i64 (N + 1) (by omega) (by omega)
  have mkN := run_make_row' (P := Try.prog) 52 3 (Value.int .i64 0) 8 Try.underlying52 infoNg rfl .i64 .i64 (N + 1) (by omega) (by omega)
  have iN : IntKind.i64.wrap ((N : Int) + 1) = (N : Int) + 1 := IntWalk.i64_in _ (by omega)
  rw [show ((N + 1 : Nat) : Int) = (N : Int) + 1 by omega] at mkB mkN
  go_upto_region 8 with fail
  go_cut [10, 11] (fun s10 s11 wx => ∃ g1 g2 : Nat, s10 = .slice (some ⟨g1, 0, none⟩) (N + 1) (N + 1) ∧ s11 = .slice (some ⟨g2, 0, none⟩) (N + 1) (N + 1) ∧ Hid (SoloC R w wx b fp (N, []) g1 (bcs (List.replicate (N + 1) false)) 4 g2 (ncs (List.replicate (N + 1) 0)) 3))
  case first =>
    go_region
    all_goals go_wp2_with fail
    all_goals go_meet
    · exact ⟨_, _, rfl, rfl, Lib.hid (by have := SoloC.made HK.out S2.out (madeCells #[(Value.bool false)] (N + 1)) 4 (madeCells #[(Value.int .i64 0)] (N + 1)) 3; rw [madeBg, madeNg] at this; exact this)⟩
    · exact ⟨_, _, rfl, rfl, Lib.hid (by have := (SoloC.made HK.out S2.out (madeCells #[(Value.int .i64 0)] (N + 1)) 3 (madeCells #[(Value.bool false)] (N + 1)) 4).swap; rw [madeBg, madeNg] at this; exact this)⟩
  case rest =>
    obtain ⟨g1, g2, rfl, rfl, HS⟩ := hcut
    rename World => wc
    have BE0 := Lib.hid (Gs.Be.nil hN2.1 hN2.2)
    clear mkB mkN iN S2
    go_wp2_with fail
    go_loopw [13, 12] (fun iv mw wr => ∃ (k : Nat) (fp : List Nat) (tb : List Bool) (T : List Tl), iv = .int .i64 k ∧ mw = .int .i64 (T.length : Nat) ∧ k ≤ nw ∧ T.length ≤ k ∧ Hid (Gs.Be N tb T) ∧ Hid (SoloC R w wr b fp (N, T) g1 (bcs tb) 4 g2 (ncs (List.replicate (N + 1) 0)) 3)) (fun iv _ _ => nw - (intOf iv).toNat)
    case atStart => exact ⟨0, fp, _, [], rfl, rfl, by omega, by simp, BE0, HS⟩
    case round =>
      clear HS BE0
      obtain ⟨k, fp, tb, T, rfl, rfl, hk, hTk, HBE, HS⟩ := hrel
      obtain ⟨tl, htl⟩ : ∃ y, y = T.length := ⟨_, rfl⟩
      rw [← htl] at hTk ⊢
      have HTL := Lib.hid htl
      clear htl
      by_cases hlt : k < nw
      · have hk1 : k < who.length := by rw [HWN.out]; exact hlt
        obtain ⟨ga, off, rfl, hcell⟩ := HW.out.at_k k hk1
        have c0 := hcell wr HS.out.solo.below
        have hxb := HWB.out who[k] (List.getElem_mem hk1)
        generalize who[k] = x at *
        obtain ⟨n, hn⟩ : ∃ n : Nat, (n : Int) = 1 + pickOf x N := ⟨(1 + pickOf x N).toNat, by have := pickOf_bd x N (by omega); omega⟩
        have hn2 : 1 ≤ n ∧ n ≤ N := by have := pickOf_bd x N (by omega); omega
        have HPK := Lib.hid (fun w => pick_any x N w (by omega) (by omega) hxb)
        have hn3 : IntKind.i64.wrap (1 + pickOf x N) = (n : Int) := by rw [← hn]; exact IntWalk.i64_in _ (by omega)
        generalize pickOf x N = pk at *
        have hne : 1 + pk = (n : Int) := hn.symm
        obtain ⟨had, hbe2, hlen⟩ := HBE.out.add hn2.1 hn2.2
        obtain ⟨z, hz⟩ : ∃ z, z = tb.getD n false := ⟨_, rfl⟩
        rw [← hz] at had hlen
        obtain ⟨T2, hT2⟩ : ∃ y, y = (Gs.add N T ⟨n, 1, 0⟩).1 := ⟨_, rfl⟩
        have HAD := Lib.hid (fun W fp h => adds_any F b fp N T ⟨n, 1, 0⟩ (!z) W h had)
        rw [← hT2] at HAD hbe2 hlen
        rw [← HTL.out] at hlen
        have HB2 := Lib.hid hbe2
        have HLN := Lib.hid hlen
        have HCZ := Lib.hid (fun W t (h : Blk W g1 (bcs tb) t) => (show W.cell? ⟨g1, n, none⟩ = some (.bool z) from (h.cell n).trans (by rw [hz]; exact bcs_get tb n (by rw [HBE.out.lb]; omega))))
        have jn : (0 : Int) ≤ (n : Int) ∧ (n : Int) < (N : Int) + 1 := by omega
        have jn2 : (n : Int) < ((N + 1 : Nat) : Int) := by omega
        have jk : (0 : Int) ≤ (k : Int) ∧ (k : Int) < (nw : Int) := by omega
        clear hn hbe2 hlen hz hT2 hcell hk1 hxb had HBE
        go_wp2_with fail
        refine (HPK.out _).mono ?_
        rintro e wx ⟨rfl, hwx⟩
        obtain rfl := hwx
        clear c0
        obtain ⟨I, W, hC⟩ := cls_of wr
        have hne2 : Nonempty I := hC.ne
        have d1 := hC.cell (HCZ.out wr _ HS.out.k1)
        have QO := Lib.hid (hC.call (P := Try.prog) (f := 21) (args := #[.int .i64 n, .int .i64 1, .int .i64 0]) (v := mv ⟨n, 1, 0⟩) (fun w' hb => gof_any n 1 0 w'))
        have HC := Lib.hid hC
        clear hC
        go_wp2_with fail
        refine region_cls_tail W 8 (by kernel_rfl) (by kernel_rfl) HC.out.one ?_
        simp only [List.take_succ_cons, List.take_zero, List.drop_succ_cons, List.drop_zero]
        repeat go_big_quiet_step ((go_at_call 21; exact QO.out _))
        refine wpQuiet_nil ?_
        rintro _ ⟨mm, rfl⟩
        have S2 := Lib.hid (HS.out.on HK.out (HC.out.back mm))
        clear HS QO HC d1
        generalize W mm = w3 at *
        clear W hne2
        go_wp2_with fail
        refine (HAD.out _ _ S2.out.solo.one).mono ?_
        rintro e w4 ⟨rfl, fp2, hr, ht, hf⟩
        have S4 := Lib.hid (S2.out.step (s' := (N, T2)) hr ht hf)
        clear hr ht hf S2 HAD
        have c4 := HCZ.out w4 _ S4.out.k1
        have f4 : w4.frozen? ⟨g1, n, none⟩ = false := S4.out.k1.free n
        have S5 := Lib.hid (show SoloC R w (w4.setCell ⟨g1, n, none⟩ (.bool true)) b fp2 (N, T2) g1 (bcs (tb.set n true)) 4 g2 (ncs (List.replicate (N + 1) 0)) 3 from by have := S4.out.set1 HK.out n (.bool true); rwa [bcs_set] at this)
        clear S4 HCZ
        cases z with
        | false =>
          have hL2 : T2.length = tl + 1 := by rw [HLN.out]; rfl
          have i1 : IntKind.i64.wrap ((tl : Int) + 1) = (tl : Int) + 1 := IntWalk.i64_in _ (by omega)
          clear HLN
          have HL2 := Lib.hid hL2
          clear hL2
          go_wp2_with fail
          go_roundw
          case rel => exact ⟨k + 1, fp2, _, T2, by go_num, by rw [HL2.out]; rfl, by omega, by rw [HL2.out]; omega, HB2, S5⟩
          case measure => simp [intOf]; omega
        | true =>
          have HL2 := Lib.hid (show T2.length = tl by rw [HLN.out]; rfl)
          clear HLN
          go_wp2_with fail
          go_roundw
          case rel => exact ⟨k + 1, fp2, _, T2, by go_num, by rw [HL2.out], by omega, by rw [HL2.out]; omega, HB2, S5⟩
          case measure => simp [intOf]; omega
      · obtain rfl : k = nw := by omega
        have hlim := Gs.lim_le hN2.2
        have hlim0 := Gs.lim_pos hN2.1 hN2.2
        have hmul : tl * Gs.lim N ≤ 20 * 21 := Nat.mul_le_mul (by omega) hlim
        obtain ⟨R0, hR0⟩ : ∃ y, y = tl * Gs.lim N := ⟨_, rfl⟩
        have HR0 := Lib.hid (show R0 = Gs.rest (Gs.lim N) T from by rw [hR0, HTL.out]; exact (Gs.rest_new T fun x hx => (HBE.out.a x hx).1).symm)
        have EV0 := Lib.hid HBE.out.ev
        have iM : IntKind.i64.wrap ((tl : Int) * (Gs.lim N : Int)) = (R0 : Int) := by rw [hR0, Int.natCast_mul]; exact IntWalk.i64_in _ (by rw [← Int.natCast_mul]; omega)
        have iM2 : (tl : Int) * (Gs.lim N : Int) = (R0 : Int) := by rw [hR0, Int.natCast_mul]
        have hR420 : R0 ≤ 420 := by omega
        have HLM := Lib.hid (F.lim b fp N T wr HS.out.solo.one)
        have HLIM := Lib.hid (fun W fp T (h : R W b fp (N, T)) => F.lim b fp N T W h)
        obtain ⟨L, hL⟩ : ∃ L, L = Gs.lim N := ⟨_, rfl⟩
        rw [← hL] at HLM HLIM hlim hlim0 HR0 iM iM2
        have HL := Lib.hid hL
        clear hR0 HBE hmul hL HTL
        go_wp2_with fail
        refine HLM.out.mono ?_
        rintro e _ ⟨rfl, kl, rfl⟩
        have S1 := Lib.hid (HS.out.on HK.out (below_drewN (Below.refl _ _) kl))
        clear HS HLM
        generalize wr.drewN kl = wl at *
        go_wp2_with fail
        go_loopw [15, 16] (fun lv iv wr => ∃ (R0 k : Nat) (fp : List Nat) (T : List Tl) (ct : List Nat), lv = .int .i64 R0 ∧ iv = .int .i64 k ∧ R0 ≤ 420 ∧ (k ≤ np ∨ k + R0 ≤ np + 420) ∧ Hid (R0 = Gs.rest L T) ∧ Hid (Gs.Ev N tb T ct) ∧ Hid (SoloC R w wr b fp (N, T) g1 (bcs tb) 4 g2 (ncs ct) 3)) (fun lv iv _ => (np - (intOf iv).toNat) + (intOf lv).toNat)
        case atStart => exact ⟨R0, 0, fp, T, _, rfl, rfl, by omega, .inl (by omega), HR0, EV0, S1⟩
        case round =>
          clear S1 HR0 EV0 iM iM2 hR420 hTk hk
          obtain ⟨R0, k2, fp, T, ct, rfl, rfl, hR, hkb, HRE, HEV, S⟩ := hrel
          by_cases hkp : k2 < np
          · have hk1 : k2 < por.length := by rw [HPN.out]; exact hkp
            obtain ⟨ga, off, rfl, hcell⟩ := HP.out.at_k k2 hk1
            have c0 := hcell wr S.out.solo.below
            have hxb := HPB.out por[k2] (List.getElem_mem hk1)
            generalize por[k2] = x at *
            obtain ⟨n, hn⟩ : ∃ n : Nat, (n : Int) = pickOf x 17 := ⟨(pickOf x 17).toNat, by have := pickOf_bd x 17 (by omega); omega⟩
            have hn2 : n ≤ 16 := by have := pickOf_bd x 17 (by omega); omega
            have HPK := Lib.hid (fun w => pick_any x 17 w (by omega) (by omega) hxb)
            rw [← hn] at HPK
            have jk : (0 : Int) ≤ (k2 : Int) ∧ (k2 : Int) < (np : Int) := by omega
            have tkp : decide ((k2 : Int) < (np : Int)) = true := decide_eq_true (by omega)
            clear hn hcell hk1 hxb
            go_wp2_with fail
            refine (HPK.out _).mono ?_
            rintro e wx ⟨rfl, hwx⟩
            obtain rfl := hwx
            clear c0 HPK tkp
            have HMOK := Lib.hid (show ∀ y ∈ Gs.told T n, y.ok from fun y hy => by
              obtain ⟨x, hx, rfl⟩ := List.mem_map.1 hy
              exact (HEV.out.ok.may x (List.mem_of_mem_take hx)).1.ok)
            have HMX := Lib.hid (show ∀ y ∈ Gs.told T n, ∃ i : Nat, y.I = (i : Int) ∧ 1 ≤ i ∧ i ≤ N ∧ tb.getD i false = true from fun y hy => by
              obtain ⟨x, hx, rfl⟩ := List.mem_map.1 hy
              have hxT := List.mem_of_mem_take hx
              have h1 := HEV.out.ok.may x hxT
              exact ⟨x.m.I.toNat, by have := h1.1.1.1; omega, by have := h1.1.1.1; omega, by have := h1.2.1; omega, (HEV.out.a x hxT).1⟩)
            have hml := Gs.told_len T n
            have hrl := Gs.rest_left HEV.out.ok n
            rw [← HL.out, ← HRE.out] at hrl
            have hmn : (Gs.cnt n T.length : Int) ≤ n := by unfold Gs.cnt; omega
            have hm0 : Gs.cnt n T.length = 0 → (n : Int) = 0 ∨ R0 = 0 := fun h => by
              by_cases hT : T.length = 0
              · right
                have : T = [] := List.eq_nil_of_length_eq_zero hT
                rw [HRE.out, this]; rfl
              · left; unfold Gs.cnt at h; omega
            obtain ⟨m, hm⟩ : ∃ m, m = Gs.cnt n T.length := ⟨_, rfl⟩
            rw [← hm] at hml hrl hmn hm0
            have EV2 := Lib.hid (HEV.out.take n)
            obtain ⟨R2, hR2⟩ : ∃ y, y = Gs.rest L (Gs.left N T n) := ⟨_, rfl⟩
            rw [← hR2] at hrl
            have HR2 := Lib.hid hR2
            have HTK := Lib.hid (F.take b fp N T n wr S.out.solo.one (by omega))
            obtain ⟨T2, hT2⟩ : ∃ y, y = Gs.left N T n := ⟨_, rfl⟩
            obtain ⟨ms, hms⟩ : ∃ y, y = Gs.told T n := ⟨_, rfl⟩
            unfold GTakeDone at HTK
            rw [← hT2] at EV2 HTK HR2
            rw [← hms] at HMOK HMX hml EV2 HTK
            have HML := Lib.hid hml
            rw [hml] at HTK
            clear hm hR2 hT2 hms hml
            go_wp2_with fail
            refine HTK.out.mono ?_
            rintro e w3 ⟨v, fp3, rfl, ho, hr, ht, hf, hnf⟩
            have hg2 := S.out.k2.lt
            obtain ⟨q, c, rfl, _, hg⟩ := own_goodM ho HMOK.out
            have TA := Lib.hid (show ToldAt w3 ms q g2 from ⟨hg.at_, fun a e h => by have := (own_base_w ho a.block (by rw [e]; rfl)).1; omega⟩)
            have S3 := Lib.hid (S.out.step (s' := (N, T2)) hr ht hf)
            have gl1 := hg.le
            have gl2 := hg.max
            rw [HML.out] at gl1
            clear ho hr ht hf hnf hg hg2 HTK S
            have tg : decide (n < (m : Int)) = false := decide_eq_false (by omega)
            have tg2 : decide (n < m) = false := decide_eq_false (by omega)
            by_cases hmz : m = 0
            · have tm : ((m : Int) == 0) = true := by rw [hmz]; rfl
              by_cases hnz : n = 0
              · have tn : decide ((0 : Int) < (n : Int)) = false := decide_eq_false (by omega)
                have tn2 : decide (0 < n) = false := decide_eq_false (by omega)
                clear hm0
                go_wp2_with fail
                go_loopw [15, 19] (fun lv jv wr => ∃ j : Nat, lv = .int .i64 ((R0 : Int) - j) ∧ jv = .int .i64 j ∧ j ≤ m ∧ Hid (SoloC R w wr b fp3 (N, T2) g1 (bcs tb) 4 g2 (ncs (Gs.incs ct (ms.take j))) 3) ∧ Hid (ToldAt wr ms q g2)) (fun _ jv _ => m - (intOf jv).toNat)
                case atStart => exact ⟨0, by first | (simp; done) | (simp; omega), rfl, by omega, S3, TA⟩
                case round =>
                  clear S3 TA
                  obtain ⟨j, rfl, rfl, hj, S3, TA⟩ := hrel
                  by_cases hjm : j < m
                  · exact absurd hjm (by omega)
                  · obtain rfl : j = m := by omega
                    obtain ⟨c9, hc9, hall⟩ := EV2.out.c
                    have hms : ms.take j = ms := List.take_of_length_le (by rw [HML.out]; exact Nat.le_refl _)
                    rw [hms] at S3
                    have HEVN := Lib.hid (even_any tb (Gs.incs ct ms) (N + 1) c9 g1 g2 _ _ wr EV2.out.lb EV2.out.lo (by omega) hc9 hall S3.out.k1 S3.out.k2)
                    have hRe : (R0 : Int) - (j : Int) = (R2 : Int) := by omega
                    rw [hRe]
                    have iK : IntKind.i64.wrap ((k2 : Int) + 1) = (k2 : Int) + 1 := IntWalk.i64_in _ (by omega)
                    clear hall hms TA
                    go_wp2_with fail
                    refine HEVN.out.mono ?_
                    rintro e w5 ⟨rfl, hb5⟩
                    have S6 := Lib.hid (S3.out.on HK.out hb5)
                    clear hb5 S3 HEVN
                    go_wp2_with fail
                    go_roundw
                    case rel => exact ⟨R2, k2 + 1, fp3, T2, _, rfl, by go_num, by omega, by omega, HR2, EV2, S6⟩
                    case measure => simp [intOf]; omega
              · have tn : decide ((0 : Int) < (n : Int)) = true := decide_eq_true (by omega)
                have tn2 : decide (0 < n) = true := decide_eq_true (by omega)
                have hR0z : R0 = 0 := (hm0 hmz).resolve_left (by omega)
                have tr : decide ((0 : Int) < (R0 : Int)) = false := decide_eq_false (by omega)
                have tr2 : decide (0 < R0) = false := decide_eq_false (by omega)
                clear hm0
                go_wp2_with fail
                go_loopw [15, 19] (fun lv jv wr => ∃ j : Nat, lv = .int .i64 ((R0 : Int) - j) ∧ jv = .int .i64 j ∧ j ≤ m ∧ Hid (SoloC R w wr b fp3 (N, T2) g1 (bcs tb) 4 g2 (ncs (Gs.incs ct (ms.take j))) 3) ∧ Hid (ToldAt wr ms q g2)) (fun _ jv _ => m - (intOf jv).toNat)
                case atStart => exact ⟨0, by first | (simp; done) | (simp; omega), rfl, by omega, S3, TA⟩
                case round =>
                  clear S3 TA
                  obtain ⟨j, rfl, rfl, hj, S3, TA⟩ := hrel
                  by_cases hjm : j < m
                  · exact absurd hjm (by omega)
                  · obtain rfl : j = m := by omega
                    obtain ⟨c9, hc9, hall⟩ := EV2.out.c
                    have hms : ms.take j = ms := List.take_of_length_le (by rw [HML.out]; exact Nat.le_refl _)
                    rw [hms] at S3
                    have HEVN := Lib.hid (even_any tb (Gs.incs ct ms) (N + 1) c9 g1 g2 _ _ wr EV2.out.lb EV2.out.lo (by omega) hc9 hall S3.out.k1 S3.out.k2)
                    have hRe : (R0 : Int) - (j : Int) = (R2 : Int) := by omega
                    rw [hRe]
                    have iK : IntKind.i64.wrap ((k2 : Int) + 1) = (k2 : Int) + 1 := IntWalk.i64_in _ (by omega)
                    clear hall hms TA
                    go_wp2_with fail
                    refine HEVN.out.mono ?_
                    rintro e w5 ⟨rfl, hb5⟩
                    have S6 := Lib.hid (S3.out.on HK.out hb5)
                    clear hb5 S3 HEVN
                    go_wp2_with fail
                    go_roundw
                    case rel => exact ⟨R2, k2 + 1, fp3, T2, _, rfl, by go_num, by omega, by omega, HR2, EV2, S6⟩
                    case measure => simp [intOf]; omega
            · have tm : ((m : Int) == 0) = false := by rw [beq_eq_false_iff_ne]; omega
              clear hm0
              go_wp2_with fail
              go_loopw [15, 19] (fun lv jv wr => ∃ j : Nat, lv = .int .i64 ((R0 : Int) - j) ∧ jv = .int .i64 j ∧ j ≤ m ∧ Hid (SoloC R w wr b fp3 (N, T2) g1 (bcs tb) 4 g2 (ncs (Gs.incs ct (ms.take j))) 3) ∧ Hid (ToldAt wr ms q g2)) (fun _ jv _ => m - (intOf jv).toNat)
              case atStart => exact ⟨0, by first | (simp; done) | (simp; omega), rfl, by omega, S3, TA⟩
              case round =>
                clear S3 TA
                obtain ⟨j, rfl, rfl, hj, S3, TA⟩ := hrel
                by_cases hjm : j < m
                · have hjl : j < ms.length := by rw [HML.out]; exact hjm
                  obtain ⟨gq, oq, rfl, cI⟩ := TA.out.get j hjl
                  obtain ⟨i, hi, hi1, hi2, htb⟩ := HMX.out ms[j] (List.getElem_mem hjl)
                  have HT2 := Lib.hid (show ms.take (j + 1) = ms.take j ++ [ms[j]] from List.take_succ_eq_append_getElem hjl)
                  rw [hi] at cI
                  generalize ms[j] = x at *
                  have hclen : (Gs.incs ct (ms.take j)).length = N + 1 := by rw [Gs.incs_len]; exact HEV.out.lo
                  have cT : wr.cell? ⟨g1, i, none⟩ = some (.bool true) := (S3.out.k1.cell i).trans (by rw [bcs_get tb i (by rw [HEV.out.lb]; omega), htb])
                  have cC : wr.cell? ⟨g2, i, none⟩ = some (.int .i64 (((Gs.incs ct (ms.take j)).getD i 0 : Nat) : Int)) := (S3.out.k2.cell i).trans (ncs_get _ i (by rw [hclen]; omega))
                  have fC : wr.frozen? ⟨g2, i, none⟩ = false := S3.out.k2.free i
                  have hcb : (Gs.incs ct (ms.take j)).getD i 0 ≤ 100 := by
                    have h1 := Gs.incs_le (ms.take j) ct i (by rw [HEV.out.lo]; omega)
                    obtain ⟨c9, hc9, hall⟩ := HEV.out.c
                    have h2 := hall i htb
                    rw [List.length_take] at h1
                    omega
                  have S5 := Lib.hid (show SoloC R w (wr.setCell ⟨g2, i, none⟩ (.int .i64 (((Gs.incs ct (ms.take j)).getD i 0 : Nat) + 1 : Int))) b fp3 (N, T2) g1 (bcs tb) 4 g2 (ncs (Gs.incs ct (ms.take (j + 1)))) 3 from by
                    have h1 := S3.out.set2 HK.out i (.int .i64 ((((Gs.incs ct (ms.take j)).getD i 0 + 1 : Nat)) : Int))
                    rw [ncs_set] at h1
                    rw [HT2.out, Gs.incs_snoc]
                    unfold Gs.inc
                    rw [show x.I.toNat = i by rw [hi]; exact Int.toNat_natCast i]
                    exact h1)
                  have TA5 := Lib.hid (TA.out.set i (.int .i64 (((Gs.incs ct (ms.take j)).getD i 0 : Nat) + 1 : Int)))
                  generalize (Gs.incs ct (ms.take j)).getD i 0 = cu at *
                  have jq : (0 : Int) ≤ (j : Int) ∧ (j : Int) < (m : Int) := by omega
                  have ji : (0 : Int) ≤ (i : Int) ∧ (i : Int) < (N : Int) + 1 := by omega
                  have ji2 : (i : Int) < ((N + 1 : Nat) : Int) := by omega
                  have ti1 : decide ((i : Int) < 1) = false := decide_eq_false (by omega)
                  have ti2 : decide ((N : Int) < (i : Int)) = false := decide_eq_false (by omega)
                  have ti3 : decide (N < i) = false := decide_eq_false (by omega)
                  have iC : IntKind.i64.wrap ((cu : Int) + 1) = (cu : Int) + 1 := IntWalk.i64_in _ (by omega)
                  have iL : IntKind.i64.wrap ((R0 : Int) - (j : Int) - 1) = (R0 : Int) - (j : Int) - 1 := IntWalk.i64_in _ (by omega)
                  clear hclen htb hjl S3 TA hi
                  go_wp2_with fail
                  go_roundw
                  case rel => exact ⟨j + 1, by congr 1; omega, by go_num, by omega, S5, TA5⟩
                  case measure => simp [intOf]; omega
                · obtain rfl : j = m := by omega
                  obtain ⟨c9, hc9, hall⟩ := EV2.out.c
                  have hms : ms.take j = ms := List.take_of_length_le (by rw [HML.out]; exact Nat.le_refl _)
                  rw [hms] at S3
                  have HEVN := Lib.hid (even_any tb (Gs.incs ct ms) (N + 1) c9 g1 g2 _ _ wr EV2.out.lb EV2.out.lo (by omega) hc9 hall S3.out.k1 S3.out.k2)
                  have hRe : (R0 : Int) - (j : Int) = (R2 : Int) := by omega
                  rw [hRe]
                  have iK : IntKind.i64.wrap ((k2 : Int) + 1) = (k2 : Int) + 1 := IntWalk.i64_in _ (by omega)
                  clear hall hms TA
                  go_wp2_with fail
                  refine HEVN.out.mono ?_
                  rintro e w5 ⟨rfl, hb5⟩
                  have S6 := Lib.hid (S3.out.on HK.out hb5)
                  clear hb5 S3 HEVN
                  go_wp2_with fail
                  go_roundw
                  case rel => exact ⟨R2, k2 + 1, fp3, T2, _, rfl, by go_num, by omega, by omega, HR2, EV2, S6⟩
                  case measure => simp [intOf]; omega
          · have tkp : decide ((k2 : Int) < (np : Int)) = false := decide_eq_false (by omega)
            have tkq : decide (k2 < np) = false := decide_eq_false (by omega)
            by_cases hR0 : 0 < R0
            · have tR : decide ((0 : Int) < (R0 : Int)) = true := decide_eq_true (by omega)
              have tR2 : decide (0 < R0) = true := decide_eq_true hR0
              have HMOK := Lib.hid (show ∀ y ∈ Gs.told T 1, y.ok from fun y hy => by
                obtain ⟨x, hx, rfl⟩ := List.mem_map.1 hy
                exact (HEV.out.ok.may x (List.mem_of_mem_take hx)).1.ok)
              have HMX := Lib.hid (show ∀ y ∈ Gs.told T 1, ∃ i : Nat, y.I = (i : Int) ∧ 1 ≤ i ∧ i ≤ N ∧ tb.getD i false = true from fun y hy => by
                obtain ⟨x, hx, rfl⟩ := List.mem_map.1 hy
                have hxT := List.mem_of_mem_take hx
                have h1 := HEV.out.ok.may x hxT
                exact ⟨x.m.I.toNat, by have := h1.1.1.1; omega, by have := h1.1.1.1; omega, by have := h1.2.1; omega, (HEV.out.a x hxT).1⟩)
              have hml := Gs.told_len T 1
              have hrl := Gs.rest_left HEV.out.ok 1
              rw [← HL.out, ← HRE.out] at hrl
              have hmn : (Gs.cnt 1 T.length : Int) ≤ 1 := by unfold Gs.cnt; omega
              have hm0 : Gs.cnt 1 T.length = 0 → (1 : Int) = 0 ∨ R0 = 0 := fun h => by
                by_cases hT : T.length = 0
                · right
                  have : T = [] := List.eq_nil_of_length_eq_zero hT
                  rw [HRE.out, this]; rfl
                · left; unfold Gs.cnt at h; omega
              obtain ⟨m, hm⟩ : ∃ m, m = Gs.cnt 1 T.length := ⟨_, rfl⟩
              rw [← hm] at hml hrl hmn hm0
              have EV2 := Lib.hid (HEV.out.take 1)
              obtain ⟨R2, hR2⟩ : ∃ y, y = Gs.rest L (Gs.left N T 1) := ⟨_, rfl⟩
              rw [← hR2] at hrl
              have HR2 := Lib.hid hR2
              have HTK := Lib.hid (F.take b fp N T 1 wr S.out.solo.one (by omega))
              obtain ⟨T2, hT2⟩ : ∃ y, y = Gs.left N T 1 := ⟨_, rfl⟩
              obtain ⟨ms, hms⟩ : ∃ y, y = Gs.told T 1 := ⟨_, rfl⟩
              unfold GTakeDone at HTK
              rw [← hT2] at EV2 HTK HR2
              rw [← hms] at HMOK HMX hml EV2 HTK
              have HML := Lib.hid hml
              rw [hml] at HTK
              clear hm hR2 hT2 hms hml
              go_wp2_with fail
              refine HTK.out.mono ?_
              rintro e w3 ⟨v, fp3, rfl, ho, hr, ht, hf, hnf⟩
              have hg2 := S.out.k2.lt
              obtain ⟨q, c, rfl, _, hg⟩ := own_goodM ho HMOK.out
              have TA := Lib.hid (show ToldAt w3 ms q g2 from ⟨hg.at_, fun a e h => by have := (own_base_w ho a.block (by rw [e]; rfl)).1; omega⟩)
              have S3 := Lib.hid (S.out.step (s' := (N, T2)) hr ht hf)
              have gl1 := hg.le
              have gl2 := hg.max
              rw [HML.out] at gl1
              clear ho hr ht hf hnf hg hg2 HTK S
              have tg : decide (1 < (m : Int)) = false := decide_eq_false (by omega)
              have tg2 : decide (1 < m) = false := decide_eq_false (by omega)
              have hmp : 0 < m := Nat.pos_of_ne_zero fun h => by rcases hm0 h with h | h <;> omega
              have tm : ((m : Int) == 0) = false := by rw [beq_eq_false_iff_ne]; omega
              clear hm0
              go_wp2_with fail
              go_loopw [15, 19] (fun lv jv wr => ∃ j : Nat, lv = .int .i64 ((R0 : Int) - j) ∧ jv = .int .i64 j ∧ j ≤ m ∧ Hid (SoloC R w wr b fp3 (N, T2) g1 (bcs tb) 4 g2 (ncs (Gs.incs ct (ms.take j))) 3) ∧ Hid (ToldAt wr ms q g2)) (fun _ jv _ => m - (intOf jv).toNat)
              case atStart => exact ⟨0, by first | (simp; done) | (simp; omega), rfl, by omega, S3, TA⟩
              case round =>
                clear S3 TA
                obtain ⟨j, rfl, rfl, hj, S3, TA⟩ := hrel
                by_cases hjm : j < m
                · have hjl : j < ms.length := by rw [HML.out]; exact hjm
                  obtain ⟨gq, oq, rfl, cI⟩ := TA.out.get j hjl
                  obtain ⟨i, hi, hi1, hi2, htb⟩ := HMX.out ms[j] (List.getElem_mem hjl)
                  have HT2 := Lib.hid (show ms.take (j + 1) = ms.take j ++ [ms[j]] from List.take_succ_eq_append_getElem hjl)
                  rw [hi] at cI
                  generalize ms[j] = x at *
                  have hclen : (Gs.incs ct (ms.take j)).length = N + 1 := by rw [Gs.incs_len]; exact HEV.out.lo
                  have cT : wr.cell? ⟨g1, i, none⟩ = some (.bool true) := (S3.out.k1.cell i).trans (by rw [bcs_get tb i (by rw [HEV.out.lb]; omega), htb])
                  have cC : wr.cell? ⟨g2, i, none⟩ = some (.int .i64 (((Gs.incs ct (ms.take j)).getD i 0 : Nat) : Int)) := (S3.out.k2.cell i).trans (ncs_get _ i (by rw [hclen]; omega))
                  have fC : wr.frozen? ⟨g2, i, none⟩ = false := S3.out.k2.free i
                  have hcb : (Gs.incs ct (ms.take j)).getD i 0 ≤ 100 := by
                    have h1 := Gs.incs_le (ms.take j) ct i (by rw [HEV.out.lo]; omega)
                    obtain ⟨c9, hc9, hall⟩ := HEV.out.c
                    have h2 := hall i htb
                    rw [List.length_take] at h1
                    omega
                  have S5 := Lib.hid (show SoloC R w (wr.setCell ⟨g2, i, none⟩ (.int .i64 (((Gs.incs ct (ms.take j)).getD i 0 : Nat) + 1 : Int))) b fp3 (N, T2) g1 (bcs tb) 4 g2 (ncs (Gs.incs ct (ms.take (j + 1)))) 3 from by
                    have h1 := S3.out.set2 HK.out i (.int .i64 ((((Gs.incs ct (ms.take j)).getD i 0 + 1 : Nat)) : Int))
                    rw [ncs_set] at h1
                    rw [HT2.out, Gs.incs_snoc]
                    unfold Gs.inc
                    rw [show x.I.toNat = i by rw [hi]; exact Int.toNat_natCast i]
                    exact h1)
                  have TA5 := Lib.hid (TA.out.set i (.int .i64 (((Gs.incs ct (ms.take j)).getD i 0 : Nat) + 1 : Int)))
                  generalize (Gs.incs ct (ms.take j)).getD i 0 = cu at *
                  have jq : (0 : Int) ≤ (j : Int) ∧ (j : Int) < (m : Int) := by omega
                  have ji : (0 : Int) ≤ (i : Int) ∧ (i : Int) < (N : Int) + 1 := by omega
                  have ji2 : (i : Int) < ((N + 1 : Nat) : Int) := by omega
                  have ti1 : decide ((i : Int) < 1) = false := decide_eq_false (by omega)
                  have ti2 : decide ((N : Int) < (i : Int)) = false := decide_eq_false (by omega)
                  have ti3 : decide (N < i) = false := decide_eq_false (by omega)
                  have iC : IntKind.i64.wrap ((cu : Int) + 1) = (cu : Int) + 1 := IntWalk.i64_in _ (by omega)
                  have iL : IntKind.i64.wrap ((R0 : Int) - (j : Int) - 1) = (R0 : Int) - (j : Int) - 1 := IntWalk.i64_in _ (by omega)
                  clear hclen htb hjl S3 TA hi
                  go_wp2_with fail
                  go_roundw
                  case rel => exact ⟨j + 1, by congr 1; omega, by go_num, by omega, S5, TA5⟩
                  case measure => simp [intOf]; omega
                · obtain rfl : j = m := by omega
                  obtain ⟨c9, hc9, hall⟩ := EV2.out.c
                  have hms : ms.take j = ms := List.take_of_length_le (by rw [HML.out]; exact Nat.le_refl _)
                  rw [hms] at S3
                  have HEVN := Lib.hid (even_any tb (Gs.incs ct ms) (N + 1) c9 g1 g2 _ _ wr EV2.out.lb EV2.out.lo (by omega) hc9 hall S3.out.k1 S3.out.k2)
                  have hRe : (R0 : Int) - (j : Int) = (R2 : Int) := by omega
                  rw [hRe]
                  have iK : IntKind.i64.wrap ((k2 : Int) + 1) = (k2 : Int) + 1 := IntWalk.i64_in _ (by omega)
                  clear hall hms TA
                  go_wp2_with fail
                  refine HEVN.out.mono ?_
                  rintro e w5 ⟨rfl, hb5⟩
                  have S6 := Lib.hid (S3.out.on HK.out hb5)
                  clear hb5 S3 HEVN
                  go_wp2_with fail
                  go_roundw
                  case rel => exact ⟨R2, k2 + 1, fp3, T2, _, rfl, by go_num, by omega, by omega, HR2, EV2, S6⟩
                  case measure => simp [intOf]; omega
            · obtain rfl : R0 = 0 := by omega
              have hT0 := Gs.rest_zero HEV.out.ok (by have := HRE.out; rw [HL.out] at this; exact this.symm)
              subst hT0
              go_wp2_with fail
              go_loopw [20] (fun nv wr => ∃ n : Nat, nv = .int .i64 n ∧ 1 ≤ n ∧ n ≤ N + 1 ∧ Hid (SoloC R w wr b fp (N, []) g1 (bcs tb) 4 g2 (ncs ct) 3)) (fun nv _ => N + 1 - (intOf nv).toNat)
              case atStart => exact ⟨1, rfl, by omega, by omega, S⟩
              case round =>
                clear S
                obtain ⟨n, rfl, hn1, hn2, S⟩ := hrel
                by_cases hnN : n ≤ N
                · have c1 : wr.cell? ⟨g1, n, none⟩ = some (.bool (tb.getD n false)) := (S.out.k1.cell n).trans (bcs_get tb n (by rw [HEV.out.lb]; omega))
                  have c2 : wr.cell? ⟨g2, n, none⟩ = some (.int .i64 ((ct.getD n 0 : Nat) : Int)) := (S.out.k2.cell n).trans (ncs_get ct n (by rw [HEV.out.lo]; omega))
                  have jn : (0 : Int) ≤ (n : Int) ∧ (n : Int) < (N : Int) + 1 := by omega
                  have jn2 : (n : Int) < ((N + 1 : Nat) : Int) := by omega
                  have jn3 : (n : Int) ≤ (N : Int) := by omega
                  have hb := HEV.out.b n
                  generalize tb.getD n false = z at *
                  generalize ct.getD n 0 = t at *
                  cases z with
                  | false =>
                    clear hb
                    go_wp2_with fail
                    go_quiet (fail)
                    have S2 := Lib.hid (S.out.on HK.out (below_drewN (Below.refl _ _) nq))
                    clear S c1 c2
                    generalize wr.drewN nq = w3 at *
                    go_wp2_with fail
                    go_roundw
                    case rel => exact ⟨n + 1, by go_num, by omega, by omega, S2⟩
                    case measure => simp [intOf]; omega
                  | true =>
                    have hbL : t = L := by rw [HL.out]; exact hb rfl (by simp [Gs.ids])
                    subst hbL
                    have QL := Lib.hid (fun kk => HLIM.out (wr.drewN kk) fp [] ((S.out.on HK.out (below_drewN (Below.refl _ _) kk)).solo.one))
                    clear hb
                    go_wp2_with fail
                    go_quiet ((go_at_call 18; refine Calls.quiet_of (QL.out _)))
                    have S2 := Lib.hid (S.out.on HK.out (below_drewN (Below.refl _ _) nq))
                    clear S c1 c2 QL
                    generalize wr.drewN nq = w3 at *
                    go_wp2_with fail
                    go_roundw
                    case rel => exact ⟨n + 1, by go_num, by omega, by omega, S2⟩
                    case measure => simp [intOf]; omega
                · obtain rfl : n = N + 1 := by omega
                  have HNL := Lib.hid (F.len b fp N [] wr S.out.solo.one)
                  have jn3 : decide ((N : Int) + 1 ≤ (N : Int)) = false := decide_eq_false (by omega)
                  go_wp2_with fail
                  refine HNL.out.mono ?_
                  rintro e _ ⟨rfl, kn, rfl⟩
                  have B5 := Lib.hid (below_drewN S.out.solo.below kn)
                  have e0 : (v64 (([] : List Tl).length : Nat)) = .int .i64 0 := rfl
                  rw [e0]
                  go_wp2_with fail
                  go_ret
                  exact ⟨rfl, B5.out⟩
end
end Go.Proofs.Ytgohapbobbkaeaa
