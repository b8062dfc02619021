/-
  The law ViewOrder.
  The laws of stage 12, as their last texts want them.
  A view searched: where a node's word stands in a rising list (slices.BinarySearchFunc with any function that compares by node).
-/
import Derived.Test.YtocfcfoocmkkdaaQ15
import Derived.Test.YtocfcfoocmkkdaaQ11
import Derived.Test.YtocfcfoocmkkdaaQ6
import Derived.Test.YtocfcfoocmkkdaaQ12
namespace Go.Proofs.Ytocfcfoocmkkdaa
section
set_option linter.unusedSimpArgs false
set_option linter.unusedVariables false
open Go.RowKit Sha
section
attribute [local go_sem ↓] execOp_loadM execOp_storeM execOp_eqlM execOp_neqM execOp_buildM execOp_sliceV
set_option maxRecDepth 100000 in
set_option maxHeartbeats 32000000 in
theorem vorder_any (V : ViewOK) (l : List Mb) (xs : List Int) (n no : Nat) (q p : Option Addr) (c d : Nat) (cut0 : Int) (w : World) (hn : l.length = n) (hno : xs.length = no) (hl : GoodW w l q c) (hx : GoodN w xs p d) (hcut : -9223372036854775808 ≤ cut0 ∧ cut0 ≤ 9223372036854775807) :
    Calls Try.prog 6 #[.slice q n c, .slice p no d, .int .i64 cut0] w (BoolDone true w) := by
  have HL := Lib.hid hl
  have HX := Lib.hid hx
  have HN := Lib.hid hn
  have HNO := Lib.hid hno
  have HCU := Lib.hid hcut
  have b1 := hl.le
  have b2 := hl.max
  have b3 := hx.le
  have b4 := hx.max
  rw [hn] at b1
  rw [hno] at b3
  clear hl hx hn hno hcut
  go_enter Try.func6, Try.ntmps6
  go_wp2_with fail
  refine (known_any V _).mono ?_
  rintro e w1 ⟨rfl, hb1⟩
  have HB1 := Lib.hid hb1
  clear hb1
  by_cases h1 : n ≤ 40
  · have t1 : decide ((40 : Int) < (n : Int)) = false := decide_eq_false (by omega)
    by_cases h2 : no ≤ 40
    · have t2 : decide ((40 : Int) < (no : Int)) = false := decide_eq_false (by omega)
      have HFI := Lib.hid (fun w' (hb : Below w.heap.size w w') => fine_any l n q c w' HN.out (HL.out.below hb))
      by_cases hfi : Vw.Fine l
      · rw [show decide (Vw.Fine l) = true from decide_eq_true hfi] at HFI
        have HFN := Lib.hid hfi
        clear hfi
        go_wp2_with fail
        refine (HFI.out _ HB1.out).mono ?_
        rintro e w2 ⟨rfl, hb2⟩
        have HB2 := Lib.hid (below_next HB1.out hb2)
        clear hb2 HFI HB1
        have OKA := Lib.hid (Vw.put_top_nil HFN.out).ok
        have HMA := Lib.hid (merge2 V [] l 0 n none q 0 c w2 rfl HN.out (goodW_none _) (HL.out.below HB2.out) (by omega) (by omega) Vw.Ok.nil HFN.out _ rfl)
        have la := Vw.put_length [] l
        rw [HN.out] at la
        simp only [List.length_nil, Nat.zero_add] at la
        generalize hA : Vw.put [] l = A at *
        generalize hNA : A.length = na at *
        have HNA := Lib.hid hNA
        clear hNA
        go_wp2_with fail
        refine HMA.out.mono ?_
        rintro e w3 ⟨qa, ka, qx, kx, nx, rfl, _, ga, e1, e2, hb3⟩
        have GA := Lib.hid ga
        have fa := ga.le
        have fam := ga.max
        rw [HNA.out] at fa
        have HB3 := Lib.hid (below_next HB2.out hb3)
        clear ga hb3 HMA HB2
        have c0 := run_buildM0 w3
        have O0 := own_empty_w w3 w3.heap.size (Nat.le_refl _)
        have BAe := Lib.hid (show Below w3.heap.size w3 (w3.alloc (.cells #[] mt)) from (Below.refl _ _).alloc (Nat.le_refl _) _)
        have LA := (HL.out.below HB3.out).below BAe.out
        generalize w3.alloc (.cells #[] mt) = wa at *
        have tk1 : True := trivial
        go_wp2_with ((first
          | (have _t := tk1; refine wpList_app_s rfl _ _ 22 rfl w3.heap.size mt (z := .agg #[.int .i64 0, .int .i64 0, .int .i64 0]) (by decide) Try.underlying22 mem_info rfl _ 0 [] rfl O0 q n c (l.flatMap mc) rfl LA.at_ (by rw [wflat_length, HN.out]) LA.nil b1 (wflat_one l) (by omega) (by unfold maxLen; omega) BAe.out.size ?_; intro v1 w7 hv1 hgr1 _; (have B7e := Lib.hid (grown_below BAe.out hgr1 (fun g e => (own_base_w O0 g e).1) BAe.out.size)); rw [Nat.zero_add, List.nil_append] at hv1; (have H1 := Lib.hid hv1); clear tk1 _t hv1 hgr1)))
        obtain ⟨q5, c5, rfl, ht5⟩ := Tr.of H1.out HL.out.ok
        have HT5 := Lib.hid ht5
        have f5 := ht5.good.le
        have f5m := ht5.good.max
        rw [ht5.len] at f5
        clear ht5 H1 LA O0 c0
        go_loopw [12] (fun i wr => ∃ (k : Nat) (T : List Mb), i = .int .i64 k ∧ k ≤ no ∧ Hid (∀ x, x ∈ T ↔ x ∈ l) ∧ Hid (Tr wr w3.heap.size q5 n c5 T) ∧ Hid (Below w3.heap.size w3 wr)) (fun i _ => no - (intOf i).toNat)
        case atStart => exact ⟨0, l, rfl, Nat.zero_le _, Lib.hid (fun _ => Iff.rfl), HT5, B7e⟩
        case round =>
          clear HT5 B7e
          obtain ⟨k, T, rfl, hk, HTM, HTR, HBL⟩ := hrel
          by_cases hlt : k < no
          · by_cases h0 : 0 < n
            · obtain ⟨g, rest, hqq, hgB, _⟩ := HTR.out.blk h0
              subst hqq
              have hkx : k < xs.length := by rw [HNO.out]; exact hlt
              have HXW := Lib.hid (HX.out.below (below_next HB3.out HBL.out))
              obtain ⟨bx, ox, hpp, cx⟩ := HXW.out.at_.addr (by rw [List.length_map]; omega)
              subst hpp
              have cc1 := cx k (v64 xs[k]) (by rw [List.getElem?_map, List.getElem?_eq_getElem hkx]; rfl)
              have hxk := HX.out.nums xs[k] (List.getElem_mem hkx)
              rename World => wr
              generalize xs[k] = x at *
              clear cx hkx
              obtain ⟨I, W, hC⟩ := cls_of wr
              have hne : Nonempty I := hC.ne
              have m1 := hC.cell cc1
              have hpb := pickOf_bd x (n : Int) (by omega)
              have QP := Lib.hid (hC.call (P := Try.prog) (f := 27) (args := #[.int .i64 x, .int .i64 (n : Int)]) (v := .int .i64 (pickOf x (n : Int))) (fun w' hb => (pick_any x (n : Int) w' (by omega) (by omega) hxk).mono (by rintro e w9 ⟨rfl, rfl⟩; exact ⟨rfl, Below.refl _ _⟩)))
              generalize pickOf x (n : Int) = rj at *
              obtain ⟨r, rfl⟩ : ∃ r : Nat, rj = (r : Int) := ⟨rj.toNat, by omega⟩
              have hr : r < n := by omega
              clear hpb cc1 hxk
              have tm : (k : Int).tmod (n : Int) = ((k % n : Nat) : Int) := by rw [Int.tmod_eq_emod_of_nonneg (by omega)]; push_cast; rfl
              have hs : k % n < n := Nat.mod_lt _ h0
              generalize k % n = s at *
              have n1 : ¬ ((n : Int) = 0) := by omega
              have n3 : ((n : Int) == 0) = false := by rw [beq_eq_false_iff_ne]; omega
              have n2 : ¬ (n = 0) := by omega
              have w2e : IntKind.i64.wrap (s : Int) = (s : Int) := IntWalk.i64_in _ (by omega)
              have p0 : decide (0 < n) = true := decide_eq_true h0
              have jk : (0 : Int) ≤ (k : Int) ∧ (k : Int) < (no : Int) := by omega
              have js : (0 : Int) ≤ (s : Int) ∧ (s : Int) < (n : Int) := by omega
              have jr : (0 : Int) ≤ (r : Int) ∧ (r : Int) < (n : Int) := by omega
              have HCW := Lib.hid hC
              clear hC
              go_wp2_with fail
              refine wp_region_cls W (by kernel_rfl) (by kernel_rfl) HCW.out.one ?_
              repeat go_big_quiet_step (((first | (go_at_call 27; exact QP.out _))))
              refine wpQuiet_nil ?_
              rintro _ ⟨mm, rfl⟩
              have HB10 := Lib.hid (below_next HBL.out (HCW.out.back mm))
              have TR10 := Lib.hid (HTR.out.on (HCW.out.back mm))
              clear m1 HCW QP tm n1 n2 n3 w2e HXW HTR HBL
              generalize W mm = w10 at *
              have hsl : s < T.length := by rw [TR10.out.len]; exact hs
              have hrl : r < T.length := by rw [TR10.out.len]; exact hr
              have HTM2 := Lib.hid (swap_mem HTM.out s r hsl hrl)
              have ld1 := TR10.out.load s hsl
              have okx := TR10.out.good.ok _ (List.getElem_mem hsl)
              have oky := TR10.out.good.ok _ (List.getElem_mem hrl)
              have s10 := put_run w10 T[s]
              have P10 := Lib.hid (put_blk w10 T[s])
              have PB := Lib.hid (put_below w10 T[s])
              have hgw : g ≠ w10.heap.size := by obtain ⟨_, _, h3⟩ := TR10.out.at h0; have := h3.lt; omega
              generalize putM w10 T[s] = w11 at *
              have TR11 := Lib.hid (TR10.out.on PB.out)
              have ld2 := TR11.out.load r hrl
              obtain ⟨st1, tr12⟩ := TR11.out.set s hsl T[r] oky
              have TR12 := Lib.hid tr12
              have P12 := Lib.hid (cells_other (Ne.symm hgw) (mc T[r]) (s * 3) w11 P10.out)
              have HB12 := Lib.hid (setCells_above hgB (mc T[r]) (s * 3) w11 (below_next HB10.out PB.out))
              generalize w11.setCells g (s * 3) (mc T[r]) = w12 at *
              have ld3 := run_loadM (rangeM_of P12.out)
              obtain ⟨st2, tr13⟩ := TR12.out.set r (by rw [List.length_set]; exact hrl) T[s] okx
              have TR13 := Lib.hid tr13
              have HB13 := Lib.hid (setCells_above hgB (mc T[s]) (r * 3) w12 HB12.out)
              generalize w12.setCells g (r * 3) (mc T[s]) = w13 at *
              generalize (T.set s T[r]).set r T[s] = T2 at *
              generalize T[s] = xx at *
              generalize T[r] = yy at *
              clear tr12 tr13 okx oky TR10 TR11 TR12 P10 P12 HB10 HB12 HTM PB hsl hrl hgw
              go_wp2_with fail
              go_roundw
              case rel => exact ⟨k + 1, T2, by go_num, by omega, HTM2, TR13, HB13⟩
              case measure => simp [intOf]; omega
            · have p0 : decide (0 < n) = false := decide_eq_false h0
              have HTM2 := HTM
              have TR0 := HTR
              clear HTM HTR
              have f5 := TR0.out.good.le
              have f5m := TR0.out.good.max
              rw [TR0.out.len] at f5
              have wn1 : IntKind.i64.wrap ((n : Int) + 1) = (n : Int) + 1 := IntWalk.i64_in _ (by omega)
              have HPK := Lib.hid (fun w' => pick_any cut0 ((n : Int) + 1) w' (by omega) (by omega) HCU.out)
              have hpb := pickOf_bd cut0 ((n : Int) + 1) (by omega)
              generalize pickOf cut0 ((n : Int) + 1) = pj at *
              obtain ⟨m, rfl⟩ : ∃ m : Nat, pj = (m : Int) := ⟨pj.toNat, by omega⟩
              have hm : m ≤ n := by omega
              clear hpb
              have HOR := Lib.hid (Vw.ordered HFN.out HTM2.out m)
              have HAG := Lib.hid (Vw.again HFN.out)
              have k1 := fun W => cutM_h q5 n c5 m (by omega) W
              have k2 := fun W => cutM_l q5 n c5 m hm f5 W
              have EB := Lib.hid HOR.out.both
              have EK := Lib.hid HOR.out.back
              have OKF := Lib.hid HOR.out.okF
              have OKS := Lib.hid HOR.out.okS
              have FF := Lib.hid HOR.out.fineF
              have FS := Lib.hid HOR.out.fineS
              have ly1 : (T.take m).length = m := by rw [List.length_take, TR0.out.len]; omega
              have ly2 : (T.drop m).length = n - m := by rw [List.length_drop, TR0.out.len]
              have LY1 := Lib.hid ly1
              have LY2 := Lib.hid ly2
              clear ly1 ly2
              rw [hA] at EB EK HAG
              rename World => wz
              have HBZ := Lib.hid (below_next HB3.out HBL.out)
              have HM1 := Lib.hid (merge2 V [] (T.take m) 0 m none q5 0 c5 wz rfl LY1.out (goodW_none _) (TR0.out.good.take m) (by omega) (by omega) Vw.Ok.nil FF.out _ rfl)
              have HGD := Lib.hid (TR0.out.good.drop m (by rw [TR0.out.len]; exact hm))
              have l1 := Vw.put_length [] (T.take m)
              have l2 := Vw.put_length [] (T.drop m)
              rw [LY1.out] at l1
              rw [LY2.out] at l2
              simp only [List.length_nil, Nat.zero_add] at l1 l2
              generalize (if c5 = m then q5 else q5.map (·.add (m * 3))) = q6 at *
              generalize T.take m = TA at *
              generalize T.drop m = TB at *
              generalize hF : Vw.put [] TA = F at *
              generalize hS : Vw.put [] TB = S at *
              generalize hF0 : F.length = nF at *
              generalize hS0 : S.length = nS at *
              have HF0 := Lib.hid hF0
              have HS0 := Lib.hid hS0
              clear hF0 hS0 hA HOR
              have GA0 := Lib.hid (GA.out.below HBL.out)
              have HFq := Lib.hid hF
              have HSq := Lib.hid hS
              clear hF hS
              go_wp2_with fail
              refine (HPK.out _).mono ?_
              rintro e w9 ⟨rfl, rfl⟩
              go_wp2_with fail
              refine HM1.out.mono ?_
              rintro e w4 ⟨q1, c1, x1, y1, z1, rfl, _, g1, e1, e2, hb4⟩
              have G1 := Lib.hid g1
              have a1 := g1.le
              have a2 := g1.max
              rw [HF0.out] at a1
              have HM2 := Lib.hid (merge2 V [] TB 0 (n - m) none q6 0 (c5 - m) w4 rfl LY2.out (goodW_none _) (HGD.out.below hb4) (by omega) (by omega) Vw.Ok.nil FS.out nS (by rw [HSq.out]; exact HS0.out))
              have HBZ4 := Lib.hid (below_next HBZ.out hb4)
              have GA4 := Lib.hid (GA0.out.below hb4)
              clear g1 hb4 HM1 HGD GA0 HBZ HPK
              go_wp2_with fail
              refine HM2.out.mono ?_
              rintro e w5 ⟨q2, c2, x2, y2, z2, rfl, _, g2, e3, e4, hb5⟩
              rw [HSq.out] at g2
              have G2 := Lib.hid g2
              have a3 := g2.le
              have a4 := g2.max
              rw [HS0.out] at a3
              have G15 := Lib.hid (G1.out.below hb5)
              have HM3 := Lib.hid (merge2 V F S nF nS q1 q2 c1 c2 w5 HF0.out HS0.out G15.out G2.out (by omega) (by omega) OKF.out OKS.out.1 na (by rw [EB.out]; exact HNA.out))
              rw [EB.out] at HM3
              have HBZ5 := Lib.hid (below_next HBZ4.out hb5)
              have GA5 := Lib.hid (GA4.out.below hb5)
              clear g2 hb5 HM2 GA4 HBZ4 G1
              go_wp2_with fail
              refine HM3.out.mono ?_
              rintro e w6 ⟨q3, c3, x3, y3, z3, rfl, _, g3, e5, e6, hb6⟩
              have G3 := Lib.hid g3
              have a5 := g3.le
              have a6 := g3.max
              rw [HNA.out] at a5
              have G16 := Lib.hid (G15.out.below hb6)
              have G26 := Lib.hid (G2.out.below hb6)
              have HM4 := Lib.hid (merge2 V S F nS nF q2 q1 c2 c1 w6 HS0.out HF0.out G26.out G16.out (by omega) (by omega) OKS.out OKF.out.1 na (by rw [EK.out]; exact HNA.out))
              rw [EK.out] at HM4
              have HBZ6 := Lib.hid (below_next HBZ5.out hb6)
              have GA6 := Lib.hid (GA5.out.below hb6)
              clear g3 hb6 HM3 GA5 HBZ5 G15 G2
              go_wp2_with fail
              refine HM4.out.mono ?_
              rintro e w7 ⟨q4, c4, x4, y4, z4, rfl, _, g4, e7, e8, hb7⟩
              have G4 := Lib.hid g4
              have a7 := g4.le
              have a8 := g4.max
              rw [HNA.out] at a7
              have G37 := Lib.hid (G3.out.below hb7)
              have HBZ7 := Lib.hid (below_next HBZ6.out hb7)
              have GA7 := Lib.hid (GA6.out.below hb7)
              have HM5 := Lib.hid (merge2 V A l na n q3 q c3 c w7 HNA.out HN.out G37.out (HL.out.below HBZ7.out) (by omega) (by omega) OKA.out HFN.out na (by rw [HAG.out]; exact HNA.out))
              rw [HAG.out, Vw.fresh_same OKA.out] at HM5
              clear g4 hb7 HM4 GA6 HBZ6 G16 G26 G3
              go_wp2_with fail
              refine HM5.out.mono ?_
              rintro e w8 ⟨q7, c7, x7, y7, z7, rfl, hz7, g7, e9, e10, hb8⟩
              rw [List.length_nil] at hz7
              subst hz7
              have G7 := Lib.hid g7
              have a9 := g7.le
              have a10 := g7.max
              rw [HNA.out] at a9
              have G38 := Lib.hid (G37.out.below hb8)
              have G48 := Lib.hid (G4.out.below hb8)
              have HBZ8 := Lib.hid (below_next HBZ7.out hb8)
              have GA8 := Lib.hid (GA7.out.below hb8)
              clear g7 hb8 HM5 GA7 HBZ7 G37 G4
              have HC1 := Lib.hid (fun w' (hb : Below w8.heap.size w8 w') => V.check A _ qa ka w' HNA.out (GA8.out.below hb) (by omega))
              rw [show Vw.err A = 0 from if_pos OKA.out] at HC1
              have HS1 := Lib.hid (fun w' (hb : Below w8.heap.size w8 w') => V.same A A _ _ q3 qa c3 ka w' HNA.out HNA.out (G38.out.below hb) (GA8.out.below hb) (by omega) (by omega))
              have HS2 := Lib.hid (fun w' (hb : Below w8.heap.size w8 w') => V.same A A _ _ q4 qa c4 ka w' HNA.out HNA.out (G48.out.below hb) (GA8.out.below hb) (by omega) (by omega))
              have HS3 := Lib.hid (fun w' (hb : Below w8.heap.size w8 w') => V.same A A _ _ q7 qa c7 ka w' HNA.out HNA.out (G7.out.below hb) (GA8.out.below hb) (by omega) (by omega))
              rw [show decide (A = A) = true from by simp] at HS1 HS2 HS3
              go_wp2_with fail
              refine (HC1.out _ (Below.refl _ _)).mono ?_
              rintro e v1 ⟨rfl, hv1⟩
              go_wp2_with fail
              refine (HS1.out _ hv1).mono ?_
              rintro e v2 ⟨rfl, hv2⟩
              have hv2 := below_next hv1 hv2
              go_wp2_with fail
              refine (HS2.out _ hv2).mono ?_
              rintro e v3 ⟨rfl, hv3⟩
              have hv3 := below_next hv2 hv3
              go_wp2_with fail
              refine (HS3.out _ hv3).mono ?_
              rintro e v4 ⟨rfl, hv4⟩
              have hv4 := below_next hv3 hv4
              go_wp2_with fail
              go_ret
              exact ⟨rfl, below_next HBZ8.out hv4⟩
          · obtain rfl : no = k := by omega
            clear hlt
            have HTM2 := HTM
            have TR0 := HTR
            clear HTM HTR
            have f5 := TR0.out.good.le
            have f5m := TR0.out.good.max
            rw [TR0.out.len] at f5
            have wn1 : IntKind.i64.wrap ((n : Int) + 1) = (n : Int) + 1 := IntWalk.i64_in _ (by omega)
            have HPK := Lib.hid (fun w' => pick_any cut0 ((n : Int) + 1) w' (by omega) (by omega) HCU.out)
            have hpb := pickOf_bd cut0 ((n : Int) + 1) (by omega)
            generalize pickOf cut0 ((n : Int) + 1) = pj at *
            obtain ⟨m, rfl⟩ : ∃ m : Nat, pj = (m : Int) := ⟨pj.toNat, by omega⟩
            have hm : m ≤ n := by omega
            clear hpb
            have HOR := Lib.hid (Vw.ordered HFN.out HTM2.out m)
            have HAG := Lib.hid (Vw.again HFN.out)
            have k1 := fun W => cutM_h q5 n c5 m (by omega) W
            have k2 := fun W => cutM_l q5 n c5 m hm f5 W
            have EB := Lib.hid HOR.out.both
            have EK := Lib.hid HOR.out.back
            have OKF := Lib.hid HOR.out.okF
            have OKS := Lib.hid HOR.out.okS
            have FF := Lib.hid HOR.out.fineF
            have FS := Lib.hid HOR.out.fineS
            have ly1 : (T.take m).length = m := by rw [List.length_take, TR0.out.len]; omega
            have ly2 : (T.drop m).length = n - m := by rw [List.length_drop, TR0.out.len]
            have LY1 := Lib.hid ly1
            have LY2 := Lib.hid ly2
            clear ly1 ly2
            rw [hA] at EB EK HAG
            rename World => wz
            have HBZ := Lib.hid (below_next HB3.out HBL.out)
            have HM1 := Lib.hid (merge2 V [] (T.take m) 0 m none q5 0 c5 wz rfl LY1.out (goodW_none _) (TR0.out.good.take m) (by omega) (by omega) Vw.Ok.nil FF.out _ rfl)
            have HGD := Lib.hid (TR0.out.good.drop m (by rw [TR0.out.len]; exact hm))
            have l1 := Vw.put_length [] (T.take m)
            have l2 := Vw.put_length [] (T.drop m)
            rw [LY1.out] at l1
            rw [LY2.out] at l2
            simp only [List.length_nil, Nat.zero_add] at l1 l2
            generalize (if c5 = m then q5 else q5.map (·.add (m * 3))) = q6 at *
            generalize T.take m = TA at *
            generalize T.drop m = TB at *
            generalize hF : Vw.put [] TA = F at *
            generalize hS : Vw.put [] TB = S at *
            generalize hF0 : F.length = nF at *
            generalize hS0 : S.length = nS at *
            have HF0 := Lib.hid hF0
            have HS0 := Lib.hid hS0
            clear hF0 hS0 hA HOR
            have GA0 := Lib.hid (GA.out.below HBL.out)
            have HFq := Lib.hid hF
            have HSq := Lib.hid hS
            clear hF hS
            go_wp2_with fail
            refine (HPK.out _).mono ?_
            rintro e w9 ⟨rfl, rfl⟩
            go_wp2_with fail
            refine HM1.out.mono ?_
            rintro e w4 ⟨q1, c1, x1, y1, z1, rfl, _, g1, e1, e2, hb4⟩
            have G1 := Lib.hid g1
            have a1 := g1.le
            have a2 := g1.max
            rw [HF0.out] at a1
            have HM2 := Lib.hid (merge2 V [] TB 0 (n - m) none q6 0 (c5 - m) w4 rfl LY2.out (goodW_none _) (HGD.out.below hb4) (by omega) (by omega) Vw.Ok.nil FS.out nS (by rw [HSq.out]; exact HS0.out))
            have HBZ4 := Lib.hid (below_next HBZ.out hb4)
            have GA4 := Lib.hid (GA0.out.below hb4)
            clear g1 hb4 HM1 HGD GA0 HBZ HPK
            go_wp2_with fail
            refine HM2.out.mono ?_
            rintro e w5 ⟨q2, c2, x2, y2, z2, rfl, _, g2, e3, e4, hb5⟩
            rw [HSq.out] at g2
            have G2 := Lib.hid g2
            have a3 := g2.le
            have a4 := g2.max
            rw [HS0.out] at a3
            have G15 := Lib.hid (G1.out.below hb5)
            have HM3 := Lib.hid (merge2 V F S nF nS q1 q2 c1 c2 w5 HF0.out HS0.out G15.out G2.out (by omega) (by omega) OKF.out OKS.out.1 na (by rw [EB.out]; exact HNA.out))
            rw [EB.out] at HM3
            have HBZ5 := Lib.hid (below_next HBZ4.out hb5)
            have GA5 := Lib.hid (GA4.out.below hb5)
            clear g2 hb5 HM2 GA4 HBZ4 G1
            go_wp2_with fail
            refine HM3.out.mono ?_
            rintro e w6 ⟨q3, c3, x3, y3, z3, rfl, _, g3, e5, e6, hb6⟩
            have G3 := Lib.hid g3
            have a5 := g3.le
            have a6 := g3.max
            rw [HNA.out] at a5
            have G16 := Lib.hid (G15.out.below hb6)
            have G26 := Lib.hid (G2.out.below hb6)
            have HM4 := Lib.hid (merge2 V S F nS nF q2 q1 c2 c1 w6 HS0.out HF0.out G26.out G16.out (by omega) (by omega) OKS.out OKF.out.1 na (by rw [EK.out]; exact HNA.out))
            rw [EK.out] at HM4
            have HBZ6 := Lib.hid (below_next HBZ5.out hb6)
            have GA6 := Lib.hid (GA5.out.below hb6)
            clear g3 hb6 HM3 GA5 HBZ5 G15 G2
            go_wp2_with fail
            refine HM4.out.mono ?_
            rintro e w7 ⟨q4, c4, x4, y4, z4, rfl, _, g4, e7, e8, hb7⟩
            have G4 := Lib.hid g4
            have a7 := g4.le
            have a8 := g4.max
            rw [HNA.out] at a7
            have G37 := Lib.hid (G3.out.below hb7)
            have HBZ7 := Lib.hid (below_next HBZ6.out hb7)
            have GA7 := Lib.hid (GA6.out.below hb7)
            have HM5 := Lib.hid (merge2 V A l na n q3 q c3 c w7 HNA.out HN.out G37.out (HL.out.below HBZ7.out) (by omega) (by omega) OKA.out HFN.out na (by rw [HAG.out]; exact HNA.out))
            rw [HAG.out, Vw.fresh_same OKA.out] at HM5
            clear g4 hb7 HM4 GA6 HBZ6 G16 G26 G3
            go_wp2_with fail
            refine HM5.out.mono ?_
            rintro e w8 ⟨q7, c7, x7, y7, z7, rfl, hz7, g7, e9, e10, hb8⟩
            rw [List.length_nil] at hz7
            subst hz7
            have G7 := Lib.hid g7
            have a9 := g7.le
            have a10 := g7.max
            rw [HNA.out] at a9
            have G38 := Lib.hid (G37.out.below hb8)
            have G48 := Lib.hid (G4.out.below hb8)
            have HBZ8 := Lib.hid (below_next HBZ7.out hb8)
            have GA8 := Lib.hid (GA7.out.below hb8)
            clear g7 hb8 HM5 GA7 HBZ7 G37 G4
            have HC1 := Lib.hid (fun w' (hb : Below w8.heap.size w8 w') => V.check A _ qa ka w' HNA.out (GA8.out.below hb) (by omega))
            rw [show Vw.err A = 0 from if_pos OKA.out] at HC1
            have HS1 := Lib.hid (fun w' (hb : Below w8.heap.size w8 w') => V.same A A _ _ q3 qa c3 ka w' HNA.out HNA.out (G38.out.below hb) (GA8.out.below hb) (by omega) (by omega))
            have HS2 := Lib.hid (fun w' (hb : Below w8.heap.size w8 w') => V.same A A _ _ q4 qa c4 ka w' HNA.out HNA.out (G48.out.below hb) (GA8.out.below hb) (by omega) (by omega))
            have HS3 := Lib.hid (fun w' (hb : Below w8.heap.size w8 w') => V.same A A _ _ q7 qa c7 ka w' HNA.out HNA.out (G7.out.below hb) (GA8.out.below hb) (by omega) (by omega))
            rw [show decide (A = A) = true from by simp] at HS1 HS2 HS3
            go_wp2_with fail
            refine (HC1.out _ (Below.refl _ _)).mono ?_
            rintro e v1 ⟨rfl, hv1⟩
            go_wp2_with fail
            refine (HS1.out _ hv1).mono ?_
            rintro e v2 ⟨rfl, hv2⟩
            have hv2 := below_next hv1 hv2
            go_wp2_with fail
            refine (HS2.out _ hv2).mono ?_
            rintro e v3 ⟨rfl, hv3⟩
            have hv3 := below_next hv2 hv3
            go_wp2_with fail
            refine (HS3.out _ hv3).mono ?_
            rintro e v4 ⟨rfl, hv4⟩
            have hv4 := below_next hv3 hv4
            go_wp2_with fail
            go_ret
            exact ⟨rfl, below_next HBZ8.out hv4⟩
      · rw [show decide (Vw.Fine l) = false from decide_eq_false hfi] at HFI
        go_wp2_with fail
        refine (HFI.out _ HB1.out).mono ?_
        rintro e w2 ⟨rfl, hb2⟩
        have HB2 := Lib.hid (below_next HB1.out hb2)
        go_wp2_with fail
        go_ret
        exact ⟨rfl, HB2.out⟩
    · have t2 : decide ((40 : Int) < (no : Int)) = true := decide_eq_true (by omega)
      go_wp2_with fail
      go_ret
      exact ⟨rfl, HB1.out⟩
  · have t1 : decide ((40 : Int) < (n : Int)) = true := decide_eq_true (by omega)
    go_wp2_with fail
    go_ret
    exact ⟨rfl, HB1.out⟩
end
end
section
set_option linter.unusedSimpArgs false
set_option linter.unusedVariables false
open Go.RowKit Sha
theorem vmerges_law (V : ViewOK) (l : List Mb) (n : Nat) (q : Option Addr) (c : Nat) (l' : List Mb) (m : Nat) (p : Option Addr) (d : Nat) (w : World) (hn : l.length = n) (hl : GoodW w l q c) (hm : l'.length = m) (hl' : GoodW w l' p d) :
    Calls Try.prog 3 #[.slice q n c, .slice p m d] w fun e w' => e = .returned (.bool true) ∧ Below w.heap.size w w' := merges_any V l l' n m q p c d w hn hm hl hl'
theorem vtells_law (V : ViewOK) (l : List Mb) (n : Nat) (q : Option Addr) (c : Nat) (l' : List Mb) (m : Nat) (p : Option Addr) (d : Nat) (nd : Int) (w : World) (hn : l.length = n) (hl : GoodW w l q c) (hm : l'.length = m) (hl' : GoodW w l' p d) (hnd : -9223372036854775808 ≤ nd ∧ nd ≤ 9223372036854775807) :
    Calls Try.prog 4 #[.slice q n c, .slice p m d, .int .i64 nd] w fun e w' => e = .returned (.bool true) ∧ Below w.heap.size w w' := tells_any V l l' n m q p c d nd w hn hm hl hl' hnd
theorem vknown_law (V : ViewOK) (w : World) :
    Calls Try.prog 5 #[] w fun e w' => e = .returned (.bool true) ∧ Below w.heap.size w w' := known_any V w
theorem vforward_law (V : ViewOK) (l : List Mb) (n : Nat) (q : Option Addr) (c : Nat) (l' : List Mb) (m : Nat) (p : Option Addr) (d : Nat) (w : World) (hn : l.length = n) (hl : GoodW w l q c) (hm : l'.length = m) (hl' : GoodW w l' p d) :
    Calls Try.prog 7 #[.slice q n c, .slice p m d] w fun e w' => e = .returned (.bool true) ∧ Below w.heap.size w w' := forward_any V l l' n m q p c d w hn hm hl hl'
theorem vlive_law (V : ViewOK) (l : List Mb) (n : Nat) (q : Option Addr) (c : Nat) (nd : Int) (w : World) (hn : l.length = n) (hl : GoodW w l q c) (hnd : -9223372036854775808 ≤ nd ∧ nd ≤ 9223372036854775807) :
    Calls Try.prog 8 #[.slice q n c, .int .i64 nd] w fun e w' => e = .returned (.bool true) ∧ Below w.heap.size w w' := livelaw_any V l n q c nd w hn hl hnd
theorem vorder_law (V : ViewOK) (l : List Mb) (n : Nat) (q : Option Addr) (c : Nat) (xs : List Int) (m : Nat) (p : Option Addr) (d : Nat) (cut : Int) (w : World) (hn : l.length = n) (hl : GoodW w l q c) (hm : xs.length = m) (hx : GoodN w xs p d) (hc : -9223372036854775808 ≤ cut ∧ cut ≤ 9223372036854775807) :
    Calls Try.prog 6 #[.slice q n c, .slice p m d, .int .i64 cut] w fun e w' => e = .returned (.bool true) ∧ Below w.heap.size w w' := vorder_any V l xs n m q p c d cut w hn hm hl hx hc
end
section
set_option linter.unusedSimpArgs false
set_option linter.unusedVariables false
open Go.RowKit Sha
namespace Vw
/-- Below how many words a node stands. -/
def pos (l : List Mb) (k : Int) : Nat := (l.filter (fun x => decide (x.I < k))).length
theorem pos_le (l : List Mb) (k : Int) : pos l k ≤ l.length := List.length_filter_le ..
theorem pos_lt {l : List Mb} (h : Up l) (k : Int) (i : Nat) (hi : i < l.length) : i < pos l k ↔ l[i].I < k := by
  induction l generalizing i with
  | nil => simp at hi
  | cons a l ih =>
    have h1 := (List.pairwise_cons.1 h).1
    have h2 := (List.pairwise_cons.1 h).2
    unfold pos
    rw [List.filter_cons]
    by_cases ha : a.I < k
    · rw [if_pos (by simpa using ha), List.length_cons]
      cases i with
      | zero => simp [ha]
      | succ i =>
        have := ih h2 i (by simpa using hi)
        unfold pos at this
        rw [Nat.succ_lt_succ_iff]; simpa using this
    · rw [if_neg (by simpa using ha)]
      have h0 : (l.filter (fun x => decide (x.I < k))) = [] := by
        rw [List.filter_eq_nil_iff]; intro x hx; have := h1 x hx; simp; omega
      rw [h0]
      cases i with
      | zero => simpa using ha
      | succ i =>
        have hi' : i < l.length := by simpa using hi
        have := h1 l[i] (List.getElem_mem hi')
        simp only [List.length_nil, List.getElem_cons_succ]
        constructor
        · intro h; omega
        · intro h; omega
/-- Whether there is a word of that node. -/
def has (l : List Mb) (k : Int) : Bool := (word l k).isSome
theorem has_at {l : List Mb} (h : Up l) (k : Int) : has l k = true ↔ ∃ hi : pos l k < l.length, l[pos l k].I = k := by
  unfold has
  constructor
  · intro hw
    obtain ⟨x, hx⟩ := Option.isSome_iff_exists.1 hw
    obtain ⟨hm, he⟩ := word_some hx
    obtain ⟨i, hi, rfl⟩ := List.mem_iff_getElem.1 hm
    have h1 : ¬ i < pos l k := by rw [pos_lt h k i hi]; omega
    have h2 : ¬ pos l k < i := by
      intro hlt
      have hp : pos l k < l.length := by omega
      have h3 := h.lt hp hi hlt
      have h4 := (pos_lt h k (pos l k) hp)
      have : ¬ (pos l k < pos l k) := by omega
      rw [h4] at this; omega
    have e : pos l k = i := by omega
    exact ⟨by omega, by simpa [e] using he⟩
  · rintro ⟨hi, he⟩
    have := word_mem h (List.getElem_mem hi)
    rw [he] at this
    rw [this]; rfl
theorem word_at {l : List Mb} (h : Up l) {k : Int} (hi : pos l k < l.length) (he : l[pos l k].I = k) : word l k = some l[pos l k] := by
  have := word_mem h (List.getElem_mem hi)
  rwa [he] at this
end Vw
end
end Go.Proofs.Ytocfcfoocmkkdaa
