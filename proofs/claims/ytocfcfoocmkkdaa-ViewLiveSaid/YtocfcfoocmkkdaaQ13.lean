/-
  May all words be? The law ViewForward.
  A word in a row of words, stored anew.
-/
import Derived.Test.YtocfcfoocmkkdaaQ12
import Derived.Test.YtocfcfoocmkkdaaQ4
namespace Go.Proofs.Ytocfcfoocmkkdaa
section
set_option linter.unusedSimpArgs false
set_option linter.unusedVariables false
open Go.RowKit Sha
section
attribute [local go_sem ↓] execOp_loadM execOp_storeM execOp_eqlM execOp_neqM execOp_buildM
def Vw.Fine (l : List Mb) : Prop := ∀ x ∈ l, x.May
instance (l : List Mb) : Decidable (Vw.Fine l) := by unfold Vw.Fine; infer_instance
set_option maxRecDepth 100000 in
set_option maxHeartbeats 4000000 in
theorem fine_any (l : List Mb) (n : Nat) (q : Option Addr) (c : Nat) (w : World) (hn : l.length = n) (hl : GoodW w l q c) :
    Calls Try.prog 26 #[.slice q n c] w (BoolDone (decide (Vw.Fine l)) w) := by
  have HL := Lib.hid hl
  have HN := Lib.hid hn
  have b1 := hl.le
  have b2 := hl.max
  rw [hn] at b1
  clear hl hn
  go_enter Try.func26, Try.ntmps26
  go_wp2_with fail
  go_loopw [3] (fun i wr => ∃ k : Nat, i = .int .i64 k ∧ k ≤ n ∧ Hid (∀ y ∈ l.take k, y.May) ∧ Hid (Below w.heap.size w wr)) (fun i _ => n - (intOf i).toNat)
  case atStart => exact ⟨0, rfl, by omega, Lib.hid (by simp), Lib.hid (Below.refl _ _)⟩
  case round =>
    obtain ⟨k, rfl, hk, HY, HB⟩ := hrel
    by_cases hlt : k < n
    · have hk1 : k < l.length := by rw [HN.out]; exact hlt
      obtain ⟨b, off, rfl, hr⟩ := HL.out.get k hk1
      have l1 := run_loadM (rangeM_on hr HB.out)
      have jk : (0 : Int) ≤ (k : Int) ∧ (k : Int) < (n : Int) := by omega
      by_cases hmay : l[k].May
      · have HY2 := Lib.hid (show ∀ y ∈ l.take (k + 1), y.May from by
          intro y hy
          rw [List.take_succ_eq_append_getElem hk1] at hy
          rcases List.mem_append.1 hy with hy | hy
          · exact HY.out y hy
          · simp at hy; subst hy; exact hmay)
        have HCK := Lib.hid (check_ok hmay)
        generalize l[k] = y at *
        clear hmay HY hk1 hr
        go_wp2_with fail
        refine (HCK.out _).mono ?_
        rintro e w5 ⟨rfl, hb5⟩
        have HB5 := Lib.hid (below_next HB.out hb5)
        clear hb5 l1
        go_wp2_with fail
        go_roundw
        case rel => exact ⟨k + 1, by go_num, by omega, HY2, HB5⟩
        case measure => simp [intOf]; omega
      · have HCK := Lib.hid (check_no hmay)
        have HV := Lib.hid (show decide (Vw.Fine l) = false from decide_eq_false (fun h => hmay (h _ (List.getElem_mem hk1))))
        generalize l[k] = y at *
        clear hmay HY hk1 hr
        go_wp2_with fail
        refine (HCK.out _).mono ?_
        rintro e w5 ⟨rfl, hb5⟩
        have HB5 := Lib.hid (below_next HB.out hb5)
        clear hb5 l1
        go_wp2_with fail
        try rw [Exit.noGoto_ret]
        go_ret
        exact ⟨by rw [HV.out]; rfl, HB5.out⟩
    · obtain rfl : n = k := by omega
      have HV := Lib.hid (show decide (Vw.Fine l) = true from decide_eq_true (by have := HY.out; rwa [List.take_of_length_le (by rw [HN.out]; exact Nat.le_refl _)] at this))
      go_wp2_with fail
      go_ret
      exact ⟨by rw [HV.out]; rfl, HB.out⟩
theorem Vw.put_fresh_len (v words : List Mb) : (Vw.fresh v (Vw.put v words)).length ≤ (Vw.put v words).length := List.length_filter_le ..
/-- What a view tells of a word that came. -/
theorem Vw.get_came {v words : List Mb} (h : Vw.Ok v) (hw : ∀ x ∈ words, x.May) {x : Mb} (hx : x ∈ v ++ words) : ∃ m, Vw.get (Vw.put v words) x.I = (m, 0) ∧ (m = x ∨ m.Over x) := by
  have T := Vw.put_top h hw
  obtain ⟨m, hm, he, hn⟩ := T.top x (List.mem_append.1 hx)
  have hwd := Vw.word_mem T.ok.2 hm
  rw [he] at hwd
  refine ⟨m, by unfold Vw.get; rw [if_pos T.ok, hwd], ?_⟩
  have hxm : x.May := by rcases List.mem_append.1 hx with h1 | h1; exact h.1 x h1; exact hw x h1
  have hb : m.Both x := ⟨T.ok.1 m hm, hxm, he⟩
  rcases Mb.up_or (a := m) (b := x) he with u | u | u
  · exact Or.inr ⟨hb, u⟩
  · exact absurd u hn
  · exact Or.inl u
/-- What is told of a word of the view behind. -/
theorem Vw.fresh_told {v words : List Mb} (h : Vw.Ok v) (hw : ∀ x ∈ words, x.May) {y : Mb} (hy : y ∈ Vw.put v words) :
    (Vw.get v y.I = (y, 0) ∧ Vw.get (Vw.fresh v (Vw.put v words)) y.I = (Mb.none, 6)) ∨
    (∃ was fe, Vw.get v y.I = (was, fe) ∧ (fe = 0 ∧ was ≠ y ∨ fe = 6) ∧ Vw.get (Vw.fresh v (Vw.put v words)) y.I = (y, 0) ∧ y ∈ words) := by
  have T := Vw.put_top h hw
  have F := Vw.fresh_ok (v := v) T.ok
  by_cases hwd : Vw.word v y.I = some y
  · left
    refine ⟨by unfold Vw.get; rw [if_pos h, hwd], ?_⟩
    have : Vw.word (Vw.fresh v (Vw.put v words)) y.I = none := Vw.word_none.2 fun x hx e => by
      obtain ⟨h1, h2⟩ := Vw.fresh_mem.1 hx
      have := T.ok.2.same h1 hy e
      subst this
      exact h2 hwd
    unfold Vw.get; rw [if_pos F, this]
  · right
    have hf : y ∈ Vw.fresh v (Vw.put v words) := Vw.fresh_mem.2 ⟨hy, hwd⟩
    have hin : y ∈ words := by
      rcases T.sub y hy with h1 | h1
      · exact absurd (Vw.word_mem h.2 h1) hwd
      · exact h1
    have hg : Vw.get (Vw.fresh v (Vw.put v words)) y.I = (y, 0) := by unfold Vw.get; rw [if_pos F, Vw.word_mem F.2 hf]
    cases hv : Vw.word v y.I with
    | none => exact ⟨Mb.none, 6, by unfold Vw.get; rw [if_pos h, hv], Or.inr rfl, hg, hin⟩
    | some z => exact ⟨z, 0, by unfold Vw.get; rw [if_pos h, hv], Or.inl ⟨rfl, fun e => hwd (by rw [hv, e])⟩, hg, hin⟩
theorem fsaid_step {words : List Mb} {y : Mb} {bb : Bool} {k : Nat} (hk : k < words.length) (h : bb = true ↔ ∃ (j : Nat) (h : j < words.length), j < k ∧ words[j] = y) : (bb || decide (words[k] = y)) = true ↔ ∃ (j : Nat) (h : j < words.length), j < k + 1 ∧ words[j] = y := by
  rw [Bool.or_eq_true, h, decide_eq_true_iff]
  constructor
  · rintro (⟨j, h, h1, h2⟩ | h)
    · exact ⟨j, h, by omega, h2⟩
    · exact ⟨k, hk, by omega, h⟩
  · rintro ⟨j, h, h1, h2⟩
    by_cases e : j = k
    · subst e; exact Or.inr h2
    · exact Or.inl ⟨j, h, by omega, h2⟩
set_option maxRecDepth 100000 in
set_option maxHeartbeats 16000000 in
theorem forward_any (V : ViewOK) (l l' : List Mb) (n m : Nat) (q p : Option Addr) (c d : Nat) (w : World) (hn : l.length = n) (hm : l'.length = m) (hl : GoodW w l q c) (hl' : GoodW w l' p d) :
    Calls Try.prog 7 #[.slice q n c, .slice p m d] w (BoolDone true w) := by
  have HL := Lib.hid hl
  have HR := Lib.hid hl'
  have HN := Lib.hid hn
  have HM := Lib.hid hm
  have b1 := hl.le
  have b2 := hl.max
  have b3 := hl'.le
  have b4 := hl'.max
  rw [hn] at b1
  rw [hm] at b3
  clear hl hl' hn hm
  go_enter Try.func7, Try.ntmps7
  go_wp2_with fail
  refine (awake_any V _).mono ?_
  rintro e w1 ⟨rfl, hb1⟩
  have HB1 := Lib.hid hb1
  clear hb1
  by_cases h1 : n ≤ 60
  · have t1 : decide ((60 : Int) < (n : Int)) = false := decide_eq_false (by omega)
    by_cases h2 : m ≤ 60
    · have t2 : decide ((60 : Int) < (m : Int)) = false := decide_eq_false (by omega)
      have HC := Lib.hid (fun w' (hb : Below w.heap.size w w') => V.check l n q c w' HN.out (HL.out.below hb) (by omega))
      by_cases hok : Vw.Ok l
      · rw [show Vw.err l = 0 from if_pos hok] at HC
        have HFI := Lib.hid (fun w' (hb : Below w.heap.size w w') => fine_any l' m p d w' HM.out (HR.out.below hb))
        by_cases hfi : Vw.Fine l'
        · rw [show decide (Vw.Fine l') = true from decide_eq_true hfi] at HFI
          have HOK := Lib.hid hok
          have HFN := Lib.hid hfi
          clear hok hfi
          go_wp2_with fail
          refine (HC.out _ HB1.out).mono ?_
          rintro e w2 ⟨rfl, hb2⟩
          have HB2 := Lib.hid (below_next HB1.out hb2)
          clear hb2
          go_wp2_with fail
          refine (HFI.out _ HB2.out).mono ?_
          rintro e w3 ⟨rfl, hb3⟩
          have HB3 := Lib.hid (below_next HB2.out hb3)
          clear hb3
          have HMG := Lib.hid (V.merge l l' n m q p c d w3 HN.out HM.out (HL.out.below HB3.out) (HR.out.below HB3.out) (by omega) (by omega))
          rw [Vw.mrg_ok HOK.out HFN.out] at HMG
          have HTOP := Lib.hid (Vw.put_top HOK.out HFN.out)
          have HCAME := Lib.hid (fun x (hx : x ∈ l ++ l') => Vw.get_came HOK.out HFN.out hx)
          have HTOLD := Lib.hid (fun y (hy : y ∈ Vw.put l l') => Vw.fresh_told HOK.out HFN.out hy)
          have hlen := Vw.put_length l l'
          have hlen2 := Vw.put_fresh_len l l'
          rw [HN.out, HM.out] at hlen
          have HFO := Lib.hid (Vw.fresh_ok (v := l) HTOP.out.ok)
          generalize hnow : Vw.put l l' = now at *
          generalize Vw.fresh l now = fre at *
          have HNO := Lib.hid HTOP.out.ok
          clear hnow HTOP HC HFI
          obtain ⟨na, hna⟩ : ∃ na, now.length = na := ⟨_, rfl⟩
          obtain ⟨nb, hnb⟩ : ∃ nb, fre.length = nb := ⟨_, rfl⟩
          rw [hna] at hlen hlen2
          rw [hnb] at hlen2
          have HNA := Lib.hid hna
          have HNB := Lib.hid hnb
          clear hna hnb
          go_wp2_with fail
          refine HMG.out.mono ?_
          rintro e w4 ⟨ra, rb, rfl, ha, hb, _, hb4⟩
          have ha : w4.ownsRow w3.heap.size mt 3 ra na (now.flatMap mc) := by rw [← HNA.out]; exact ha
          have hb : w4.ownsRow w3.heap.size mt 3 rb nb (fre.flatMap mc) := by rw [← HNB.out]; exact hb
          obtain ⟨qa, ka, rfl, ga⟩ := own_good ha (fun x hx => (HNO.out.1 x hx).ok)
          obtain ⟨qb, kb, rfl, gb⟩ := own_good hb (fun x hx => (HFO.out.1 x hx).ok)
          have GA := Lib.hid ga
          have GB := Lib.hid gb
          have fa := ga.le
          have fb := gb.le
          have fam := ga.max
          have fbm := gb.max
          rw [HNA.out] at fa
          rw [HNB.out] at fb
          have HB4 := Lib.hid (below_next HB3.out hb4)
          clear ha hb ga gb hb4 HMG HB1 HB2 HB3
          have HC1 := Lib.hid (fun w' (hb : Below w4.heap.size w4 w') => V.check now na qa ka w' HNA.out (GA.out.below hb) (by omega))
          have HC2 := Lib.hid (fun w' (hb : Below w4.heap.size w4 w') => V.check fre nb qb kb w' HNB.out (GB.out.below hb) (by omega))
          rw [show Vw.err now = 0 from if_pos HNO.out] at HC1
          rw [show Vw.err fre = 0 from if_pos HFO.out] at HC2
          go_wp2_with fail
          refine (HC1.out _ (Below.refl _ _)).mono ?_
          rintro e w5 ⟨rfl, hb5⟩
          go_wp2_with fail
          refine (HC2.out _ hb5).mono ?_
          rintro e w6 ⟨rfl, hb6⟩
          have hb6 := below_next hb5 hb6
          have HB6 := Lib.hid (below_next HB4.out hb6)
          have GA6 := Lib.hid (GA.out.below hb6)
          have GB6 := Lib.hid (GB.out.below hb6)
          clear hb5 hb6 HC1 HC2 GA GB HB4
          have c0 := run_buildM0 w6
          have O0 := own_empty_w w6 w6.heap.size (Nat.le_refl _)
          have BAe := Lib.hid (show Below w6.heap.size w6 (w6.alloc (.cells #[] mt)) from (Below.refl _ _).alloc (Nat.le_refl _) _)
          have LA := (HL.out.below HB6.out).below BAe.out
          generalize w6.alloc (.cells #[] mt) = wa at *
          have tk1 : True := trivial
          go_wp2_with ((first
            | (have _t := tk1; refine wpList_app_s rfl _ _ 22 rfl w6.heap.size mt (z := .agg #[.int .i64 0, .int .i64 0, .int .i64 0]) (by decide) Try.underlying22 mem_info rfl _ 0 [] rfl O0 q n c (l.flatMap mc) rfl LA.at_ (by rw [wflat_length, HN.out]) LA.nil b1 (wflat_one l) (by omega) (by unfold maxLen; omega) BAe.out.size ?_; intro v1 w7 hv1 hgr1 _; (have B7e := Lib.hid (grown_below BAe.out hgr1 (fun g e => (own_base_w O0 g e).1) BAe.out.size)); rw [Nat.zero_add, List.nil_append] at hv1; (have H1 := Lib.hid hv1); (have LB := (HR.out.below HB6.out).below B7e.out); (have tk2 : True := trivial); clear tk1 _t hv1 hgr1)
            | (have _t := tk2; refine wpList_app_s rfl _ _ 22 rfl w6.heap.size mt (z := .agg #[.int .i64 0, .int .i64 0, .int .i64 0]) (by decide) Try.underlying22 mem_info rfl _ n (l.flatMap mc) rfl H1.out p m d (l'.flatMap mc) rfl LB.at_ (by rw [wflat_length, HM.out]) LB.nil b3 (wflat_one l') (by omega) (by unfold maxLen; omega) B7e.out.size ?_; intro v2 w8 hv2 hgr2 _; (have B8e := Lib.hid (grown_below B7e.out hgr2 (fun g e => (own_base_w H1.out g e).1) B7e.out.size)); rw [← List.flatMap_append] at hv2; (have H2 := Lib.hid hv2); clear tk2 _t hv2 hgr2)))
          obtain ⟨qs, ks, rfl, gs⟩ := own_good H2.out (fun x hx => by rcases List.mem_append.1 hx with h | h; exact HL.out.ok x h; exact HR.out.ok x h)
          have GS := Lib.hid gs
          have fs := gs.le
          have fsm := gs.max
          have HSL := Lib.hid (show (l ++ l').length = n + m from by rw [List.length_append, HN.out, HM.out])
          rw [HSL.out] at fs
          have HB8 := Lib.hid (below_next HB6.out B8e.out)
          have GA8 := Lib.hid (GA6.out.below B8e.out)
          have GB8 := Lib.hid (GB6.out.below B8e.out)
          clear gs H1 H2 LA LB O0 c0 BAe B7e B8e GA6 GB6 HB6
          generalize hns : n + m = ns at *
          have HNS := Lib.hid hns
          have hnsb : ns ≤ 120 := by omega
          clear hns
          generalize hsl : l ++ l' = said at *
          clear hsl
          go_loopw [10] (fun i wr => ∃ k : Nat, i = .int .i64 k ∧ k ≤ ns ∧ Hid (Below w8.heap.size w8 wr)) (fun i _ => ns - (intOf i).toNat)
          case atStart => exact ⟨0, rfl, Nat.zero_le _, Lib.hid (Below.refl _ _)⟩
          case round =>
            obtain ⟨k, rfl, hk, HBL⟩ := hrel
            by_cases hlt : k < ns
            · have hkl : k < said.length := by rw [HSL.out]; exact hlt
              obtain ⟨b, off, hqq, hr⟩ := GS.out.get k hkl
              subst hqq
              have HRG := Lib.hid (fun w' (hb : Below w8.heap.size w8 w') => rangeM_on hr hb)
              have jk : (0 : Int) ≤ (k : Int) ∧ (k : Int) < (ns : Int) := by omega
              have cI := rangeM_I (HRG.out _ HBL.out)
              obtain ⟨mm0, hg0, hmm⟩ := HCAME.out said[k] (List.getElem_mem hkl)
              have hxo := GS.out.ok said[k] (List.getElem_mem hkl)
              have HGT := Lib.hid (fun w' (hb : Below w8.heap.size w8 w') => V.get now na qa ka said[k].I w' HNA.out (GA8.out.below hb) (by omega) hxo.i)
              rw [hg0] at HGT
              generalize said[k] = x at *
              clear hr hg0 hxo hkl
              go_wp2_with fail
              refine (HGT.out _ HBL.out).mono ?_
              rintro e w9 ⟨rfl, hb9⟩
              have s9 := put_run w9 mm0
              have P9 := Lib.hid (put_blk w9 mm0)
              have HB9 := Lib.hid (below_next HBL.out (Below.go hb9 (put_below w9 mm0)))
              clear hb9 cI
              generalize putM w9 mm0 = w10 at *
              go_wp2_with fail
              generalize w9.heap.size = gm at *
              obtain ⟨I, W, hC⟩ := cls_of w10
              have hne : Nonempty I := hC.ne
              have m1 := fun i => run_loadM (rangeM_of (P9.out.upon (hC.back i)))
              have m2 := fun i => run_loadM (HRG.out _ (below_next HB9.out (hC.back i)))
              by_cases hxy : mm0 = x
              · have HQ := run_neqM mm0 x false (by simp [hxy])
                have HCW := Lib.hid hC
                clear hC hxy hmm s9 HGT
                refine wp_region_cls W (by kernel_rfl) (by kernel_rfl) HCW.out.one ?_
                repeat go_big_quiet_step (fail)
                refine wpQuiet_nil ?_
                rintro _ ⟨mm, rfl⟩
                have HB10 := Lib.hid (below_next HB9.out (HCW.out.back mm))
                clear m1 m2 HQ HCW
                generalize W mm = w11 at *
                go_wp2_with fail
                go_roundw
                case rel => exact ⟨k + 1, by go_num, by omega, HB10⟩
                case measure => simp [intOf]; omega
              · have hov : mm0.Over x := hmm.resolve_left hxy
                have HQ := run_neqM mm0 x true (by simp [hxy])
                have QO := Lib.hid (hC.call (P := Try.prog) (f := 28) (args := #[mv mm0, mv x]) (v := .bool true) (fun w' hb => over_at (decide_eq_true hov) w'))
                have HCW := Lib.hid hC
                clear hC hxy hmm hov s9 HGT
                refine wp_region_cls W (by kernel_rfl) (by kernel_rfl) HCW.out.one ?_
                repeat go_big_quiet_step (((first | (go_at_call 28; exact QO.out _))))
                refine wpQuiet_nil ?_
                rintro _ ⟨mm, rfl⟩
                have HB10 := Lib.hid (below_next HB9.out (HCW.out.back mm))
                clear m1 m2 HQ HCW QO
                generalize W mm = w11 at *
                go_wp2_with fail
                go_roundw
                case rel => exact ⟨k + 1, by go_num, by omega, HB10⟩
                case measure => simp [intOf]; omega
            · obtain rfl : ns = k := by omega
              clear hk hlt HCAME
              go_wp2_with fail
              rename World => w9
              go_loopw [13] (fun i wr => ∃ k : Nat, i = .int .i64 k ∧ k ≤ na ∧ Hid (Below w8.heap.size w8 wr)) (fun i _ => na - (intOf i).toNat)
              case atStart => exact ⟨0, rfl, Nat.zero_le _, HBL⟩
              case round =>
                clear HBL
                obtain ⟨k, rfl, hk, HBL⟩ := hrel
                rename World => wr
                by_cases hlt : k < na
                · have hkl : k < now.length := by rw [HNA.out]; exact hlt
                  obtain ⟨b, off, hqq, hr⟩ := GA8.out.get k hkl
                  subst hqq
                  have HRG := Lib.hid (fun w' (hb : Below w8.heap.size w8 w') => rangeM_on hr hb)
                  have jk : (0 : Int) ≤ (k : Int) ∧ (k : Int) < (na : Int) := by omega
                  have cI := rangeM_I (HRG.out _ HBL.out)
                  have htold := HTOLD.out now[k] (List.getElem_mem hkl)
                  have hxo := GA8.out.ok now[k] (List.getElem_mem hkl)
                  have HG1 := Lib.hid (fun w' (hb : Below w8.heap.size w8 w') => V.get l n q c now[k].I w' HN.out (HL.out.below (below_next HB8.out hb)) (by omega) hxo.i)
                  have HG2 := Lib.hid (fun w' (hb : Below w8.heap.size w8 w') => V.get fre nb qb kb now[k].I w' HNB.out (GB8.out.below hb) (by omega) hxo.i)
                  generalize now[k] = y at *
                  obtain ⟨was, fe, xx, ge, e1, e2, hcase⟩ : ∃ was fe xx ge, Vw.get l y.I = (was, fe) ∧ Vw.get fre y.I = (xx, ge) ∧ ((fe = 0 ∧ was = y ∧ ge = 6) ∨ (((fe = 0 ∧ was ≠ y) ∨ fe = 6) ∧ ge = 0 ∧ xx = y ∧ y ∈ l')) := by
                    rcases htold with ⟨a1, a2⟩ | ⟨was, fe, a1, a2, a3, a4⟩
                    · exact ⟨y, 0, Mb.none, 6, a1, a2, Or.inl ⟨rfl, rfl, rfl⟩⟩
                    · exact ⟨was, fe, y, 0, a1, a3, Or.inr ⟨a2, rfl, rfl, a4⟩⟩
                  rw [e1] at HG1
                  rw [e2] at HG2
                  have HCASE := Lib.hid hcase
                  clear hr hxo hkl htold e1 e2 hcase
                  go_wp2_with fail
                  refine (HG1.out _ HBL.out).mono ?_
                  rintro e w10 ⟨rfl, hb10⟩
                  have s10 := put_run w10 was
                  have PW := Lib.hid (put_blk w10 was)
                  have HB10 := Lib.hid (below_next HBL.out (Below.go hb10 (put_below w10 was)))
                  have cI2 := rangeM_I (HRG.out _ HB10.out)
                  clear hb10 cI
                  generalize putM w10 was = w11 at *
                  go_wp2_with fail
                  generalize w10.heap.size = gw at *
                  clear s10
                  refine (HG2.out _ HB10.out).mono ?_
                  rintro e w12 ⟨rfl, hb12⟩
                  have s12 := put_run w12 xx
                  have PX := Lib.hid (put_blk w12 xx)
                  have hb13 := Below.go hb12 (put_below w12 xx)
                  have HB12 := Lib.hid (below_next HB10.out hb13)
                  have PW2 := Lib.hid (PW.out.upon hb13)
                  clear hb12 hb13 cI2 PW HG1 HG2
                  generalize putM w12 xx = w13 at *
                  go_wp2_with fail
                  generalize w12.heap.size = gx at *
                  clear s12
                  go_loopw [19, 18] (fun i s wt => ∃ (j : Nat) (bb : Bool), i = .int .i64 j ∧ s = .bool bb ∧ j ≤ m ∧ Hid (bb = true ↔ ∃ (t : Nat) (h : t < l'.length), t < j ∧ l'[t] = y) ∧ Hid (Below w13.heap.size w13 wt)) (fun i _ _ => m - (intOf i).toNat)
                  case atStart => exact ⟨0, false, rfl, rfl, Nat.zero_le _, Lib.hid (by simp), Lib.hid (Below.refl _ _)⟩
                  case round =>
                    obtain ⟨j, bb, rfl, rfl, hj, HBB, HBJ⟩ := hrel
                    rename World => wt
                    have HBW := Lib.hid (below_next HB12.out HBJ.out)
                    by_cases hjm : j < m
                    · have hjl : j < l'.length := by rw [HM.out]; exact hjm
                      obtain ⟨b2', off2, hqq2, hr2⟩ := HR.out.get j hjl
                      subst hqq2
                      have HRJ := Lib.hid (fun w' (hb : Below wt.heap.size wt w') => rangeM_on hr2 (below_next HB8.out (below_next HBW.out hb)))
                      have jj : (0 : Int) ≤ (j : Int) ∧ (j : Int) < (m : Int) := by omega
                      have HBB2 := Lib.hid (fsaid_step (y := y) hjl HBB.out)
                      generalize l'[j] = u at *
                      obtain ⟨I, W, hC⟩ := cls_of wt
                      have hne : Nonempty I := hC.ne
                      have m1 := fun i => run_loadM (HRJ.out _ (hC.back i))
                      have m2 := fun i => run_loadM (HRG.out _ (below_next HBW.out (hC.back i)))
                      have HQ := run_eqlM u y (decide (u = y)) rfl
                      have HCW := Lib.hid hC
                      clear hC hr2 hjl
                      cases bb with
                      | true =>
                        go_wp2_with fail
                        refine wp_region_cls W (by kernel_rfl) (by kernel_rfl) HCW.out.one ?_
                        repeat go_big_quiet_step (fail)
                        refine wpQuiet_nil ?_
                        rintro _ ⟨mm, rfl⟩
                        have HBX := Lib.hid (below_next HBJ.out (HCW.out.back mm))
                        clear m1 m2 HQ HCW
                        generalize W mm = wx at *
                        go_wp2_with fail
                        go_roundw
                        case rel => exact ⟨j + 1, _, by go_num, rfl, by omega, by simpa using HBB2, HBX⟩
                        case measure => simp [intOf]; omega
                      | false =>
                        go_wp2_with fail
                        refine wp_region_cls W (by kernel_rfl) (by kernel_rfl) HCW.out.one ?_
                        repeat go_big_quiet_step (fail)
                        refine wpQuiet_nil ?_
                        rintro _ ⟨mm, rfl⟩
                        have HBX := Lib.hid (below_next HBJ.out (HCW.out.back mm))
                        clear m1 m2 HQ HCW
                        generalize W mm = wx at *
                        go_wp2_with fail
                        go_roundw
                        case rel => exact ⟨j + 1, _, by go_num, rfl, by omega, by simpa using HBB2, HBX⟩
                        case measure => simp [intOf]; omega
                    · obtain rfl : m = j := by omega
                      have HBF := Lib.hid (show bb = true ↔ y ∈ l' from by
                        rw [HBB.out]
                        constructor
                        · rintro ⟨t, h, _, e⟩; exact e ▸ List.getElem_mem h
                        · intro h; obtain ⟨t, ht, e⟩ := List.mem_iff_getElem.1 h; exact ⟨t, ht, by have := HM.out; omega, e⟩)
                      obtain ⟨I, W, hC⟩ := cls_of wt
                      have hne : Nonempty I := hC.ne
                      have m1 := fun i => run_loadM (rangeM_of (PW2.out.upon (below_next HBJ.out (hC.back i))))
                      have m2 := fun i => run_loadM (rangeM_of (PX.out.upon (below_next HBJ.out (hC.back i))))
                      have m3 := fun i => run_loadM (HRG.out _ (below_next HBW.out (hC.back i)))
                      have HCW := Lib.hid hC
                      clear hC
                      rcases HCASE.out with ⟨f1, f2, f3⟩ | ⟨f1, f2, f3, f4⟩
                      · subst f1 f2 f3
                        have HQ := run_eqlM was was true (by simp)
                        clear HCASE
                        go_wp2_with fail
                        refine wp_region_cls W (by kernel_rfl) (by kernel_rfl) HCW.out.one ?_
                        repeat go_big_quiet_step (fail)
                        refine wpQuiet_nil ?_
                        rintro _ ⟨mm, rfl⟩
                        have HBX := Lib.hid (below_next HBW.out (HCW.out.back mm))
                        clear m1 m2 m3 HCW
                        generalize W mm = wx at *
                        go_wp2_with fail
                        go_roundw
                        case rel => exact ⟨k + 1, by go_num, by omega, HBX⟩
                        case measure => simp [intOf]; omega
                      · obtain rfl : bb = true := HBF.out.2 f4
                        subst f2 f3
                        have HQN := run_neqM xx xx false (by simp)
                        rcases f1 with ⟨f1, f5⟩ | f1
                        · subst f1
                          have HQ := run_eqlM was xx false (by simp [f5])
                          clear HCASE f5 f4
                          go_wp2_with fail
                          refine wp_region_cls W (by kernel_rfl) (by kernel_rfl) HCW.out.one ?_
                          repeat go_big_quiet_step (fail)
                          refine wpQuiet_nil ?_
                          rintro _ ⟨mm, rfl⟩
                          have HBX := Lib.hid (below_next HBW.out (HCW.out.back mm))
                          clear m1 m2 m3 HCW
                          generalize W mm = wx at *
                          go_wp2_with fail
                          go_roundw
                          case rel => exact ⟨k + 1, by go_num, by omega, HBX⟩
                          case measure => simp [intOf]; omega
                        · subst f1
                          clear HCASE f4
                          go_wp2_with fail
                          refine wp_region_cls W (by kernel_rfl) (by kernel_rfl) HCW.out.one ?_
                          repeat go_big_quiet_step (fail)
                          refine wpQuiet_nil ?_
                          rintro _ ⟨mm, rfl⟩
                          have HBX := Lib.hid (below_next HBW.out (HCW.out.back mm))
                          clear m1 m2 m3 HCW
                          generalize W mm = wx at *
                          go_wp2_with fail
                          go_roundw
                          case rel => exact ⟨k + 1, by go_num, by omega, HBX⟩
                          case measure => simp [intOf]; omega
                · obtain rfl : na = k := by omega
                  have HBE := Lib.hid (below_next HB8.out HBL.out)
                  go_wp2_with fail
                  go_ret
                  exact ⟨rfl, HBE.out⟩
        · rw [show decide (Vw.Fine l') = false from decide_eq_false hfi] at HFI
          clear hfi hok
          go_wp2_with fail
          refine (HC.out _ HB1.out).mono ?_
          rintro e w2 ⟨rfl, hb2⟩
          have HB2 := Lib.hid (below_next HB1.out hb2)
          go_wp2_with fail
          refine (HFI.out _ HB2.out).mono ?_
          rintro e w3 ⟨rfl, hb3⟩
          have HB3 := Lib.hid (below_next HB2.out hb3)
          go_wp2_with fail
          go_ret
          exact ⟨rfl, HB3.out⟩
      · rw [show Vw.err l = 2 from if_neg hok] at HC
        clear hok
        go_wp2_with fail
        refine (HC.out _ HB1.out).mono ?_
        rintro e w2 ⟨rfl, hb2⟩
        have HB2 := Lib.hid (below_next HB1.out hb2)
        go_wp2_with fail
        go_ret
        exact ⟨rfl, HB2.out⟩
    · have t2 : decide ((60 : Int) < (m : Int)) = true := decide_eq_true (by omega)
      go_wp2_with fail
      go_ret
      exact ⟨rfl, HB1.out⟩
  · have t1 : decide ((60 : Int) < (n : Int)) = true := decide_eq_true (by omega)
    go_wp2_with fail
    go_ret
    exact ⟨rfl, HB1.out⟩
end
end
section
set_option linter.unusedSimpArgs false
set_option linter.unusedVariables false
open Go.RowKit Sha
theorem wflat_setm (l : List Mb) (rest : List Value) (k : Nat) (hk : k < l.length) (x : Mb) : (((l.flatMap mc ++ rest).set (k * 3) (.int .i64 x.I)).set (k * 3 + 1) (.int .i64 x.S)).set (k * 3 + 1 + 1) (.int .i64 x.N) = (l.set k x).flatMap mc ++ rest := by
  induction l generalizing k with
  | nil => simp at hk
  | cons y l ih =>
    cases k with
    | zero => simp
    | succ k =>
      have h := ih k (by simpa using hk)
      rw [show (k + 1) * 3 = k * 3 + 3 by omega]
      simp only [List.flatMap_cons, List.set_cons_succ]
      rw [show k * 3 + 3 + 1 = k * 3 + 1 + 3 by omega, show k * 3 + 1 + 3 + 1 = k * 3 + 1 + 1 + 3 by omega]
      simp only [mc, List.cons_append, List.nil_append, List.set_cons_succ] at h ⊢
      rw [h]
end
end Go.Proofs.Ytocfcfoocmkkdaa
