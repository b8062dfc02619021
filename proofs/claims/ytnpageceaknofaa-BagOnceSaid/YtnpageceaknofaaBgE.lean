/-
  The law BagScript, over what bags of numbers are asked to do.
-/
import Derived.Test.YtnpageceaknofaaBgD
import Derived.Test.YtnpageceaknofaaActs
import Derived.Test.YtnpageceaknofaaObjN
import Derived.Deep.RegionHeld3
namespace Go.Proofs.Ytnpageceaknofaa
set_option linter.unusedSimpArgs false
set_option linter.unusedVariables false
open Go.RowKit Sha Bag
/-- A call on a third one leaves the two as they were. -/
theorem Pair.aside {S1 S2 : Type} {R1 : ObjRep S1} {R2 : ObjRep S2} (K1 : Held R1) (K2 : Held R2) {w0 w w' : World} {b1 b2 : Nat} {f1 f2 fp : List Nat} {s1 : S1} {s2 : S2} (h : Pair R1 R2 w0 w b1 f1 s1 b2 f2 s2) (ht : Touch fp w w') (h1 : Apart fp f1) (h2 : Apart fp f2) (hn : ∀ k ∈ fp, w0.heap.size ≤ k) : Pair R1 R2 w0 w' b1 f1 s1 b2 f2 s2 :=
  ⟨K1.touch h.one ht h1, K2.touch h.two ht h2, h.apart, h.new1, h.new2, h.below.trans (ht.below hn h.below.size)⟩
/-- A third object beside two. -/
structure Three {S1 S2 S3 : Type} (R1 : ObjRep S1) (R2 : ObjRep S2) (R3 : ObjRep S3) (w0 w : World) (b1 : Nat) (f1 : List Nat) (s1 : S1) (b2 : Nat) (f2 : List Nat) (s2 : S2) (b3 : Nat) (f3 : List Nat) (s3 : S3) : Prop where
  pair : Pair R1 R2 w0 w b1 f1 s1 b2 f2 s2
  three : R3 w b3 f3 s3
  a1 : Apart f3 f1
  a2 : Apart f3 f2
  new3 : ∀ k ∈ f3, w0.heap.size ≤ k
theorem Three.step3 {S1 S2 S3 : Type} {R1 : ObjRep S1} {R2 : ObjRep S2} {R3 : ObjRep S3} (K1 : Held R1) (K2 : Held R2) {w0 w w' : World} {b1 b2 b3 : Nat} {f1 f2 f3 f3' : List Nat} {s1 : S1} {s2 : S2} {s3 s3' : S3} (h : Three R1 R2 R3 w0 w b1 f1 s1 b2 f2 s2 b3 f3 s3)
    (hr : R3 w' b3 f3' s3') (ht : Touch f3 w w') (hf : From f3 f3' w) : Three R1 R2 R3 w0 w' b1 f1 s1 b2 f2 s2 b3 f3' s3' :=
  ⟨h.pair.aside K1 K2 ht h.a1 h.a2 h.new3, hr, h.a1.from_ hf (K1.low h.pair.one), h.a2.from_ hf (K2.low h.pair.two), hf.low h.new3 h.pair.below.size⟩
/-- A copy of the first one takes its place; the old one stands beside. -/
theorem Three.copied {S1 S2 : Type} {R1 : ObjRep S1} {R2 : ObjRep S2} (K1 : Held R1) (K2 : Held R2) {w0 w w' : World} {b1 b2 c : Nat} {f1 f2 f1' gp : List Nat} {s1 : S1} {s2 : S2} (h : Pair R1 R2 w0 w b1 f1 s1 b2 f2 s2)
    (hr : R1 w' b1 f1' s1) (hc : R1 w' c gp s1) (ht : Touch f1 w w') (hf : From f1 f1' w) (hn : ∀ k ∈ gp, w.heap.size ≤ k) (ha : Apart f1' gp) : Three R1 R2 R1 w0 w' c gp s1 b2 f2 s2 b1 f1' s1 :=
  ⟨⟨hc, K2.touch h.two ht h.apart, fun k a b => by have := hn k a; have := K2.low h.two k b; omega, fun k hk => Nat.le_trans h.below.size (hn k hk), h.new2, h.below.trans (ht.below h.new1 h.below.size)⟩, hr, ha, h.apart.from_ hf (K2.low h.two), hf.low h.new1 h.below.size⟩
theorem RefBag.good {w : World} {b m n c : Nat} {p : Option Addr} {fp : List Nat} {l : List Int} (h : RefBag w b fp (m, l)) (hc : w.cell? ⟨b, 1, none⟩ = some (.slice p n c)) : l.length = n ∧ GoodN w l p c := by
  obtain ⟨v, _, hb, ho, hf, _, _, _⟩ := h
  obtain ⟨q, d, hv, hl, hm, hA, hx, hn⟩ := own_at ho
  have h1 : w.cell? ⟨b, 1, none⟩ = some v := hb.cell 1
  rw [h1, hv] at hc
  cases hc
  exact ⟨rfl, hf, hA, hl, by unfold maxLen at hm; omega, hn⟩
theorem RefBag.told {w : World} {b m : Nat} {fp : List Nat} {l : List Int} (h : RefBag w b fp (m, l)) : ∃ v p c, Blk w b [v64 m, v] 42 ∧ v = .slice p l.length c ∧ m ≤ 2000 ∧ l.length ≤ m ∧ b ∈ fp := by
  obtain ⟨v, hfp, hb, ho, hf, h1, h2, _⟩ := h
  obtain ⟨q, d, hv, hl, hm, hA, hx, hn⟩ := own_at ho
  exact ⟨v, q, d, hb, hv, h2, h1, by rw [hfp]; simp⟩
set_option maxRecDepth 100000 in
set_option maxHeartbeats 4000000 in
theorem script_any {R : BagRep Int} (F : NumBagOK R) (r : Int) (acts : List (Int × Int)) (n : Nat) (p : Option Addr) (cap : Nat) (w : World) (hr : -9223372036854775808 ≤ r ∧ r ≤ 9223372036854775807) (hn : acts.length = n) (ha : GoodA w acts p cap) :
    Calls Try.prog 3 #[v64 r, .slice p n cap] w fun e w' => e = .returned (.bool true) ∧ Below w.heap.size w w' := by
  have K := Lib.hid F.ok.held
  have GA := Lib.hid ha
  have HN := Lib.hid hn
  have HR := Lib.hid hr
  have hc1 := ha.le
  have hc2 := ha.max
  rw [hn] at hc1
  have HNX := Lib.hid (F.ok.new r w HR.out)
  clear ha hn hr
  go_enter Try.func3, Try.ntmps3
  go_wp2_with fail
  refine HNX.out.mono ?_
  rintro e w1 ⟨hb1, hx⟩
  have B1 := Lib.hid hb1
  rcases hx with ⟨hz, bx, fx, rfl, hrx, hnx⟩ | ⟨hz, rfl⟩
  · have HX := Lib.hid (show R w1 bx fx (r.toNat, []) from hrx)
    have NX := Lib.hid hnx
    have HZ := Lib.hid hz
    clear hb1 hrx hnx hz HNX
    go_wp2_with fail
    refine (refBagOK.new r w1 HR.out).mono ?_
    rintro e w2 ⟨hb2, ⟨_, bw, fw, rfl, hrw, hnw⟩ | ⟨hz2, _⟩⟩
    · have S2 := Lib.hid (show TwoB R w w2 bx fx bw fw r.toNat [] from Pair.made K.out HX.out NX.out B1.out hb2 hrw hnw)
      clear hb2 hrw hnw HX NX B1
      by_cases hbig : 200 < n
      · go_wp2_with fail
        refine (awake_any F w2).mono ?_
        rintro e w3 ⟨rfl, hb3⟩
        have B3 := Lib.hid (S2.out.below.trans (hb3.mono S2.out.below.size))
        clear hb3
        go_wp2_with fail
        go_ret
        exact ⟨rfl, B3.out⟩
      · obtain ⟨mm, hmm⟩ : ∃ y, y = r.toNat := ⟨_, rfl⟩
        rw [← hmm] at S2
        clear hmm
        go_wp2_with fail
        go_loopw [5, 9] (fun vb i wr => ∃ (k bx : Nat) (fx fw : List Nat) (l : List Int), i = .int .i64 k ∧ vb = optr bx ∧ k ≤ n ∧ Hid (TwoB R w wr bx fx bw fw mm l)) (fun _ i _ => n - (intOf i).toNat)
        case atStart => exact ⟨0, bx, fx, fw, [], rfl, rfl, by omega, S2⟩
        case round =>
          clear S2
          obtain ⟨k, bx, fx, fw, l, rfl, rfl, hk, S⟩ := hrel
          by_cases hlt : k < n
          · have hkz : k < acts.length := by rw [HN.out]; exact hlt
            obtain ⟨g, off, rfl, hcell⟩ := GA.out.cells (by omega)
            have HCL := Lib.hid (fun W (hb : Below w.heap.size w W) => show W.cell? ⟨g, off + k * 2, none⟩ = some (v64 acts[k].1) ∧ W.cell? ⟨g, off + k * 2 + 1, none⟩ = some (v64 acts[k].2) from by
              have h1 := (GA.out.below hb).cells (by omega)
              obtain ⟨g', off', e, h2⟩ := h1
              cases e
              have h3 := h2 k hkz; exact ⟨h3.1, h3.2⟩)
            have HFT := Lib.hid (GA.out.nums acts[k] (List.getElem_mem hkz))
            obtain ⟨kd, hkd⟩ : ∃ x, x = acts[k].1 := ⟨_, rfl⟩
            obtain ⟨x, hx⟩ : ∃ x, x = acts[k].2 := ⟨_, rfl⟩
            rw [← hkd, ← hx] at HCL HFT
            clear hcell hkz hkd hx
            obtain ⟨c0, c1⟩ := HCL.out wr S.out.below
            have hmain : kd = 4 ∨ ¬ kd = 4 := by omega
            rcases hmain with h4 | h4
            · subst h4
              go_wp2_with fail
              refine (F.copy bx fx (mm, l) wr S.out.one).mono ?_
              rintro e w5 ⟨bn, fo, gp, rfl, hr1, hr2, ht, hf, hng, hap⟩
              have T5 := Lib.hid (Three.copied K.out refHeld S.out hr1 hr2 ht hf hng hap)
              clear hr1 hr2 ht hf hng hap S c0 c1
              go_wp2_with fail
              refine (F.ok.put bx fo mm l 77 w5 T5.out.three (fit_lit (by omega))).mono ?_
              rintro e w6 ⟨rfl, fo6, hr, ht, hf⟩
              have T6 := Lib.hid (T5.out.step3 K.out refHeld hr ht hf)
              clear hr ht hf T5
              go_wp2_with fail
              refine (F.ok.take bx fo6 mm _ 0 w6 T6.out.three (by omega)).mono ?_
              rintro e w7 ⟨rfl, fo7, hr, ht, hf⟩
              have T7 := Lib.hid (T6.out.step3 K.out refHeld hr ht hf)
              have S := Lib.hid T7.out.pair
              clear hr ht hf T6 T7
              obtain ⟨c0, c1⟩ := HCL.out w7 S.out.below
              go_wp2_with fail
              refine (does_any F w w7 bn gp bw fw mm l 4 x S.out HFT.out.2).mono ?_
              rintro e wa ⟨rfl, f1, f2, l', hp⟩
              have SA := Lib.hid hp
              clear hp S
              go_wp2_with fail
              refine (F.more.all bn f1 mm l' wa SA.out.one).mono ?_
              rintro e wb ⟨v, f1b, rfl, ho, hr, ht, hf, hg⟩
              have SB := Lib.hid (SA.out.step1 refHeld hr ht hf)
              have hfit := (F.ok.ok hr).2.2
              have HFI := Lib.hid hfit
              have NG := Lib.hid (show ∀ g, v.ownBlock = some g → g ∉ f1b ∧ g ∉ f2 from fun g e => ⟨hg g e, fun a => by have h1 := (ho.row.lt g e).1; have h2 := refHeld.low SA.out.two g a; omega⟩)
              have OB := Lib.hid (show Own64 wb w.heap.size 3 v l'.length (l'.map v64) from Own64.weak ho SA.out.below.size)
              obtain ⟨q, c, rfl, hl', hG⟩ := Own64.good ho hfit
              have GB := Lib.hid hG
              obtain ⟨vr, pr, cr, hbr, hvr, hm2, hlm, hmem⟩ := SB.out.two.told
              have d0 : wb.cell? ⟨bw, 0, none⟩ = some (v64 mm) := hbr.cell 0
              have d1 : wb.cell? ⟨bw, 1, none⟩ = some (.slice pr l'.length cr) := by rw [← hvr]; exact hbr.cell 1
              have GR := Lib.hid (SB.out.two.good d1).2
              have QS := Lib.hid (fun k => show Calls Try.prog 16 #[.slice q l'.length c, .slice pr l'.length cr] (wb.drewN k) (fun e w' => e = .returned (.bool true) ∧ ∃ m, w' = (wb.drewN k).drewN m) from by
                have h1 := sameN_any l' l' l'.length l'.length q pr c cr (wb.drewN k) rfl rfl (GB.out.carry fun _ _ h => h) (GR.out.carry fun _ _ h => h)
                rwa [show decide (l' = l') = true from decide_eq_true rfl] at h1)
              have QL := Lib.hid (fun k => F.more.len bn f1b mm l' (wb.drewN k) ((SB.out.drewN K.out refHeld k).one))
              have QR := Lib.hid (fun k => F.more.room bn f1b mm l' (wb.drewN k) ((SB.out.drewN K.out refHeld k).one))
              clear ho hr ht hf hg hG hbr hvr hmem hl' SA hfit
              obtain ⟨nl, hnl⟩ : ∃ y, y = l'.length := ⟨_, rfl⟩
              rw [← hnl] at d1 QS QL QR OB NG hlm ⊢
              have HNL := Lib.hid hnl
              clear hnl c0 c1
              have i1 : IntKind.i64.wrap ((mm : Int) - (nl : Int)) = (mm : Int) - (nl : Int) := IntWalk.i64_in _ (by omega)
              go_wp2_with fail
              go_quiet (first
                | (go_at_call 16; refine Calls.quiet_of (QS.out _))
                | (go_at_call 17; refine Calls.quiet_of (QL.out _))
                | (go_at_call 18; refine Calls.quiet_of (QR.out _)))
              go_wp2_with fail
              have SD := Lib.hid (SB.out.drewN K.out refHeld nq)
              have OD := Lib.hid (OB.out.touch (fp := []) ((Touch.refl _ _).drewN nq) (fun g _ => by simp))
              clear SB OB QS QL QR GB GR d0 d1
              generalize wb.drewN nq = wd at SD OD ⊢
              refine (overN_any w.heap.size _ nl _ wd OD.out).mono ?_
              rintro e we ⟨rfl, hb5, hk5⟩
              have SE := Lib.hid (SD.out.over K.out refHeld hk5 hb5 NG.out)
              clear hb5 hk5 SD OD NG
              have ST := Lib.hid (SE.out.drewN K.out refHeld 1)
              obtain ⟨v3, p3, c3, hb3, hv3, _, _, hmem⟩ := ST.out.two.told
              have hv4 : v3 = .slice p3 nl c3 := hv3.trans (by simp only [HNL.out])
              subst hv4
              have HB3 := Lib.hid (show Blk we.drew bw [v64 mm, .slice p3 nl c3] 42 from hb3)
              have HNF := Lib.hid (show bw ∉ f1b from fun a => ST.out.apart bw a hmem)
              have e1 : we.drew.cell? ⟨bw, 1, none⟩ = some (.slice p3 nl c3) := HB3.out.cell 1
              clear hb3 hv3 hmem i1 hm2 hlm
              have QA := Lib.hid (fun W (h : R W bn f1b (mm, l')) => show Calls Try.prog 15 #[optr bn] W (fun e w' => ∃ q6 c6 f1f, e = .returned (.slice q6 nl c6) ∧ GoodN w' l' q6 c6 ∧ R w' bn f1f (mm, l') ∧ Touch f1b W w' ∧ From f1b f1f W) from (F.more.all bn f1b mm l' W h).mono (by
                rintro e wf ⟨v6, f1f, rfl, ho, hr, ht, hf, _⟩
                obtain ⟨q6, c6, rfl, _, hG6⟩ := Own64.good ho HFI.out
                exact ⟨q6, c6, f1f, by rw [HNL.out], hG6, hr, ht, hf⟩))
              have QS2 := Lib.hid (fun W q6 c6 p3 c3 (h1 : GoodN W l' q6 c6) (h2 : GoodN W l' p3 c3) => show Calls Try.prog 16 #[.slice q6 nl c6, .slice p3 nl c3] W (fun e w' => e = .returned (.bool true) ∧ ∃ j, w' = W.drewN j) from by
                have h := sameN_any l' l' nl nl q6 p3 c6 c3 W HNL.out.symm HNL.out.symm h1 h2
                rwa [show decide (l' = l') = true from decide_eq_true rfl] at h)
              go_wp2_with fail
              go_region_held3 (fun w' => w'.cell? ⟨bw, 1, none⟩ = some (.slice p3 nl c3)) (first | exact e1 | exact ef | exact eg) ((first
                | (have _t := tkA; go_simp; go_at_call 16; clear tkA _t; refine (QS2.out wf q6 c6 p3 c3 G6.out GF.out).mono ?_; rintro e wg ⟨rfl, j, hwg⟩; have SG := Lib.hid (show TwoB R w wg bn f1f bw f2 mm l' from by subst hwg; exact SF.out.drewN K.out refHeld j); have eg : wg.cell? ⟨bw, 1, none⟩ = some (.slice p3 nl c3) := (by subst hwg; exact ef); clear hwg SF G6 GF ef)
                | (go_simp; go_at_call 15; refine (QA.out _ ST.out.one).mono ?_; rintro e wf ⟨q6, c6, f1f, rfl, hG6, hr, ht, hf⟩; have SF := Lib.hid (ST.out.step1 refHeld hr ht hf); have G6 := Lib.hid hG6; have ef : wf.cell? ⟨bw, 1, none⟩ = some (.slice p3 nl c3) := (show Blk wf bw [v64 mm, .slice p3 nl c3] 42 from (ht.block bw HB3.out.lt HNF.out).trans HB3.out).cell 1; have GF := Lib.hid (SF.out.two.good ef).2; have tkA : True := trivial; clear hr ht hf hG6)))
              all_goals go_wp2_with fail
              all_goals exact ⟨⟨k + 1, bn, _, _, l', by go_num, rfl, by omega, SG⟩, by simp [intOf]; omega⟩
            · have hz4 : (kd == 4) = false := by rw [beq_eq_false_iff_ne]; exact h4
              go_wp2_with fail
              refine (does_any F w wr bx fx bw fw mm l kd x S.out HFT.out.2).mono ?_
              rintro e wa ⟨rfl, f1, f2, l', hp⟩
              have SA := Lib.hid hp
              clear hp S
              go_wp2_with fail
              refine (F.more.all bx f1 mm l' wa SA.out.one).mono ?_
              rintro e wb ⟨v, f1b, rfl, ho, hr, ht, hf, hg⟩
              have SB := Lib.hid (SA.out.step1 refHeld hr ht hf)
              have hfit := (F.ok.ok hr).2.2
              have HFI := Lib.hid hfit
              have NG := Lib.hid (show ∀ g, v.ownBlock = some g → g ∉ f1b ∧ g ∉ f2 from fun g e => ⟨hg g e, fun a => by have h1 := (ho.row.lt g e).1; have h2 := refHeld.low SA.out.two g a; omega⟩)
              have OB := Lib.hid (show Own64 wb w.heap.size 3 v l'.length (l'.map v64) from Own64.weak ho SA.out.below.size)
              obtain ⟨q, c, rfl, hl', hG⟩ := Own64.good ho hfit
              have GB := Lib.hid hG
              obtain ⟨vr, pr, cr, hbr, hvr, hm2, hlm, hmem⟩ := SB.out.two.told
              have d0 : wb.cell? ⟨bw, 0, none⟩ = some (v64 mm) := hbr.cell 0
              have d1 : wb.cell? ⟨bw, 1, none⟩ = some (.slice pr l'.length cr) := by rw [← hvr]; exact hbr.cell 1
              have GR := Lib.hid (SB.out.two.good d1).2
              have QS := Lib.hid (fun k => show Calls Try.prog 16 #[.slice q l'.length c, .slice pr l'.length cr] (wb.drewN k) (fun e w' => e = .returned (.bool true) ∧ ∃ m, w' = (wb.drewN k).drewN m) from by
                have h1 := sameN_any l' l' l'.length l'.length q pr c cr (wb.drewN k) rfl rfl (GB.out.carry fun _ _ h => h) (GR.out.carry fun _ _ h => h)
                rwa [show decide (l' = l') = true from decide_eq_true rfl] at h1)
              have QL := Lib.hid (fun k => F.more.len bx f1b mm l' (wb.drewN k) ((SB.out.drewN K.out refHeld k).one))
              have QR := Lib.hid (fun k => F.more.room bx f1b mm l' (wb.drewN k) ((SB.out.drewN K.out refHeld k).one))
              clear ho hr ht hf hg hG hbr hvr hmem hl' SA hfit
              obtain ⟨nl, hnl⟩ : ∃ y, y = l'.length := ⟨_, rfl⟩
              rw [← hnl] at d1 QS QL QR OB NG hlm ⊢
              have HNL := Lib.hid hnl
              clear hnl c0 c1
              have i1 : IntKind.i64.wrap ((mm : Int) - (nl : Int)) = (mm : Int) - (nl : Int) := IntWalk.i64_in _ (by omega)
              go_wp2_with fail
              go_quiet (first
                | (go_at_call 16; refine Calls.quiet_of (QS.out _))
                | (go_at_call 17; refine Calls.quiet_of (QL.out _))
                | (go_at_call 18; refine Calls.quiet_of (QR.out _)))
              go_wp2_with fail
              have SD := Lib.hid (SB.out.drewN K.out refHeld nq)
              have OD := Lib.hid (OB.out.touch (fp := []) ((Touch.refl _ _).drewN nq) (fun g _ => by simp))
              clear SB OB QS QL QR GB GR d0 d1
              generalize wb.drewN nq = wd at SD OD ⊢
              refine (overN_any w.heap.size _ nl _ wd OD.out).mono ?_
              rintro e we ⟨rfl, hb5, hk5⟩
              have SE := Lib.hid (SD.out.over K.out refHeld hk5 hb5 NG.out)
              clear hb5 hk5 SD OD NG
              have ST := Lib.hid (SE.out.drewN K.out refHeld 1)
              obtain ⟨v3, p3, c3, hb3, hv3, _, _, hmem⟩ := ST.out.two.told
              have hv4 : v3 = .slice p3 nl c3 := hv3.trans (by simp only [HNL.out])
              subst hv4
              have HB3 := Lib.hid (show Blk we.drew bw [v64 mm, .slice p3 nl c3] 42 from hb3)
              have HNF := Lib.hid (show bw ∉ f1b from fun a => ST.out.apart bw a hmem)
              have e1 : we.drew.cell? ⟨bw, 1, none⟩ = some (.slice p3 nl c3) := HB3.out.cell 1
              clear hb3 hv3 hmem i1 hm2 hlm
              have QA := Lib.hid (fun W (h : R W bx f1b (mm, l')) => show Calls Try.prog 15 #[optr bx] W (fun e w' => ∃ q6 c6 f1f, e = .returned (.slice q6 nl c6) ∧ GoodN w' l' q6 c6 ∧ R w' bx f1f (mm, l') ∧ Touch f1b W w' ∧ From f1b f1f W) from (F.more.all bx f1b mm l' W h).mono (by
                rintro e wf ⟨v6, f1f, rfl, ho, hr, ht, hf, _⟩
                obtain ⟨q6, c6, rfl, _, hG6⟩ := Own64.good ho HFI.out
                exact ⟨q6, c6, f1f, by rw [HNL.out], hG6, hr, ht, hf⟩))
              have QS2 := Lib.hid (fun W q6 c6 p3 c3 (h1 : GoodN W l' q6 c6) (h2 : GoodN W l' p3 c3) => show Calls Try.prog 16 #[.slice q6 nl c6, .slice p3 nl c3] W (fun e w' => e = .returned (.bool true) ∧ ∃ j, w' = W.drewN j) from by
                have h := sameN_any l' l' nl nl q6 p3 c6 c3 W HNL.out.symm HNL.out.symm h1 h2
                rwa [show decide (l' = l') = true from decide_eq_true rfl] at h)
              go_wp2_with fail
              go_region_held3 (fun w' => w'.cell? ⟨bw, 1, none⟩ = some (.slice p3 nl c3)) (first | exact e1 | exact ef | exact eg) ((first
                | (have _t := tkA; go_simp; go_at_call 16; clear tkA _t; refine (QS2.out wf q6 c6 p3 c3 G6.out GF.out).mono ?_; rintro e wg ⟨rfl, j, hwg⟩; have SG := Lib.hid (show TwoB R w wg bx f1f bw f2 mm l' from by subst hwg; exact SF.out.drewN K.out refHeld j); have eg : wg.cell? ⟨bw, 1, none⟩ = some (.slice p3 nl c3) := (by subst hwg; exact ef); clear hwg SF G6 GF ef)
                | (go_simp; go_at_call 15; refine (QA.out _ ST.out.one).mono ?_; rintro e wf ⟨q6, c6, f1f, rfl, hG6, hr, ht, hf⟩; have SF := Lib.hid (ST.out.step1 refHeld hr ht hf); have G6 := Lib.hid hG6; have ef : wf.cell? ⟨bw, 1, none⟩ = some (.slice p3 nl c3) := (show Blk wf bw [v64 mm, .slice p3 nl c3] 42 from (ht.block bw HB3.out.lt HNF.out).trans HB3.out).cell 1; have GF := Lib.hid (SF.out.two.good ef).2; have tkA : True := trivial; clear hr ht hf hG6)))
              all_goals go_wp2_with fail
              all_goals exact ⟨⟨k + 1, bx, _, _, l', by go_num, rfl, by omega, SG⟩, by simp [intOf]; omega⟩
          · obtain rfl : k = n := by omega
            go_wp2_with fail
            refine (awake_any F wr).mono ?_
            rintro e w3 ⟨rfl, hb3⟩
            have B3 := Lib.hid (S.out.below.trans (hb3.mono S.out.below.size))
            clear hb3
            go_wp2_with fail
            go_ret
            exact ⟨rfl, B3.out⟩
    · exact absurd (hz2.symm.trans HZ.out) (by decide)
  · have HZ := Lib.hid hz
    clear hb1 hz HNX
    go_wp2_with fail
    refine (refBagOK.new r w1 HR.out).mono ?_
    rintro e w2 ⟨hb2, ⟨hz2, _⟩ | ⟨_, rfl⟩⟩
    · exact absurd (hz2.symm.trans HZ.out) (by decide)
    · have B2 := Lib.hid (B1.out.trans (hb2.mono B1.out.size))
      clear hb2 B1
      go_wp2_with fail
      refine (awake_any F w2).mono ?_
      rintro e w3 ⟨rfl, hb3⟩
      have B3 := Lib.hid (B2.out.trans (hb3.mono B2.out.size))
      clear hb3
      go_wp2_with fail
      go_ret
      exact ⟨rfl, B3.out⟩
end Go.Proofs.Ytnpageceaknofaa
