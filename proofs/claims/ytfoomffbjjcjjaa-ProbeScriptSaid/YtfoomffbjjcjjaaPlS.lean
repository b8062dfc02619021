/-
  The law ProbeScript (written by mkpls14.py).
-/
import Derived.Test.YtfoomffbjjcjjaaPlDo
import Derived.Test.YtfoomffbjjcjjaaPvH
import Derived.Test.YtfoomffbjjcjjaaActsP
import Derived.Test.YtfoomffbjjcjjaaNumsC
namespace Go.Proofs.Ytfoomffbjjcjjaa
set_option linter.unusedSimpArgs false
set_option linter.unusedVariables false
open Go.RowKit Sha Lot
/-- The program's round with its lots; the reference's. -/
abbrev PC (bl : Nat) : ObjRep Cst := CRep PRep ProgLot bl
abbrev RC (bk : Nat) : ObjRep Cst := CRep RRep RefLot bk
theorem pcHeld (bl : Nat) : Held (PC bl) := cHeld prHeld lotsOK.ok.rep bl
theorem rcHeld (bk : Nat) : Held (RC bk) := cHeld rrHeld refLotOK.rep bk
section
variable {w w' : World} {b bl bk : Nat} {fp : List Nat} {s : Rd.St} {Ls : List Int} {N : Nat}
theorem pc_order (h : PC bl w b fp (s, (Ls, N))) : Calls Try.prog 17 #[optr b] w (PbOrder s.L w) := by
  obtain ⟨fr, fl, rfl, _, hr, _⟩ := h; exact rorder_any b fr s w hr
theorem pc_told (h : PC bl w b fp (s, (Ls, N))) : Calls Try.prog 18 #[optr b] w fun e w' => e = .returned (v64 s.t) ∧ Below w.heap.size w w' := by
  obtain ⟨fr, fl, rfl, _, hr, _⟩ := h; exact rtold_any b fr s w hr
theorem pc_used (h : PC bl w b fp (s, (Ls, N))) (hN : N ≤ 1000000000) : Calls Try.prog 19 #[lptr bl] w fun e w' => e = .returned (v64 N) ∧ ∃ fp', PC bl w' b fp' (s, (Ls, N)) ∧ Touch fp w w' ∧ From fp fp' w := by
  obtain ⟨fr, fl, rfl, ha, hr, hl⟩ := h
  refine (lotsOK.used.used bl fl Ls N w hl hN).mono ?_
  rintro e w' ⟨rfl, fl', hl', ht, hf⟩
  have hlow := prHeld.low hr
  refine ⟨rfl, fr ++ fl', ⟨fr, fl', rfl, (ha.symm.from_ hf hlow).symm, prHeld.keep hr (ht.keep ha.symm hlow), hl'⟩, ⟨ht.os, ht.tape, ht.output, ht.size, fun k hk hn => ht.block k hk fun h1 => hn (List.mem_append.2 (.inr h1))⟩, fun k hk => ?_⟩
  rcases List.mem_append.1 hk with h1 | h1
  · exact .inl (List.mem_append.2 (.inl h1))
  · rcases hf k h1 with h2 | h2
    · exact .inl (List.mem_append.2 (.inr h2))
    · exact .inr h2
theorem pc_ok (h : PC bl w b fp (s, (Ls, N))) : Rd.OK s := by obtain ⟨fr, fl, _, _, hr, _⟩ := h; exact hr.2
/-- What the law reads of the reference. -/
def RSee (w : World) (b bk : Nat) (q : Option Addr) (n c t N : Nat) : Prop := w.cell? ⟨b, 0, none⟩ = some (.slice q n c) ∧ w.cell? ⟨b, 1, none⟩ = some (v64 t) ∧ w.cell? ⟨bk, 1, none⟩ = some (v64 N)
theorem rc_see (h : RC bk w b fp (s, (Ls, N))) : ∃ q c, RSee w b bk q s.L.length c s.t N ∧ GoodN w s.L q c ∧ b ∈ fp ∧ bk ∈ fp := by
  obtain ⟨fr, fl, rfl, _, ⟨⟨v, hr⟩, ho⟩, hl⟩ := h
  obtain ⟨q, c, rfl, hb, hA, l1, l2, hn⟩ := hr.cells
  have hlm := RefLot.mem hl
  obtain ⟨_, _, _, hlb, _⟩ := hl
  unfold maxLen at l2
  refine ⟨q, c, ⟨hb.cell 0, hb.cell 1, hlb.cell 1⟩, ⟨fun n hn => by have := ho.may n hn; omega, hA, l1, by omega, hn⟩, List.mem_append.2 (.inl hr.mem), List.mem_append.2 (.inr ?_)⟩
  exact hlm
theorem RSee.on {q : Option Addr} {n c t : Nat} (h : RSee w b bk q n c t N) (hb : Below w.heap.size w w') : RSee w' b bk q n c t N :=
  ⟨(hb.cell (World.block_lt_of_cell? w _ h.1)).trans h.1, (hb.cell (World.block_lt_of_cell? w _ h.2.1)).trans h.2.1, (hb.cell (World.block_lt_of_cell? w _ h.2.2)).trans h.2.2⟩
theorem RSee.touch {q : Option Addr} {n c t : Nat} (h : RSee w b bk q n c t N) (ht : Touch fp w w') (h1 : b ∉ fp) (h2 : bk ∉ fp) : RSee w' b bk q n c t N :=
  ⟨(World.cell?_of_block (ht.block b (World.block_lt_of_cell? w _ h.1) h1)).trans h.1, (World.cell?_of_block (ht.block b (World.block_lt_of_cell? w _ h.2.1) h1)).trans h.2.1, (World.cell?_of_block (ht.block bk (World.block_lt_of_cell? w _ h.2.2) h2)).trans h.2.2⟩
end
/-- Both, as one, and numbers of the call's own that are neither's. -/
structure WithO (w0 w : World) (bl bk b1 : Nat) (f1 : List Nat) (b2 : Nat) (f2 : List Nat) (c : Cst) (B : Nat) (v : Value) (n : Nat) (xs : List Int) : Prop where
  pair : Pair (PC bl) (RC bk) w0 w b1 f1 c b2 f2 c
  own : Own64 w B it v n (xs.map v64)
  out : ∀ g, v.ownBlock = some g → g ∉ f1 ∧ g ∉ f2
section
variable {w0 w w' : World} {bl bk b1 b2 B n : Nat} {f1 f2 f1' : List Nat} {c : Cst} {v : Value} {xs : List Int}
theorem WithO.on (h : WithO w0 w bl bk b1 f1 b2 f2 c B v n xs) (hb : Below w.heap.size w w') : WithO w0 w' bl bk b1 f1 b2 f2 c B v n xs :=
  ⟨h.pair.on (pcHeld bl) (rcHeld bk) hb, h.own.touch (fp := []) (Touch.of_below hb) (fun g _ => by simp), h.out⟩
theorem WithO.step1 (h : WithO w0 w bl bk b1 f1 b2 f2 c B v n xs) (hr : PC bl w' b1 f1' c) (ht : Touch f1 w w') (hf : From f1 f1' w) : WithO w0 w' bl bk b1 f1' b2 f2 c B v n xs :=
  ⟨h.pair.step1 (rcHeld bk) hr ht hf, h.own.touch ht (fun g hg => (h.out g hg).1), fun g hg => ⟨fun e => by rcases hf g e with h1 | h1; exact (h.out g hg).1 h1; have := (h.own.row.lt g hg).2; omega, (h.out g hg).2⟩⟩
theorem WithO.over (h : WithO w0 w bl bk b1 f1 b2 f2 c B v n xs) (hk : ∀ k, some k ≠ v.ownBlock → w'.heap[k]? = w.heap[k]?) (hb : Below w0.heap.size w w') : Pair (PC bl) (RC bk) w0 w' b1 f1 c b2 f2 c :=
  h.pair.over (pcHeld bl) (rcHeld bk) hk hb h.out
end
section
set_option maxRecDepth 100000 in
set_option maxHeartbeats 16000000 in
theorem pscript_any (xs : List Int) (n : Nat) (q : Option Addr) (c : Nat) (ls : List Int) (m : Nat) (p : Option Addr) (d : Nat) (ts : List (Int × Int)) (h : Nat) (r : Option Addr) (a : Nat) (w : World) (hn : xs.length = n) (hx : GoodN w xs q c) (hm : ls.length = m) (hl : GoodN w ls p d) (hh : ts.length = h) (ha : GoodA w ts r a) :
    Calls Try.prog 3 #[.slice q n c, .slice p m d, .slice r h a] w (PlTrue w) := by
  have GX := Lib.hid hx
  have GL := Lib.hid hl
  have GA := Lib.hid ha
  have HN := Lib.hid hn
  have HM := Lib.hid hm
  have HH := Lib.hid hh
  have c1 := hx.le
  have c2 := hx.max
  have c3 := hl.le
  have c4 := hl.max
  have c5 := ha.le
  have c6 := ha.max
  rw [hn] at c1
  rw [hm] at c3
  rw [hh] at c5
  clear hx hl ha hn hm hh
  by_cases hbig : 70 < n ∨ 1000 < m ∨ 200 < h
  · by_cases h1 : 70 < n
    · clear hbig
      go_enter Try.func3, Try.ntmps3
      go_wp2_with (go_at_call 8; refine (pawake_any probeOK w).mono ?_; rintro e w' ⟨rfl, hb⟩)
      go_ret
      exact ⟨rfl, hb⟩
    · by_cases h2 : 1000 < m
      · clear hbig
        go_enter Try.func3, Try.ntmps3
        go_wp2_with (go_at_call 8; refine (pawake_any probeOK w).mono ?_; rintro e w' ⟨rfl, hb⟩)
        go_ret
        exact ⟨rfl, hb⟩
      · have h3 : 200 < h := by omega
        clear hbig
        go_enter Try.func3, Try.ntmps3
        go_wp2_with (go_at_call 8; refine (pawake_any probeOK w).mono ?_; rintro e w' ⟨rfl, hb⟩)
        go_ret
        exact ⟨rfl, hb⟩
  · have h1 : ¬ 70 < n := by omega
    have h2 : ¬ 1000 < m := by omega
    have h3 : ¬ 200 < h := by omega
    clear hbig
    go_enter Try.func3, Try.ntmps3
    go_wp2_with fail
    refine (lotsOK.ok.new ls m p d w HM.out GL.out).mono ?_
    rintro e W1 ⟨hb1, hx1⟩
    have B1 := Lib.hid hb1
    clear hb1
    rcases hx1 with ⟨hz, bl, fl, rfl, hrl, hnl⟩ | ⟨hz, rfl⟩
    · have HRL := Lib.hid hrl
      have HNL := Lib.hid hnl
      have HZ := Lib.hid hz
      clear hrl hnl hz
      go_wp2_with fail
      refine (refLotOK.new ls m p d W1 HM.out (GL.out.below B1.out)).mono ?_
      rintro e W2 ⟨hb2, ⟨_, bk, fk, rfl, hrk, hnk⟩ | ⟨hz2, _⟩⟩
      · have S2 := Lib.hid (Side.made lotsOK.ok.rep HRL.out HNL.out B1.out hb2 hrk hnk)
        clear hb2 hrk hnk HRL HNL
        go_wp2_with fail
        refine (copyN_any xs n q c W2 HN.out (GX.out.below S2.out.below) (by omega)).mono ?_
        rintro e W3 ⟨vi, rfl, hoi, hb3⟩
        obtain ⟨qi, ci, rfl, _, hgi⟩ := hoi.good GX.out.nums
        have S3 := Lib.hid (S2.out.on lotsOK.ok.rep refLotOK.rep hb3)
        rw [HN.out] at hoi ⊢
        have OI3 := Lib.hid hoi
        have GI3 := Lib.hid hgi
        have NI := Lib.hid (show ∀ g, (Value.slice qi n ci).ownBlock = some g → g ∉ fl ∧ g ∉ fk ∧ g < W3.heap.size from fun g hg => by
          have h4 := hoi.row.lt g hg
          exact ⟨fun e => by have := lotsOK.ok.rep.low S2.out.one g e; omega, fun e => by have := refLotOK.rep.low S2.out.two g e; omega, h4.2⟩)
        clear hoi hgi hb3
        go_wp2_with fail
        refine (pnewR_any xs n qi ci (lptr bl) fl ls 0 W3 HN.out GI3.out (by omega) (Or.inr ⟨bl, rfl, S3.out.one⟩) (by omega) (fun a e => by
          exact (NI.out a.block (by rw [e]; rfl)).1)).mono ?_
        rintro e W4 hmade
        have HMADE := Lib.hid hmade
        clear hmade
        by_cases hnew : PbNew xs
        · obtain ⟨b1, fp1, fl1, rfl, hr1, hl1, ha1, ht1, hf1, hk1⟩ : ∃ b fp' fl', e = .returned (.tuple #[optr b, v64 0]) ∧ PRep W4 b fp' ⟨Rd.ordered xs ls 0, 0⟩ ∧ LArg ProgLot W4 (lptr bl) fl' ls (0 + shufN n) ∧ Apart fp' fl' ∧ Touch fl W3 W4 ∧ From fl fl' W3 ∧ ∀ k ∈ fp', W3.heap.size ≤ k := by
            rcases HMADE.out with ⟨_, h4⟩ | ⟨h4, _⟩
            · exact h4
            · exact absurd hnew h4
          clear HMADE
          have S4 := Lib.hid (S3.out.step1 lotsOK.ok.rep refLotOK.rep hl1.obj ht1 hf1)
          have C4 := Lib.hid (show PC bl W4 b1 (fp1 ++ fl1) (⟨Rd.ordered xs ls 0, 0⟩, (ls, 0 + shufN n)) from ⟨fp1, fl1, rfl, ha1, hr1, hl1.obj⟩)
          have OI4 := Lib.hid (OI3.out.touch ht1 (fun g hg => (NI.out g hg).1))
          have NI4 := Lib.hid (show ∀ g, (Value.slice qi n ci).ownBlock = some g → g ∉ fp1 ++ fl1 ∧ g ∉ fk ∧ g < W4.heap.size from fun g hg => ⟨fun e => by
            obtain ⟨h4, h5, h6⟩ := NI.out g hg
            rcases List.mem_append.1 e with h7 | h7
            · have := hk1 g h7; omega
            · rcases hf1 g h7 with h8 | h8
              · exact h4 h8
              · omega, (NI.out g hg).2.1, Nat.lt_of_lt_of_le (NI.out g hg).2.2 ht1.size⟩)
          have AP4 := Lib.hid (show Apart (fp1 ++ fl1) fk from fun k h4 h5 => by
            rcases List.mem_append.1 h4 with h6 | h6
            · have h7 := hk1 k h6
              have := refLotOK.rep.low S3.out.two k h5
              omega
            · exact S4.out.apart k h6 h5)
          have NW4 := Lib.hid (show ∀ k ∈ fp1 ++ fl1, w.heap.size ≤ k from fun k h4 => by
            rcases List.mem_append.1 h4 with h6 | h6
            · exact Nat.le_trans S3.out.below.size (hk1 k h6)
            · exact S4.out.new1 k h6)
          clear hr1 hl1 ha1 ht1 hf1 hk1 S3 OI3 GI3 NI
          go_wp2_with fail
          refine (rpnew_any xs n q c bk fk ls 0 W4 HN.out (GX.out.below S4.out.below) (by omega) S4.out.two (by omega)).mono ?_
          rintro e W5 hmade5
          obtain ⟨b2, fp2, fk2, rfl, hr2, hl2, ha2, ht2, hf2, hk2⟩ : ∃ b fp' fl', e = .returned (.tuple #[optr b, v64 0]) ∧ RRep W5 b fp' ⟨Rd.ordered xs ls 0, 0⟩ ∧ RefLot W5 bk fl' ls (0 + shufN n) ∧ Apart fp' fl' ∧ Touch fk W4 W5 ∧ From fk fl' W4 ∧ ∀ k ∈ fp', W4.heap.size ≤ k := by
            rcases hmade5 with ⟨_, h4⟩ | ⟨h4, _⟩
            · exact h4
            · exact absurd hnew h4
          have OK0 := Lib.hid (show Rd.OK ⟨Rd.ordered xs ls 0, 0⟩ from pc_ok C4.out)
          have X5 := Lib.hid (show WithO w W5 bl bk b1 (fp1 ++ fl1) b2 (fp2 ++ fk2) (⟨Rd.ordered xs ls 0, 0⟩, (ls, 0 + shufN n)) W2.heap.size (.slice qi n ci) n xs from by
            have hlow1 := (pcHeld bl).low C4.out
            refine ⟨⟨(pcHeld bl).keep C4.out (ht2.keep AP4.out.symm hlow1), ⟨fp2, fk2, rfl, ha2, hr2, hl2⟩, fun k h4 h5 => ?_, NW4.out, fun k h4 => ?_, S4.out.below.trans (ht2.below S4.out.new2 S4.out.below.size)⟩, OI4.out.touch ht2 (fun g hg => (NI4.out g hg).2.1), fun g hg => ⟨(NI4.out g hg).1, fun e => ?_⟩⟩
            · have h6 := hlow1 k h4
              rcases List.mem_append.1 h5 with h7 | h7
              · have := hk2 k h7; omega
              · rcases hf2 k h7 with h8 | h8
                · exact AP4.out k h4 h8
                · omega
            · rcases List.mem_append.1 h4 with h7 | h7
              · exact Nat.le_trans S4.out.below.size (hk2 k h7)
              · rcases hf2 k h7 with h8 | h8
                · exact S4.out.new2 k h8
                · exact Nat.le_trans S4.out.below.size h8
            · obtain ⟨h4, h5, h6⟩ := NI4.out g hg
              rcases List.mem_append.1 e with h7 | h7
              · have := hk2 g h7; omega
              · rcases hf2 g h7 with h8 | h8
                · exact h5 h8
                · omega)
          have hsh := shufN_leP n
          obtain ⟨N0, hN0⟩ : ∃ N0, N0 = 0 + shufN n := ⟨_, rfl⟩
          rw [← hN0] at X5
          have hN63 : N0 ≤ 63 := by omega
          have B5 := Lib.hid (show w.heap.size ≤ W2.heap.size from S2.out.below.size)
          clear hmade5 hr2 hl2 ha2 ht2 hf2 hk2 C4 OI4 NI4 AP4 NW4 S4 hsh hN0 hnew HZ S2
          generalize (⟨Rd.ordered xs ls 0, 0⟩ : Rd.St) = st0 at *
          generalize fp1 ++ fl1 = f1 at *
          generalize fp2 ++ fk2 = f2 at *
          obtain ⟨q5, c5', hv5, _, hg5⟩ := X5.out.own.good GX.out.nums
          injection hv5 with v51 v52 v53
          subst v51 v53
          clear v52
          have HSM := Lib.hid (sameN_any xs xs n n qi q ci c W5 HN.out HN.out hg5 (GX.out.below X5.out.pair.below))
          rw [show decide (xs = xs) = true from decide_eq_true rfl] at HSM
          clear hg5
          go_wp2_with fail
          refine HSM.out.mono ?_
          rintro e W6 ⟨rfl, j6, hw6⟩
          have X6 := Lib.hid (show WithO w W6 bl bk b1 f1 b2 f2 (st0, (ls, N0)) W2.heap.size (.slice qi n ci) n xs from by rw [hw6]; exact X5.out.on (below_drewN (Below.refl _ _) j6))
          clear hw6 HSM X5
          go_wp2_with fail
          refine (overN_any W2.heap.size _ n _ W6 X6.out.own).mono ?_
          rintro e W7 ⟨rfl, hb7, hk7⟩
          have P7 := Lib.hid (X6.out.over hk7 (hb7.mono B5.out))
          clear hb7 hk7 X6 B5
          go_wp2_with fail
          go_loopw [16, 17, 18] (fun i o sm wr => ∃ (k N : Nat) (s : Rd.St) (f1 f2 : List Nat), i = .int .i64 k ∧ k ≤ h ∧ N ≤ 63 * (k + 1) ∧ Hid (Pair (PC bl) (RC bk) w wr b1 f1 (s, (ls, N)) b2 f2 (s, (ls, N)))) (fun i _ _ _ => h - (intOf i).toNat)
          case atStart => exact ⟨0, N0, st0, f1, f2, rfl, by omega, by omega, P7⟩
          case round =>
            clear P7
            obtain ⟨k, N, s, g1, g2, rfl, hk, hN, P⟩ := hrel
            by_cases hlt : k < h
            · have hkz : k < ts.length := by rw [HH.out]; exact hlt
              obtain ⟨ga, oa, rfl, hcell⟩ := (GA.out.below P.out.below).cells (by omega)
              obtain ⟨e1, e2⟩ := hcell k hkz
              generalize ts[k] = act at *
              obtain ⟨kd, x⟩ := act
              dsimp only at e1 e2
              have i1 : (0 : Int) ≤ (k : Int) ∧ (k : Int) < (h : Int) := by omega
              have HD := Lib.hid (does_any (progComp probeOK lotsOK.ok.rep bl) (refComp bk) kd x w wr b1 g1 b2 g2 s ls N P.out (by omega))
              clear hcell hkz P
              go_wp2_with fail
              refine HD.out.mono ?_
              rintro e Wa ⟨rfl, g1, g2, s, N', hP, hN'⟩
              have P := Lib.hid hP
              have HN63 := Lib.hid (show N' ≤ 63 * (k + 1 + 1) by omega)
              have HNB := Lib.hid (show N' ≤ 1000000000 by omega)
              clear hP hN' hN e1 e2 HD
              go_wp2_with fail
              refine (pc_order P.out.one).mono ?_
              rintro e Wb ⟨vo, rfl, ho, hb⟩
              obtain ⟨qo, co, hv, _, hgo⟩ := ho.good (bd_of (pc_ok P.out.one).may)
              subst hv
              have X := Lib.hid (show WithO w Wb bl bk b1 g1 b2 g2 (s, (ls, N')) Wa.heap.size (.slice qo s.L.length co) s.L.length s.L from ⟨P.out.on (pcHeld bl) (rcHeld bk) hb, ho, fun g hg => ⟨fun e => by have h4 := (pcHeld bl).low P.out.one g e; have h5 := (ho.row.lt g hg).1; omega, fun e => by have h4 := (rcHeld bk).low P.out.two g e; have h5 := (ho.row.lt g hg).1; omega⟩⟩)
              have GO := Lib.hid hgo
              have BB := Lib.hid (show w.heap.size ≤ Wa.heap.size from P.out.below.size)
              obtain ⟨qr, cr, hsee, hgr, hm2, hmk⟩ := rc_see X.out.pair.two
              have SE := Lib.hid hsee
              have GR := Lib.hid hgr
              have M2 := Lib.hid hm2
              have MK := Lib.hid hmk
              clear ho hb hgo hsee hgr hm2 hmk P
              obtain ⟨L, t⟩ := s
              dsimp only at *
              obtain ⟨n', hn'⟩ : ∃ n', n' = L.length := ⟨_, rfl⟩
              rw [← hn'] at X SE
              rw [← hn']
              have HLN := Lib.hid hn'.symm
              clear hn'
              have XD := Lib.hid (X.out.on (Below.refl _ _).drew)
              have SD := Lib.hid (SE.out.on (Below.refl _ _).drew)
              have HSM := Lib.hid (sameN_any L L n' n' qo qr co cr Wb.drew HLN.out HLN.out (GO.out.below (Below.refl _ _).drew) (GR.out.below (Below.refl _ _).drew))
              rw [show decide (L = L) = true from decide_eq_true rfl] at HSM
              clear X SE GO GR
              go_wp2_with fail
              refine wp_region_held_drew (S := (fun W' => W'.cell? ⟨b2, 0, none⟩ = some (.slice qr n' cr) ∧ W'.cell? ⟨b2, 1, none⟩ = some (v64 t) ∧ W'.cell? ⟨bk, 1, none⟩ = some (v64 N'))) (by kernel_rfl) SD.out (fun hHeld => ?_)
              refine take_at 0 (by kernel_rfl) (v := ?v1) (by kernel_rfl) (by kernel_rfl) (by kernel_rfl) (fun _ _ _ h => h) (by rfl) ?y1 (by assumption) ?r1
              case y1 => (intro w hSw; (try dsimp only at hSw); (obtain ⟨hSa, hSb, hSc⟩ := hSw); simp only [List.getElem_cons_succ, List.getElem_cons_zero]; go_simp; (try with_reducible rfl))
              try simp only [List.getElem_cons_succ, List.getElem_cons_zero, Act.put, List.setIfInBounds_toArray, List.set_cons_zero, List.set_cons_succ]
              refine take_at 1 (by kernel_rfl) (v := ?v2) (by kernel_rfl) (by kernel_rfl) (by kernel_rfl) (fun _ _ _ h => h) (by rfl) ?y2 (by assumption) ?r2
              case y2 => (intro w hSw; (try dsimp only at hSw); (obtain ⟨hSa, hSb, hSc⟩ := hSw); simp only [List.getElem_cons_succ, List.getElem_cons_zero]; go_simp; (try with_reducible rfl))
              try simp only [List.getElem_cons_succ, List.getElem_cons_zero, Act.put, List.setIfInBounds_toArray, List.set_cons_zero, List.set_cons_succ]
              refine take_at 2 (by kernel_rfl) (v := ?v3) (by kernel_rfl) (by kernel_rfl) (by kernel_rfl) (fun _ _ _ h => h) (by rfl) ?y3 (by assumption) ?r3
              case y3 => (intro w hSw; (try dsimp only at hSw); (obtain ⟨hSa, hSb, hSc⟩ := hSw); simp only [List.getElem_cons_succ, List.getElem_cons_zero]; go_simp; (try with_reducible rfl))
              try simp only [List.getElem_cons_succ, List.getElem_cons_zero, Act.put, List.setIfInBounds_toArray, List.set_cons_zero, List.set_cons_succ]
              refine take_at 3 (by kernel_rfl) (v := ?v4) (by kernel_rfl) (by kernel_rfl) (by kernel_rfl) (fun _ _ _ h => h) (by rfl) ?y4 (by assumption) ?r4
              case y4 => (intro w hSw; (try dsimp only at hSw); (obtain ⟨hSa, hSb, hSc⟩ := hSw); simp only [List.getElem_cons_succ, List.getElem_cons_zero]; go_simp; (try with_reducible rfl))
              try simp only [List.getElem_cons_succ, List.getElem_cons_zero, Act.put, List.setIfInBounds_toArray, List.set_cons_zero, List.set_cons_succ]
              refine take_at 4 (by kernel_rfl) (v := ?v5) (by kernel_rfl) (by kernel_rfl) (by kernel_rfl) (fun _ _ _ h => h) (by rfl) ?y5 (by assumption) ?r5
              case y5 => (intro w hSw; (try dsimp only at hSw); (obtain ⟨hSa, hSb, hSc⟩ := hSw); simp only [List.getElem_cons_succ, List.getElem_cons_zero]; go_simp; (try with_reducible rfl))
              try simp only [List.getElem_cons_succ, List.getElem_cons_zero, Act.put, List.setIfInBounds_toArray, List.set_cons_zero, List.set_cons_succ]
              refine ready_at 5 (by kernel_rfl) (by kernel_rfl) (fun K hK => ?_)
              simp only [List.getElem_cons_succ, List.getElem_cons_zero]
              go_simp
              go_at_call 14
              refine HSM.out.mono ?_
              rintro e Wc ⟨rfl, jc, hwc⟩
              have XC := Lib.hid (show WithO w Wc bl bk b1 g1 b2 g2 (⟨L, t⟩, (ls, N')) Wa.heap.size (.slice qo n' co) n' L from by rw [hwc]; exact XD.out.on (below_drewN (Below.refl _ _) jc))
              have SC := Lib.hid (show RSee Wc b2 bk qr n' cr t N' from by rw [hwc]; exact SD.out.on (below_drewN (Below.refl _ _) jc))
              clear hwc HSM XD SD
              (try go_wp2_with fail)
              refine hK.out _ _ SC.out (fun hHeld => ?_)
              clear hK K
              try simp only [List.getElem_cons_succ, List.getElem_cons_zero, Act.put, List.setIfInBounds_toArray, List.set_cons_zero, List.set_cons_succ]
              refine take_at 6 (by kernel_rfl) (v := ?v6) (by kernel_rfl) (by kernel_rfl) (by kernel_rfl) (fun _ _ _ h => h) (by rfl) ?y6 (by assumption) ?r6
              case y6 => (intro w hSw; (try dsimp only at hSw); (obtain ⟨hSa, hSb, hSc⟩ := hSw); simp only [List.getElem_cons_succ, List.getElem_cons_zero]; go_simp; (try with_reducible rfl))
              try simp only [List.getElem_cons_succ, List.getElem_cons_zero, Act.put, List.setIfInBounds_toArray, List.set_cons_zero, List.set_cons_succ]
              refine take_at 7 (by kernel_rfl) (v := ?v7) (by kernel_rfl) (by kernel_rfl) (by kernel_rfl) (fun _ _ _ h => h) (by rfl) ?y7 (by assumption) ?r7
              case y7 => (intro w hSw; (try dsimp only at hSw); (obtain ⟨hSa, hSb, hSc⟩ := hSw); simp only [List.getElem_cons_succ, List.getElem_cons_zero]; go_simp; (try with_reducible rfl))
              try simp only [List.getElem_cons_succ, List.getElem_cons_zero, Act.put, List.setIfInBounds_toArray, List.set_cons_zero, List.set_cons_succ]
              refine take_at 9 (by kernel_rfl) (v := ?v8) (by kernel_rfl) (by kernel_rfl) (by kernel_rfl) (fun _ _ _ h => h) (by rfl) ?y8 (by assumption) ?r8
              case y8 => (intro w hSw; (try dsimp only at hSw); (obtain ⟨hSa, hSb, hSc⟩ := hSw); simp only [List.getElem_cons_succ, List.getElem_cons_zero]; go_simp; (try with_reducible rfl))
              try simp only [List.getElem_cons_succ, List.getElem_cons_zero, Act.put, List.setIfInBounds_toArray, List.set_cons_zero, List.set_cons_succ]
              refine take_at 10 (by kernel_rfl) (v := ?v9) (by kernel_rfl) (by kernel_rfl) (by kernel_rfl) (fun _ _ _ h => h) (by rfl) ?y9 (by assumption) ?r9
              case y9 => (intro w hSw; (try dsimp only at hSw); (obtain ⟨hSa, hSb, hSc⟩ := hSw); simp only [List.getElem_cons_succ, List.getElem_cons_zero]; go_simp; (try with_reducible rfl))
              try simp only [List.getElem_cons_succ, List.getElem_cons_zero, Act.put, List.setIfInBounds_toArray, List.set_cons_zero, List.set_cons_succ]
              refine take_at 11 (by kernel_rfl) (v := ?v10) (by kernel_rfl) (by kernel_rfl) (by kernel_rfl) (fun _ _ _ h => h) (by rfl) ?y10 (by assumption) ?r10
              case y10 => (intro w hSw; (try dsimp only at hSw); (obtain ⟨hSa, hSb, hSc⟩ := hSw); simp only [List.getElem_cons_succ, List.getElem_cons_zero]; go_simp; (try with_reducible rfl))
              try simp only [List.getElem_cons_succ, List.getElem_cons_zero, Act.put, List.setIfInBounds_toArray, List.set_cons_zero, List.set_cons_succ]
              refine take_at 12 (by kernel_rfl) (v := ?v11) (by kernel_rfl) (by kernel_rfl) (by kernel_rfl) (fun _ _ _ h => h) (by rfl) ?y11 (by assumption) ?r11
              case y11 => (intro w hSw; (try dsimp only at hSw); (obtain ⟨hSa, hSb, hSc⟩ := hSw); simp only [List.getElem_cons_succ, List.getElem_cons_zero]; go_simp; (try with_reducible rfl))
              try simp only [List.getElem_cons_succ, List.getElem_cons_zero, Act.put, List.setIfInBounds_toArray, List.set_cons_zero, List.set_cons_succ]
              refine ready_at 8 (by kernel_rfl) (by kernel_rfl) (fun K hK => ?_)
              simp only [List.getElem_cons_succ, List.getElem_cons_zero]
              go_simp
              go_at_call 18
              refine (pc_told XC.out.pair.one).mono ?_
              rintro e Wd ⟨rfl, hbd⟩
              have XE := Lib.hid (XC.out.on hbd)
              have SD := Lib.hid (SC.out.on hbd)
              clear hbd XC SC
              (try go_wp2_with fail)
              refine hK.out _ _ SD.out (fun hHeld => ?_)
              clear hK K
              try simp only [List.getElem_cons_succ, List.getElem_cons_zero, Act.put, List.setIfInBounds_toArray, List.set_cons_zero, List.set_cons_succ]
              refine take_at 13 (by kernel_rfl) (v := ?v12) (by kernel_rfl) (by kernel_rfl) (by kernel_rfl) (fun _ _ _ h => h) (by rfl) ?y12 (by assumption) ?r12
              case y12 => (intro w hSw; (try dsimp only at hSw); (obtain ⟨hSa, hSb, hSc⟩ := hSw); simp only [List.getElem_cons_succ, List.getElem_cons_zero]; go_simp; (try with_reducible rfl))
              try simp only [List.getElem_cons_succ, List.getElem_cons_zero, Act.put, List.setIfInBounds_toArray, List.set_cons_zero, List.set_cons_succ]
              refine take_at 14 (by kernel_rfl) (v := ?v13) (by kernel_rfl) (by kernel_rfl) (by kernel_rfl) (fun _ _ _ h => h) (by rfl) ?y13 (by assumption) ?r13
              case y13 => (intro w hSw; (try dsimp only at hSw); (obtain ⟨hSa, hSb, hSc⟩ := hSw); simp only [List.getElem_cons_succ, List.getElem_cons_zero]; go_simp; (try with_reducible rfl))
              try simp only [List.getElem_cons_succ, List.getElem_cons_zero, Act.put, List.setIfInBounds_toArray, List.set_cons_zero, List.set_cons_succ]
              refine take_at 15 (by kernel_rfl) (v := ?v14) (by kernel_rfl) (by kernel_rfl) (by kernel_rfl) (fun _ _ _ h => h) (by rfl) ?y14 (by assumption) ?r14
              case y14 => (intro w hSw; (try dsimp only at hSw); (obtain ⟨hSa, hSb, hSc⟩ := hSw); simp only [List.getElem_cons_succ, List.getElem_cons_zero]; go_simp; (try with_reducible rfl))
              try simp only [List.getElem_cons_succ, List.getElem_cons_zero, Act.put, List.setIfInBounds_toArray, List.set_cons_zero, List.set_cons_succ]
              refine take_at 16 (by kernel_rfl) (v := ?v15) (by kernel_rfl) (by kernel_rfl) (by kernel_rfl) (fun _ _ _ h => h) (by rfl) ?y15 (by assumption) ?r15
              case y15 => (intro w hSw; (try dsimp only at hSw); (obtain ⟨hSa, hSb, hSc⟩ := hSw); simp only [List.getElem_cons_succ, List.getElem_cons_zero]; go_simp; (try with_reducible rfl))
              try simp only [List.getElem_cons_succ, List.getElem_cons_zero, Act.put, List.setIfInBounds_toArray, List.set_cons_zero, List.set_cons_succ]
              refine take_at 18 (by kernel_rfl) (v := ?v16) (by kernel_rfl) (by kernel_rfl) (by kernel_rfl) (fun _ _ _ h => h) (by rfl) ?y16 (by assumption) ?r16
              case y16 => (intro w hSw; (try dsimp only at hSw); (obtain ⟨hSa, hSb, hSc⟩ := hSw); simp only [List.getElem_cons_succ, List.getElem_cons_zero]; go_simp; (try with_reducible rfl))
              try simp only [List.getElem_cons_succ, List.getElem_cons_zero, Act.put, List.setIfInBounds_toArray, List.set_cons_zero, List.set_cons_succ]
              refine take_at 19 (by kernel_rfl) (v := ?v17) (by kernel_rfl) (by kernel_rfl) (by kernel_rfl) (fun _ _ _ h => h) (by rfl) ?y17 (by assumption) ?r17
              case y17 => (intro w hSw; (try dsimp only at hSw); (obtain ⟨hSa, hSb, hSc⟩ := hSw); simp only [List.getElem_cons_succ, List.getElem_cons_zero]; go_simp; (try with_reducible rfl))
              try simp only [List.getElem_cons_succ, List.getElem_cons_zero, Act.put, List.setIfInBounds_toArray, List.set_cons_zero, List.set_cons_succ]
              refine take_at 20 (by kernel_rfl) (v := ?v18) (by kernel_rfl) (by kernel_rfl) (by kernel_rfl) (fun _ _ _ h => h) (by rfl) ?y18 (by assumption) ?r18
              case y18 => (intro w hSw; (try dsimp only at hSw); (obtain ⟨hSa, hSb, hSc⟩ := hSw); simp only [List.getElem_cons_succ, List.getElem_cons_zero]; go_simp; (try with_reducible rfl))
              try simp only [List.getElem_cons_succ, List.getElem_cons_zero, Act.put, List.setIfInBounds_toArray, List.set_cons_zero, List.set_cons_succ]
              refine take_at 21 (by kernel_rfl) (v := ?v19) (by kernel_rfl) (by kernel_rfl) (by kernel_rfl) (fun _ _ _ h => h) (by rfl) ?y19 (by assumption) ?r19
              case y19 => (intro w hSw; (try dsimp only at hSw); (obtain ⟨hSa, hSb, hSc⟩ := hSw); simp only [List.getElem_cons_succ, List.getElem_cons_zero]; go_simp; (try with_reducible rfl))
              try simp only [List.getElem_cons_succ, List.getElem_cons_zero, Act.put, List.setIfInBounds_toArray, List.set_cons_zero, List.set_cons_succ]
              refine ready_at 17 (by kernel_rfl) (by kernel_rfl) (fun K hK => ?_)
              simp only [List.getElem_cons_succ, List.getElem_cons_zero]
              go_simp
              go_at_call 19
              refine (pc_used XE.out.pair.one HNB.out).mono ?_
              rintro e We ⟨rfl, g3, hr, ht, hf⟩
              have XF := Lib.hid (XE.out.step1 hr ht hf)
              have SF := Lib.hid (SD.out.touch ht (fun e => XE.out.pair.apart _ e M2.out) (fun e => XE.out.pair.apart _ e MK.out))
              clear hr ht hf XE SD
              (try go_wp2_with fail)
              refine hK.out _ _ SF.out (fun hHeld => ?_)
              clear hK K
              try simp only [List.getElem_cons_succ, List.getElem_cons_zero, Act.put, List.setIfInBounds_toArray, List.set_cons_zero, List.set_cons_succ]
              refine take_at 22 (by kernel_rfl) (v := ?v20) (by kernel_rfl) (by kernel_rfl) (by kernel_rfl) (fun _ _ _ h => h) (by rfl) ?y20 (by assumption) ?r20
              case y20 => (intro w hSw; (try dsimp only at hSw); (obtain ⟨hSa, hSb, hSc⟩ := hSw); simp only [List.getElem_cons_succ, List.getElem_cons_zero]; go_simp; (try with_reducible rfl))
              try simp only [List.getElem_cons_succ, List.getElem_cons_zero, Act.put, List.setIfInBounds_toArray, List.set_cons_zero, List.set_cons_succ]
              refine take_at 23 (by kernel_rfl) (v := ?v21) (by kernel_rfl) (by kernel_rfl) (by kernel_rfl) (fun _ _ _ h => h) (by rfl) ?y21 (by assumption) ?r21
              case y21 => (intro w hSw; (try dsimp only at hSw); (obtain ⟨hSa, hSb, hSc⟩ := hSw); simp only [List.getElem_cons_succ, List.getElem_cons_zero]; go_simp; (try with_reducible rfl))
              try simp only [List.getElem_cons_succ, List.getElem_cons_zero, Act.put, List.setIfInBounds_toArray, List.set_cons_zero, List.set_cons_succ]
              refine take_at 24 (by kernel_rfl) (v := ?v22) (by kernel_rfl) (by kernel_rfl) (by kernel_rfl) (fun _ _ _ h => h) (by rfl) ?y22 (by assumption) ?r22
              case y22 => (intro w hSw; (try dsimp only at hSw); (obtain ⟨hSa, hSb, hSc⟩ := hSw); simp only [List.getElem_cons_succ, List.getElem_cons_zero]; go_simp; (try with_reducible rfl))
              try simp only [List.getElem_cons_succ, List.getElem_cons_zero, Act.put, List.setIfInBounds_toArray, List.set_cons_zero, List.set_cons_succ]
              refine wpAnyH_done (by kernel_rfl) ?_ _
              go_wp2_with fail
              refine (overN_any Wa.heap.size _ n' _ We XF.out.own).mono ?_
              rintro e Wf ⟨rfl, hb, hk⟩
              have P := Lib.hid (XF.out.over hk (hb.mono BB.out))
              clear hb hk XF SF
              go_wp2_with fail
              go_roundw
              case rel => exact ⟨k + 1, N', ⟨L, t⟩, g3, g2, by go_num, by omega, HN63.out, P⟩
              case measure => simp [intOf]; omega
            · obtain rfl : k = h := by omega
              obtain ⟨qr, cr, hsee, hgr, hm2, hmk⟩ := rc_see P.out.two
              have PD := Lib.hid (P.out.drewN (pcHeld bl) (rcHeld bk) 1)
              have SD := Lib.hid (hsee.on (Below.refl _ _).drew)
              have GR := Lib.hid (hgr.below (Below.refl _ _).drew)
              have HOK := Lib.hid (pc_ok P.out.one)
              clear hsee hgr hm2 hmk P
              obtain ⟨L, t⟩ := s
              dsimp only at *
              obtain ⟨n', hn'⟩ : ∃ n', n' = L.length := ⟨_, rfl⟩
              rw [← hn'] at SD
              have HLN := Lib.hid hn'.symm
              clear hn'
              go_wp2_with fail
              refine wp_region_held_drew (S := (fun W' => W'.cell? ⟨b2, 0, none⟩ = some (.slice qr n' cr))) (by kernel_rfl) SD.out.1 (fun hHeld => ?_)
              refine take_at 0 (by kernel_rfl) (v := ?v23) (by kernel_rfl) (by kernel_rfl) (by kernel_rfl) (fun _ _ _ h => h) (by rfl) ?y23 (by assumption) ?r23
              case y23 => (intro w hSw; (try dsimp only at hSw); simp only [List.getElem_cons_succ, List.getElem_cons_zero]; go_simp; (try with_reducible rfl))
              try simp only [List.getElem_cons_succ, List.getElem_cons_zero, Act.put, List.setIfInBounds_toArray, List.set_cons_zero, List.set_cons_succ]
              refine take_at 2 (by kernel_rfl) (v := ?v24) (by kernel_rfl) (by kernel_rfl) (by kernel_rfl) (fun _ _ _ h => h) (by rfl) ?y24 (by assumption) ?r24
              case y24 => (intro w hSw; (try dsimp only at hSw); simp only [List.getElem_cons_succ, List.getElem_cons_zero]; go_simp; (try with_reducible rfl))
              try simp only [List.getElem_cons_succ, List.getElem_cons_zero, Act.put, List.setIfInBounds_toArray, List.set_cons_zero, List.set_cons_succ]
              refine take_at 3 (by kernel_rfl) (v := ?v25) (by kernel_rfl) (by kernel_rfl) (by kernel_rfl) (fun _ _ _ h => h) (by rfl) ?y25 (by assumption) ?r25
              case y25 => (intro w hSw; (try dsimp only at hSw); simp only [List.getElem_cons_succ, List.getElem_cons_zero]; go_simp; (try with_reducible rfl))
              try simp only [List.getElem_cons_succ, List.getElem_cons_zero, Act.put, List.setIfInBounds_toArray, List.set_cons_zero, List.set_cons_succ]
              refine take_at 4 (by kernel_rfl) (v := ?v26) (by kernel_rfl) (by kernel_rfl) (by kernel_rfl) (fun _ _ _ h => h) (by rfl) ?y26 (by assumption) ?r26
              case y26 => (intro w hSw; (try dsimp only at hSw); simp only [List.getElem_cons_succ, List.getElem_cons_zero]; go_simp; (try with_reducible rfl))
              try simp only [List.getElem_cons_succ, List.getElem_cons_zero, Act.put, List.setIfInBounds_toArray, List.set_cons_zero, List.set_cons_succ]
              refine take_at 5 (by kernel_rfl) (v := ?v27) (by kernel_rfl) (by kernel_rfl) (by kernel_rfl) (fun _ _ _ h => h) (by rfl) ?y27 (by assumption) ?r27
              case y27 => (intro w hSw; (try dsimp only at hSw); simp only [List.getElem_cons_succ, List.getElem_cons_zero]; go_simp; (try with_reducible rfl))
              try simp only [List.getElem_cons_succ, List.getElem_cons_zero, Act.put, List.setIfInBounds_toArray, List.set_cons_zero, List.set_cons_succ]
              refine ready_at 1 (by kernel_rfl) (by kernel_rfl) (fun K hK => ?_)
              simp only [List.getElem_cons_succ, List.getElem_cons_zero]
              go_simp
              go_at_call 17
              refine (pc_order PD.out.one).mono ?_
              rintro e Wb ⟨vo, rfl, ho, hb⟩
              rw [HLN.out] at ho
              (obtain ⟨qo, co, hv, _, hgo⟩ := ho.good (bd_of HOK.out.may))
              subst hv
              have PB := Lib.hid (PD.out.on (pcHeld bl) (rcHeld bk) hb)
              have HSM := Lib.hid (sameN_any L L n' n' qo qr co cr Wb HLN.out HLN.out hgo (GR.out.below hb))
              rw [show decide (L = L) = true from decide_eq_true rfl] at HSM
              have SB := Lib.hid (SD.out.on hb)
              clear ho hb hgo PD SD GR
              (try go_wp2_with fail)
              refine hK.out _ _ SB.out.1 (fun hHeld => ?_)
              clear hK K
              try simp only [List.getElem_cons_succ, List.getElem_cons_zero, Act.put, List.setIfInBounds_toArray, List.set_cons_zero, List.set_cons_succ]
              refine ready_at 6 (by kernel_rfl) (by kernel_rfl) (fun K hK => ?_)
              simp only [List.getElem_cons_succ, List.getElem_cons_zero]
              go_simp
              go_at_call 14
              refine HSM.out.mono ?_
              rintro e Wc ⟨rfl, jc, hwc⟩
              have PC_ := Lib.hid (show Pair (PC bl) (RC bk) w Wc b1 g1 _ b2 g2 _ from by rw [hwc]; exact PB.out.drewN (pcHeld bl) (rcHeld bk) jc)
              have SC := Lib.hid (show RSee Wc b2 bk qr n' cr t N from by rw [hwc]; exact SB.out.on (below_drewN (Below.refl _ _) jc))
              clear hwc HSM PB SB
              (try go_wp2_with fail)
              refine hK.out _ _ SC.out.1 (fun hHeld => ?_)
              clear hK K
              try simp only [List.getElem_cons_succ, List.getElem_cons_zero, Act.put, List.setIfInBounds_toArray, List.set_cons_zero, List.set_cons_succ]
              refine take_at 7 (by kernel_rfl) (v := ?v28) (by kernel_rfl) (by kernel_rfl) (by kernel_rfl) (fun _ _ _ h => h) (by rfl) ?y28 (by assumption) ?r28
              case y28 => (intro w hSw; (try dsimp only at hSw); simp only [List.getElem_cons_succ, List.getElem_cons_zero]; go_simp; (try with_reducible rfl))
              try simp only [List.getElem_cons_succ, List.getElem_cons_zero, Act.put, List.setIfInBounds_toArray, List.set_cons_zero, List.set_cons_succ]
              refine ready_at 8 (by kernel_rfl) (by kernel_rfl) (fun K hK => ?_)
              simp only [List.getElem_cons_succ, List.getElem_cons_zero]
              go_simp
              go_at_call 8
              refine (pawake_any probeOK Wc).mono ?_
              rintro e Wd ⟨rfl, hbd⟩
              have BD := Lib.hid (below_next PC_.out.below hbd)
              have SD := Lib.hid (SC.out.on hbd)
              clear hbd PC_ SC
              (try go_wp2_with fail)
              refine hK.out _ _ SD.out.1 (fun hHeld => ?_)
              clear hK K
              try simp only [List.getElem_cons_succ, List.getElem_cons_zero, Act.put, List.setIfInBounds_toArray, List.set_cons_zero, List.set_cons_succ]
              refine take_at 9 (by kernel_rfl) (v := ?v29) (by kernel_rfl) (by kernel_rfl) (by kernel_rfl) (fun _ _ _ h => h) (by rfl) ?y29 (by assumption) ?r29
              case y29 => (intro w hSw; (try dsimp only at hSw); simp only [List.getElem_cons_succ, List.getElem_cons_zero]; go_simp; (try with_reducible rfl))
              try simp only [List.getElem_cons_succ, List.getElem_cons_zero, Act.put, List.setIfInBounds_toArray, List.set_cons_zero, List.set_cons_succ]
              refine take_at 10 (by kernel_rfl) (v := ?v30) (by kernel_rfl) (by kernel_rfl) (by kernel_rfl) (fun _ _ _ h => h) (by rfl) ?y30 (by assumption) ?r30
              case y30 => (intro w hSw; (try dsimp only at hSw); simp only [List.getElem_cons_succ, List.getElem_cons_zero]; go_simp; (try with_reducible rfl))
              try simp only [List.getElem_cons_succ, List.getElem_cons_zero, Act.put, List.setIfInBounds_toArray, List.set_cons_zero, List.set_cons_succ]
              refine wpAnyH_done (by kernel_rfl) ?_ _
              go_wp2_with fail
              go_ret
              exact ⟨rfl, BD.out⟩
        · have hne := Lib.hid hnew
          obtain ⟨rfl, fl1, N1, hl1, ht1, hf1⟩ : e = .returned (.tuple #[.pointer none, v64 2]) ∧ ∃ fl' N', LArg ProgLot W4 (lptr bl) fl' ls N' ∧ Touch fl W3 W4 ∧ From fl fl' W3 := by
            rcases HMADE.out with ⟨h4, _⟩ | ⟨_, h4⟩
            · exact absurd h4 hnew
            · exact h4
          have S4 := Lib.hid (S3.out.step1 lotsOK.ok.rep refLotOK.rep hl1.obj ht1 hf1)
          have OI4 := Lib.hid (OI3.out.touch ht1 (fun g hg => (NI.out g hg).1))
          have NK := Lib.hid (show ∀ g, (Value.slice qi n ci).ownBlock = some g → g ∉ fk from fun g hg => (NI.out g hg).2.1)
          have B5 := Lib.hid (show w.heap.size ≤ W2.heap.size from S2.out.below.size)
          clear HMADE hl1 ht1 hf1 S3 OI3 GI3 NI S2
          go_wp2_with fail
          refine (rpnew_any xs n q c bk fk ls 0 W4 HN.out (GX.out.below S4.out.below) (by omega) S4.out.two (by omega)).mono ?_
          rintro e W5 hmade5
          obtain ⟨rfl, fk2, N2, hl2, ht2, hf2⟩ : e = .returned (.tuple #[.pointer none, v64 2]) ∧ ∃ fl' N', RefLot W5 bk fl' ls N' ∧ Touch fk W4 W5 ∧ From fk fl' W4 := by
            rcases hmade5 with ⟨h4, _⟩ | ⟨_, h4⟩
            · exact absurd h4 hnew
            · exact h4
          have BW5 := Lib.hid (S4.out.below.trans (ht2.below S4.out.new2 S4.out.below.size))
          have OI5 := Lib.hid (OI4.out.touch ht2 NK.out)
          clear hmade5 hl2 ht2 hf2 S4 OI4 NK hnew
          obtain ⟨q5, c5', hv5, _, hg5⟩ := OI5.out.good GX.out.nums
          injection hv5 with v51 v52 v53
          subst v51 v53
          clear v52
          have HSM := Lib.hid (sameN_any xs xs n n qi q ci c W5 HN.out HN.out hg5 (GX.out.below BW5.out))
          rw [show decide (xs = xs) = true from decide_eq_true rfl] at HSM
          clear hg5
          go_wp2_with fail
          refine HSM.out.mono ?_
          rintro e W6 ⟨rfl, j6, hw6⟩
          have BW6 := Lib.hid (show Below w.heap.size w W6 from by rw [hw6]; exact below_drewN BW5.out j6)
          have OI6 := Lib.hid (show Own64 W6 W2.heap.size it (.slice qi n ci) n (xs.map v64) from by rw [hw6]; exact OI5.out.touch (fp := []) ((Touch.refl _ _).drewN j6) (fun g _ => by simp))
          clear hw6 HSM BW5 OI5
          go_wp2_with fail
          refine (overN_any W2.heap.size _ n _ W6 OI6.out).mono ?_
          rintro e W7 ⟨rfl, hb7, hk7⟩
          have BW7 := Lib.hid (BW6.out.trans (hb7.mono B5.out))
          clear hb7 hk7 BW6 OI6 B5
          go_wp2_with fail
          refine (pawake_any probeOK W7).mono ?_
          rintro e W8 ⟨rfl, hb8⟩
          have BW8 := Lib.hid (below_next BW7.out hb8)
          clear hb8 BW7
          go_wp2_with fail
          go_ret
          exact ⟨rfl, BW8.out⟩
      · exact absurd HZ.out hz2
    · have HZ := Lib.hid hz
      obtain ⟨er, her⟩ : ∃ x, x = newErr ls := ⟨_, rfl⟩
      rw [← her]
      have HER := Lib.hid her
      have hne : (er == 0) = false := by rw [beq_eq_false_iff_ne, her]; exact hz
      clear her hz
      go_wp2_with fail
      refine (refLotOK.new ls m p d W1 HM.out (GL.out.below B1.out)).mono ?_
      rintro e W2 ⟨hb2, ⟨hz2, _⟩ | ⟨_, rfl⟩⟩
      · exact absurd hz2 HZ.out
      · rw [← HER.out]
        have B2 := Lib.hid (below_next B1.out hb2)
        clear hb2 B1
        go_wp2_with fail
        refine (pawake_any probeOK W2).mono ?_
        rintro e W3 ⟨rfl, hb3⟩
        have B3 := Lib.hid (below_next B2.out hb3)
        clear hb3 B2
        go_wp2_with fail
        go_ret
        exact ⟨rfl, B3.out⟩
end
end Go.Proofs.Ytfoomffbjjcjjaa
