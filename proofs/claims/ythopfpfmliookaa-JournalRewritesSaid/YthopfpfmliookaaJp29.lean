/-
  The law JournalCrash.
  The law JournalRewrites.
  The laws of journals, their contracts over the program's own (disksFew, journalOK, journalsNone: JnZ).
-/
import Derived.Test.YthopfpfmliookaaJp28
import Derived.Test.YthopfpfmliookaaJp15
import Derived.Test.YthopfpfmliookaaJp11
namespace Go.Proofs.Ythopfpfmliookaa
section
set_option linter.unusedSimpArgs false
set_option linter.unusedVariables false
open Go.RowKit Sha Dsk Jrn
section
variable {RD : DiskRep} {RJ : JRep} {w0 w w' : World} {bd bj : Nat} {fd fj : List Nat} {s s' : DState} {L L' : Rs} {p : Option Addr} {n c : Nat} {l : Rs} {bs : List Nat}
theorem Pair.low12 (D : DisksFew RD) (F : JournalOK RD RJ) (h : Duo RD RJ w0 w bd fd s bj fj L) : ∀ k ∈ fd ++ fj, k < w.heap.size := fun k hk => by
  rcases List.mem_append.1 hk with hk | hk
  · exact D.held.low h.one k hk
  · exact F.held.low h.two k hk
theorem jfirm_b (F : JournalOK RD RJ) {m room k : Nat} (h : Duo RD RJ w0 w bd fd (mk L m room k) bj fj L) (hL : Rec2 L) (hm : m ≤ L.length) :
    Calls Try.prog 13 #[optr bj] w (SaysB (i64v m) w) := by
  have h1 := F.firm bd fd (mk L m room k) bj fj L w h.one h.two h.apart (mk_tied hL m room k)
  rwa [show firmN L (mk L m room k).firm = m from firmN_take L m hm] at h1
/-- An append, while records that were told elsewhere stay. -/
theorem jappend_keep (D : DisksFew RD) (F : JournalOK RD RJ) {m room k : Nat} (h : Duo RD RJ w0 w bd fd (mk L m room k) bj fj L) (hL : Rec2 L) (zs : List Int) (cs : Array Value) (fr : Nat × Nat) (z : Nat) (hc : cs = (zs.map v8).toArray) (hz : zs.length = z) (h1 : 1 ≤ z) (hs : z ≤ 1000) (hb : ∀ x ∈ zs, IsByte x)
    (hm : m ≤ L.length) (hr : (Frm.frs L).length + (8 + z) ≤ room) (hk : k ≤ 1000) (hi : RecsIn w p n c l bs) (ha : Apart bs (fd ++ fj)) :
    Calls Try.prog 8 #[optr bj, .slice (some ⟨w.heap.size, 0, none⟩) z z] (w.alloc (.cells cs 5 fr)) (fun e w' => e = .returned (i64v 0) ∧ ∃ fd' fj', Duo RD RJ w0 w' bd fd' (mk (L ++ [zs]) m room (k + 1)) bj fj' (L ++ [zs]) ∧ RecsIn w' p n c l bs ∧ Apart bs (fd' ++ fj')) := by
  have hB := (Below.refl w.heap.size w).alloc (Nat.le_refl _) (Obj.cells cs 5 fr)
  have h' := h.on D.held F.held hB
  have hi' := hi.on hB
  have hap : ApartC zs (some ⟨w.heap.size, 0, none⟩) (fd ++ fj) := fun _ a ha hm => by cases ha; exact Nat.lt_irrefl _ (h.low12 D F _ hm)
  obtain ⟨e1, e2, e3⟩ := mk_append (L := L) m room k (b := zs) ⟨by omega, by omega⟩ hm (by rw [hz]; exact hr)
  have hx := F.append bd fd (mk L m room k) bj fj L zs z _ z _ h'.one h'.two h'.apart (mk_tied hL m room k) (by show k ≤ _; omega) hz (by omega) (lit_good w zs cs fr z hc hz hs hb) hap
  rw [e1, e2, e3] at hx
  refine hx.mono ?_
  rintro e w' ⟨rfl, fd', fj', hd, hj, hpp, ht, hf⟩
  exact ⟨rfl, fd', fj', h'.jstep hd hj hpp ht hf, hi'.touch ht ha, (ha.symm.from_ hf hi'.low).symm⟩
/-- Opened again, while the elder journal and records that were told stay. -/
def OpenedAgain (RD : DiskRep) (RJ : JRep) (w0 : World) (bd : Nat) (s : DState) (L : Rs) (bj : Nat) (fj : List Nat) (p : Option Addr) (n c : Nat) (l : Rs) (bs : List Nat) (e : Ending) (w' : World) : Prop :=
  ∃ fd' bm fm, e = .returned (.tuple #[optr bm, i64v 0]) ∧ Duo RD RJ w0 w' bd fd' s bm fm L ∧ RJ w' bj fj (L, bd) ∧ RecsIn w' p n c l bs
theorem jopen_again (D : DisksFew RD) (F : JournalOK RD RJ) {m room k : Nat} (h : Duo RD RJ w0 w bd fd (mk L m room k) bj fj L) (hL : Rec2 L) (hk : k ≤ 1000) (hi : RecsIn w p n c l bs) (ha : Apart bs fd) :
    Calls Try.prog 14 #[optr bd] w (OpenedAgain RD RJ w0 bd (mk L m room k) L bj fj p n c l bs) := by
  obtain ⟨e1, e2, e3⟩ := mk_open hL m room k
  refine (F.open_ bd fd _ w h.one (by show k ≤ _; omega) (fun _ => rfl)).mono ?_
  rintro e w' (⟨_, bm, fm, fd', rfl, hd, hj, hap, hn, ht, hf⟩ | ⟨h0, _⟩)
  · rw [e2] at hd
    rw [e3] at hj
    exact ⟨fd', bm, fm, rfl, h.fst.opened hd hj hap hn ht hf, F.held.touch h.two ht h.apart, hi.touch ht ha⟩
  · exact absurd e1 h0
end
theorem begun_take (l : Rs) (q : Nat) : begun l (l.take q) = true := by
  unfold begun
  rw [decide_eq_true_eq, List.length_take]
  refine ⟨by omega, ?_⟩
  rcases Nat.le_total q l.length with h | h
  · rw [Nat.min_eq_left h]
  · rw [Nat.min_eq_right h, List.take_of_length_le h, List.take_length]
theorem begun_snoc (l : Rs) (b : List Int) : begun (l ++ [b]) l = true := by
  unfold begun
  rw [decide_eq_true_eq]
  exact ⟨by simp, List.take_left⟩
theorem begun_self (l : Rs) : begun l l = true := by
  unfold begun
  rw [decide_eq_true_eq]
  exact ⟨Nat.le_refl _, List.take_length⟩
def moreB : List Int := [109, 111, 114, 101]
theorem more_rec : Frm.Rec moreB ∧ Frm.Bytes moreB := rec_lit (by decide) (by decide) (by decide)
set_option maxRecDepth 100000 in
set_option maxHeartbeats 4000000 in
theorem crash_any {RD : DiskRep} {RJ : JRep} (D : DisksFew RD) (F : JournalOK RD RJ) (l : Rs) (n : Nat) (p : Option Addr) (c : Nat) (x y : Int) (w : World) (h : Recs w p n c l) (hx : fit64 x) (hy : fit64 y) :
    Calls Try.prog 5 #[.slice p n c, i64v x, i64v y] w (SaysB (.bool true) w) := by
  have cv := fun w C n c => Go.Lib.run_convert_bytes_const (P := Try.prog) w 22 5 C n c Try.underlying22 Try.underlying5
  obtain ⟨bs, hi⟩ := recs_in h
  have HI := Lib.hid hi
  have m1 := h.max
  have c1 := h.le
  have HX := Lib.hid hx
  have HY := Lib.hid hy
  have HL := Lib.hid h.len
  have HBY := Lib.hid h.bytes
  clear h hi hx hy
  go_enter Try.func5, Try.ntmps5
  go_wp2_with fail
  refine (known_any D F w).mono ?_
  rintro e w1 ⟨rfl, hb⟩
  have B1 := Lib.hid hb
  clear hb
  go_wp2_with fail
  refine (fine_any l p n c w1 (HI.out.on B1.out).plain).mono ?_
  rintro e w2 ⟨fb, rfl, hfine, hb⟩
  have B2 := Lib.hid (B1.out.trans (hb.mono B1.out.size))
  have HFI := Lib.hid hfine
  clear hb hfine B1
  cases fb with
  | false =>
    go_wp2_with fail
    go_ret
    exact ⟨rfl, B2.out⟩
  | true =>
    have HFN := Lib.hid (HFI.out rfl)
    have HR := Lib.hid (HFN.out.rec2 HBY.out)
    have hn20 : n ≤ 20 := by rw [HL.out]; exact HFN.out.most
    clear HFI
    go_wp2_with fail
    refine (pick_any x ((n : Int) + 1) w2 (by omega) (by omega) HX.out).mono ?_
    rintro e _ ⟨rfl, rfl⟩
    obtain ⟨m, hm⟩ : ∃ m : Nat, pickOf x ((n : Int) + 1) = m := ⟨(pickOf x ((n : Int) + 1)).toNat, by have := pickOf_bd x ((n : Int) + 1) (by omega); omega⟩
    have hmn : m ≤ n := by have := pickOf_bd x ((n : Int) + 1) (by omega); omega
    rw [hm]
    clear hm
    go_wp2_with fail
    refine (laid_any D F l p n c bs m w2 HFN.out (HI.out.on B2.out) hmn).mono ?_
    rintro e w4 ⟨bd, fd, bj, fj, k, rfl, hk, hP⟩
    have P4 := Lib.hid hP
    have B4 := Lib.hid (B2.out.trans (hP.below.mono B2.out.size))
    have HML := Lib.hid (show m ≤ l.length by rw [← HL.out]; exact hmn)
    have HSZ := Lib.hid (HFN.out.size HR.out)
    have HSA := Lib.hid (show (Frm.frs l).length ≤ 80160 by have := HFN.out.size HR.out l.length; rwa [List.take_length] at this)
    clear hP
    go_wp2_with fail
    refine (jfirm_of D F P4.out HR.out HML.out).mono ?_
    rintro e w5 ⟨rfl, hP⟩
    have P5 := Lib.hid hP
    clear hP P4
    go_wp2_with fail
    refine (jall_of D F P5.out HR.out (by have := HSA.out; omega)).mono ?_
    rintro e w6 ⟨p6, c6, bs6, rfl, hr, hn, hb, hP⟩
    have P6 := Lib.hid hP
    rw [← HL.out] at hr ⊢
    have R6 := Lib.hid hr.plain
    have B6 := Lib.hid (B2.out.trans (hP.below.mono B2.out.size))
    clear hP hr hn hb P5 B4
    go_wp2_with fail
    refine (recsSame_any _ _ _ _ _ _ _ _ w6 R6.out (HI.out.on B6.out).plain).mono ?_
    rintro e w7 ⟨rfl, hb⟩
    have P7 := Lib.hid (P6.out.on D.held F.held hb)
    rw [show decide (l = l) = true from decide_eq_true rfl]
    clear hb P6 R6 B6
    go_wp2_with fail
    refine (pick_any y 5000 w7 (by omega) (by omega) HY.out).mono ?_
    rintro e _ ⟨rfl, rfl⟩
    obtain ⟨z, hz⟩ : ∃ z : Nat, pickOf y 5000 = z := ⟨(pickOf y 5000).toNat, by have := pickOf_bd y 5000 (by omega); omega⟩
    have hz5 : z ≤ 5000 := by have := pickOf_bd y 5000 (by omega); omega
    rw [hz]
    clear hz
    go_wp2_with fail
    refine (dcrash_of D P7.out z z rfl (by omega)).mono ?_
    rintro e w9 ⟨rfl, fd9, hS⟩
    have S9 := Lib.hid hS
    clear hS P7
    go_wp2_with fail
    refine (topen_of F S9.out HR.out HML.out (by have := HSA.out; omega) (by omega)).mono ?_
    rintro e w10 ⟨q, k', fd10, bk, fk, hq1, hq2, hk', _, rfl, hP⟩
    have P10 := Lib.hid hP
    have HTL := Lib.hid (show (l.take q).length = q by rw [List.length_take]; omega)
    have HRT := Lib.hid (HR.out.take q)
    have hqn : q ≤ 20 := by have := HFN.out.most; omega
    clear hP S9
    go_wp2_with fail
    refine (jall_of D F P10.out HRT.out (by have := HSZ.out q; omega)).mono ?_
    rintro e w11 ⟨p11, c11, bs11, rfl, hr, hn, hb, hP⟩
    have L10 := Lib.hid (P10.out.low12 D F)
    have A11 := Lib.hid (show Apart bs11 (fd10 ++ fk) from fun i h1 h2 => by have := hn i h1; have := L10.out i h2; omega)
    rw [HTL.out] at hr ⊢
    have P11 := Lib.hid hP
    have R11 := Lib.hid hr
    have B11 := Lib.hid (B2.out.trans (hP.below.mono B2.out.size))
    clear hP hr hn hb P10 L10
    have hqm : ¬ ((q : Int) < (m : Int)) := by omega
    go_wp2_with fail
    refine (begins_any l (l.take q) p p11 n q c c11 w11 (HI.out.on B11.out).plain R11.out.plain).mono ?_
    rintro e w12 ⟨rfl, hb⟩
    have P12 := Lib.hid (P11.out.on D.held F.held hb)
    have R12 := Lib.hid (R11.out.on hb)
    rw [begun_take]
    clear hb P11 R11 B11
    go_wp2_with fail
    refine (jfirm_b F P12.out HRT.out (by rw [HTL.out]; exact Nat.le_refl _)).mono ?_
    rintro e w13 ⟨rfl, hb⟩
    have P13 := Lib.hid (P12.out.on D.held F.held hb)
    have R13 := Lib.hid (R12.out.on hb)
    clear hb P12 R12
    go_wp2_with fail
    refine (jappend_keep D F P13.out HRT.out moreB _ _ 4 rfl rfl (by omega) (by omega) more_rec.2 (by rw [HTL.out]; exact Nat.le_refl _) (by have := HSZ.out q; omega) (by omega) R13.out A11.out).mono ?_
    rintro e w14 ⟨rfl, fd14, fk14, hP, hr, ha⟩
    have P14 := Lib.hid hP
    have R14 := Lib.hid hr
    have A14 := Lib.hid (show Apart bs11 fd14 from fun i h1 h2 => ha i h1 (List.mem_append_left _ h2))
    have HR2 := Lib.hid (HRT.out.snoc more_rec)
    have HL2 := Lib.hid (show (l.take q ++ [moreB]).length = q + 1 by rw [List.length_append, HTL.out]; rfl)
    have HS2 := Lib.hid (show (Frm.frs (l.take q ++ [moreB])).length ≤ 1000000 by
      rw [frs_snoc, List.length_append, Frm.fr_length]
      have := HSZ.out q
      have : moreB.length = 4 := rfl
      omega)
    have BG := Lib.hid (begun_snoc (l.take q) moreB)
    have BG2 := Lib.hid (begun_self (l.take q ++ [moreB]))
    clear hP hr ha P13 R13 A11
    obtain ⟨L2, hL2⟩ : ∃ L2, L2 = l.take q ++ [moreB] := ⟨_, rfl⟩
    rw [← hL2] at P14 HR2 HL2 HS2 BG BG2
    clear hL2
    go_wp2_with fail
    refine (jopen_again D F P14.out HR2.out (by omega) R14.out A14.out).mono ?_
    rintro e w15 ⟨fd15, bm, fm, rfl, hP, hK, hr⟩
    have P15 := Lib.hid hP
    have K15 := Lib.hid hK
    have R15 := Lib.hid hr
    clear hP hK hr P14 R14 A14
    go_wp2_with fail
    refine (F.len bd bm fm L2 w15 P15.out.two HS2.out HR2.out).mono ?_
    rintro e w16 ⟨rfl, hb⟩
    have P16 := Lib.hid (P15.out.on D.held F.held hb)
    have K16 := Lib.hid (F.held.on K15.out hb)
    have R16 := Lib.hid (R15.out.on hb)
    have HL2' : ((L2.length : Nat) : Int) = (q : Int) + 1 := by rw [HL2.out]; push_cast; rfl
    rw [HL2']
    clear hb P15 K15 R15 HL2'
    go_wp2_with fail
    refine (F.all bd bm fm L2 w16 P16.out.two HS2.out HR2.out).mono ?_
    rintro e w17 ⟨p17, n17, c17, bs17, rfl, hr, _, hb⟩
    have P17 := Lib.hid (P16.out.on D.held F.held hb)
    have K17 := Lib.hid (F.held.on K16.out hb)
    have R17 := Lib.hid (R16.out.on hb).plain
    have S17 := Lib.hid hr.plain
    clear hb hr P16 K16 R16
    go_wp2_with fail
    refine (begins_any L2 (l.take q) p17 p11 n17 q c17 c11 w17 S17.out R17.out).mono ?_
    rintro e w18 ⟨rfl, hb⟩
    have P18 := Lib.hid (P17.out.on D.held F.held hb)
    have K18 := Lib.hid (F.held.on K17.out hb)
    rw [BG.out]
    clear hb P17 K17 R17 S17
    go_wp2_with fail
    refine (F.all bd bk fk14 L2 w18 K18.out HS2.out HR2.out).mono ?_
    rintro e w19 ⟨p19, n19, c19, bs19, rfl, hr, _, hb⟩
    have P19 := Lib.hid (P18.out.on D.held F.held hb)
    have R19 := Lib.hid hr
    clear hb hr P18 K18
    go_wp2_with fail
    refine (F.all bd bm fm L2 w19 P19.out.two HS2.out HR2.out).mono ?_
    rintro e w20 ⟨p20, n20, c20, bs20, rfl, hr, _, hb⟩
    have P20 := Lib.hid (P19.out.on D.held F.held hb)
    have R20 := Lib.hid (R19.out.on hb).plain
    have S20 := Lib.hid hr.plain
    clear hb hr P19 R19
    go_wp2_with fail
    refine (begins_any L2 L2 p19 p20 n19 n20 c19 c20 w20 R20.out S20.out).mono ?_
    rintro e w21 ⟨rfl, hb⟩
    have B21 := Lib.hid (B2.out.trans ((P20.out.below.trans (hb.mono P20.out.below.size)).mono B2.out.size))
    rw [BG2.out]
    clear hb
    go_wp2_with fail
    go_ret
    exact ⟨rfl, B21.out⟩
end
section
set_option linter.unusedSimpArgs false
set_option linter.unusedVariables false
open Go.RowKit Sha Dsk Jrn
section
variable {RD : DiskRep} {RJ : JRep} {w0 w w' : World} {bd bj : Nat} {fd fj : List Nat} {s s' : DState} {L L' : Rs}
theorem jrewrite_to (F : JournalOK RD RJ) (h : Duo RD RJ w0 w bd fd s bj fj L) (ht : Tied L s) (hk : s.steps ≤ 1000) (l : Rs) (p : Option Addr) (n c : Nat) (bs : List Nat) (hi : RecsIn w p n c l bs) (ha : Apart bs (fd ++ fj)) (hn : n ≤ 1000) (hl : Rec2 l) (z : Int)
    (h1 : jrwS s l = s') (h2 : jrwL L s l = L') (h3 : jrwE s l = z) :
    Calls Try.prog 10 #[optr bj, .slice p n c] w (UDone RD RJ w0 bd bj s' L' (i64v z)) := by
  have h4 := F.rewrite bd fd s bj fj L l p n c bs w h.one h.two h.apart ht (by omega) hi ha hn (fun x hx => by have := (hl x hx).1.most; omega)
  rw [h1, h2, h3] at h4
  exact h.did h4
theorem dcrash_to (D : DisksFew RD) (h : Duo RD RJ w0 w bd fd s bj fj L) (z : Int) (n : Nat) (hz : z = n) (hn : n ≤ 1000000) (h1 : crashS s (n : Int) = s') :
    Calls Try.prog 22 #[optr bd, i64v z] w (fun e w' => e = .returned (i64v 0) ∧ ∃ fd', Solo RD w0 w' bd fd' s') := by
  subst hz
  have h2 := D.crash bd fd s n w h.one ⟨by omega, by omega⟩
  rw [h1, show crashE (n : Int) = 0 from if_neg (by omega)] at h2
  refine h2.mono ?_
  rintro e w' ⟨rfl, fd', hd, ht, hf⟩
  exact ⟨rfl, fd', h.fst.step hd ht hf⟩
theorem sopen_of (F : JournalOK RD RJ) {m room k : Nat} (S : Solo RD w0 w bd fd (mk L m room k)) (hL : Rec2 L) (hk : k ≤ 1000) :
    Calls Try.prog 14 #[optr bd] w (fun e w' => ∃ fd' bj fj, e = .returned (.tuple #[optr bj, i64v 0]) ∧ Duo RD RJ w0 w' bd fd' (mk L m room k) bj fj L) := by
  obtain ⟨e1, e2, e3⟩ := mk_open hL m room k
  refine (F.open_ bd fd _ w S.one (by show k ≤ _; omega) (fun _ => rfl)).mono ?_
  rintro e w' (⟨_, bj, fj, fd', rfl, hd, hj, hap, hn, ht, hf⟩ | ⟨h0, _⟩)
  · rw [e2] at hd
    rw [e3] at hj
    exact ⟨fd', bj, fj, rfl, S.opened hd hj hap hn ht hf⟩
  · exact absurd e1 h0
end
set_option maxRecDepth 100000 in
set_option maxHeartbeats 4000000 in
theorem rewrites_any {RD : DiskRep} {RJ : JRep} (D : DisksFew RD) (F : JournalOK RD RJ) (l : Rs) (n : Nat) (p : Option Addr) (c : Nat) (o : Rs) (no : Nat) (po : Option Addr) (co : Nat) (x y z : Int) (w : World) (h : Recs w p n c l) (ho : Recs w po no co o) (hx : fit64 x) (hy : fit64 y) (hz : fit64 z) :
    Calls Try.prog 6 #[.slice p n c, .slice po no co, i64v x, i64v y, i64v z] w (SaysB (.bool true) w) := by
  obtain ⟨bs, hi⟩ := recs_in h
  obtain ⟨bo, hio⟩ := recs_in ho
  have HI := Lib.hid hi
  have HO := Lib.hid hio
  have m1 := h.max
  have c1 := h.le
  have m2 := ho.max
  have c2 := ho.le
  have HX := Lib.hid hx
  have HY := Lib.hid hy
  have HZ := Lib.hid hz
  have HL := Lib.hid h.len
  have HLO := Lib.hid ho.len
  have HBY := Lib.hid h.bytes
  have HBO := Lib.hid ho.bytes
  clear h hi ho hio hx hy hz
  go_enter Try.func6, Try.ntmps6
  go_wp2_with fail
  refine (awake_any D F w).mono ?_
  rintro e w1 ⟨rfl, hb⟩
  have B1 := Lib.hid hb
  clear hb
  go_wp2_with fail
  refine (fine_any l p n c w1 (HI.out.on B1.out).plain).mono ?_
  rintro e w2 ⟨fb, rfl, hfine, hb⟩
  have B2 := Lib.hid (B1.out.trans (hb.mono B1.out.size))
  have HFI := Lib.hid hfine
  clear hb hfine B1
  cases fb with
  | false =>
    go_wp2_with fail
    go_ret
    exact ⟨rfl, B2.out⟩
  | true =>
  have HFN := Lib.hid (HFI.out rfl)
  clear HFI
  go_wp2_with fail
  refine (fine_any o po no co w2 (HO.out.on B2.out).plain).mono ?_
  rintro e w3 ⟨fb, rfl, hfine, hb⟩
  have B3 := Lib.hid (B2.out.trans (hb.mono B2.out.size))
  have HFO := Lib.hid hfine
  clear hb hfine B2
  cases fb with
  | false =>
    go_wp2_with fail
    go_ret
    exact ⟨rfl, B3.out⟩
  | true =>
  have HFM := Lib.hid (HFO.out rfl)
  have HR := Lib.hid (HFN.out.rec2 HBY.out)
  have HRO := Lib.hid (HFM.out.rec2 HBO.out)
  have hn20 : n ≤ 20 := by rw [HL.out]; exact HFN.out.most
  have hno20 : no ≤ 20 := by rw [HLO.out]; exact HFM.out.most
  clear HFO
  go_wp2_with fail
  refine (pick_any x ((n : Int) + 1) w3 (by omega) (by omega) HX.out).mono ?_
  rintro e _ ⟨rfl, rfl⟩
  obtain ⟨m, hm⟩ : ∃ m : Nat, pickOf x ((n : Int) + 1) = m := ⟨(pickOf x ((n : Int) + 1)).toNat, by have := pickOf_bd x ((n : Int) + 1) (by omega); omega⟩
  have hmn : m ≤ n := by have := pickOf_bd x ((n : Int) + 1) (by omega); omega
  rw [hm]
  clear hm
  go_wp2_with fail
  refine (laid_any D F l p n c bs m w3 HFN.out (HI.out.on B3.out) hmn).mono ?_
  rintro e w4 ⟨bd, fd, bj, fj, k, rfl, hk, hP⟩
  have P4 := Lib.hid hP
  have HML := Lib.hid (show m ≤ l.length by rw [← HL.out]; exact hmn)
  have HSA := Lib.hid (show (Frm.frs l).length ≤ 80160 by have := HFN.out.size HR.out l.length; rwa [List.take_length] at this)
  have HSO := Lib.hid (show (Frm.frs o).length ≤ 80160 by have := HFM.out.size HRO.out o.length; rwa [List.take_length] at this)
  clear hP
  go_wp2_with fail
  refine (pick_any y 4 w4 (by omega) (by omega) HY.out).mono ?_
  rintro e _ ⟨rfl, rfl⟩
  obtain ⟨f, hf⟩ : ∃ f : Nat, pickOf y 4 = f := ⟨(pickOf y 4).toNat, by have := pickOf_bd y 4 (by omega); omega⟩
  have hf4 : f ≤ 3 := by have := pickOf_bd y 4 (by omega); omega
  rw [hf]
  clear hf
  go_wp2_with fail
  refine (dfuse_of D P4.out F.held (f : Int) ⟨by omega, by omega⟩ (mk_fuse l m 1000000 k f).2 (mk_fuse l m 1000000 k f).1).mono ?_
  rintro e w5 ⟨rfl, fd5, hP⟩
  have P5 := Lib.hid hP
  have B5 := Lib.hid (B3.out.trans (hP.below.mono B3.out.size))
  have A5 := Lib.hid (show Apart bo (fd5 ++ fj) from hP.apart0 (fun i hi => Nat.lt_of_lt_of_le (HO.out.low i hi) B3.out.size))
  clear hP P4
  obtain ⟨kz, hkz⟩ : ∃ f : Nat, pickOf z 5000 = f := ⟨(pickOf z 5000).toNat, by have := pickOf_bd z 5000 (by omega); omega⟩
  have hk5 : kz ≤ 5000 := by have := pickOf_bd z 5000 (by omega); omega
  have HKZ := Lib.hid hkz
  clear hkz
  obtain ⟨S', hS'⟩ : ∃ S', S' = jrwS (fused l m 1000000 k f) o := ⟨_, rfl⟩
  have HC := Lib.hid (fused_rewrite (L := l) HRO.out m 1000000 k f (by have := HSA.out; have := HSO.out; omega) kz)
  rw [← hS'] at HC
  rcases HC.out with ⟨h1, e1, e2, e3, e4, e5⟩ | ⟨h1, e1, e2, k', e3, e4⟩
  · have HE2 := Lib.hid e2
    have HE3 := Lib.hid e3
    have HE4 := Lib.hid e4
    have HE5 := Lib.hid e5
    have HJ := Lib.hid (show jrwL l (fused l m 1000000 k f) o = o by unfold jrwL; rw [if_pos e1])
    have HE1 := Lib.hid e1
    have HS' := Lib.hid hS'
    have h1' : (1 : Int) < (f : Int) := by omega
    clear e1 e2 e3 e4 e5 h1 HC hS'
    go_wp2_with fail
    refine (jrewrite_to F P5.out (fused_tied HR.out m 1000000 k f) (by show k ≤ _; omega) o po no co bo (HO.out.on B5.out) A5.out (by omega) HRO.out 0 HS'.out.symm HJ.out HE1.out).mono ?_
    rintro e w6 ⟨rfl, fd6, fj6, hP⟩
    have P6 := Lib.hid hP
    clear hP P5 A5
    go_wp2_with fail
    refine (jall_of D F P6.out HRO.out (by have := HSO.out; omega)).mono ?_
    rintro e w7 ⟨p7, c7, bs7, rfl, hr, hn, hb, hP⟩
    have P7 := Lib.hid hP
    rw [← HLO.out] at hr ⊢
    have R7 := Lib.hid hr.plain
    have B7 := Lib.hid (B3.out.trans (hP.below.mono B3.out.size))
    clear hP hr hn hb P6
    go_wp2_with fail
    refine (recsSame_any _ _ _ _ _ _ _ _ w7 R7.out (HO.out.on B7.out).plain).mono ?_
    rintro e w8 ⟨rfl, hb⟩
    have P8 := Lib.hid (P7.out.on D.held F.held hb)
    rw [show decide (o = o) = true from decide_eq_true rfl]
    clear hb P7 R7 B7
    have HFF := Lib.hid (show firmN o S'.firm = no by rw [HE2.out]; have := firmN_take o o.length (Nat.le_refl _); rw [List.take_length] at this; rw [this]; exact HLO.out.symm)
    go_wp2_with fail
    refine (F.firm bd fd6 S' bj fj6 o w8 P8.out.one P8.out.two P8.out.apart HE3.out).mono ?_
    rintro e w9 ⟨rfl, hb⟩
    rw [HFF.out]
    have P9 := Lib.hid (P8.out.on D.held F.held hb)
    clear hb P8
    go_wp2_with fail
    refine (pick_any z 5000 w9 (by omega) (by omega) HZ.out).mono ?_
    rintro e _ ⟨rfl, rfl⟩
    rw [HKZ.out]
    go_wp2_with fail
    refine (dcrash_to D P9.out kz kz rfl (by omega) HE5.out).mono ?_
    rintro e w10 ⟨rfl, fd10, hS⟩
    have S10 := Lib.hid hS
    clear hS P9
    go_wp2_with fail
    refine (sopen_of F S10.out HRO.out (by omega)).mono ?_
    rintro e w11 ⟨fd11, bk, fk, rfl, hP⟩
    have P11 := Lib.hid hP
    clear hP S10
    go_wp2_with fail
    refine (jall_of D F P11.out HRO.out (by have := HSO.out; omega)).mono ?_
    rintro e w12 ⟨p12, c12, bs12, rfl, hr, hn, hb, hP⟩
    have P12 := Lib.hid hP
    rw [← HLO.out] at hr ⊢
    have R12 := Lib.hid hr.plain
    have B12 := Lib.hid (B3.out.trans (hP.below.mono B3.out.size))
    clear hP hr hn hb P11
    go_wp2_with fail
    refine (recsSame_any _ _ _ _ _ _ _ _ w12 R12.out (HO.out.on B12.out).plain).mono ?_
    rintro e w13 ⟨rfl, hb⟩
    have B13 := Lib.hid (B12.out.trans (hb.mono B12.out.size))
    rw [show decide (o = o) = true from decide_eq_true rfl]
    clear hb
    go_wp2_with fail
    go_ret
    exact ⟨rfl, B13.out⟩
  · have HE4 := Lib.hid e4
    have HJ := Lib.hid (show jrwL l (fused l m 1000000 k f) o = l by unfold jrwL; rw [if_neg (by rw [e1]; decide)])
    have HE1 := Lib.hid e1
    have HS' := Lib.hid hS'
    have h1' : ¬ (1 : Int) < (f : Int) := by omega
    clear e1 e2 e4 h1 HC hS'
    go_wp2_with fail
    refine (jrewrite_to F P5.out (fused_tied HR.out m 1000000 k f) (by show k ≤ _; omega) o po no co bo (HO.out.on B5.out) A5.out (by omega) HRO.out 11 HS'.out.symm HJ.out HE1.out).mono ?_
    rintro e w6 ⟨rfl, fd6, fj6, hP⟩
    have P6 := Lib.hid hP
    clear hP P5 A5
    go_wp2_with fail
    refine (pick_any z 5000 w6 (by omega) (by omega) HZ.out).mono ?_
    rintro e _ ⟨rfl, rfl⟩
    rw [HKZ.out]
    go_wp2_with fail
    refine (dcrash_to D P6.out kz kz rfl (by omega) HE4.out).mono ?_
    rintro e w7 ⟨rfl, fd7, hS⟩
    have S7 := Lib.hid hS
    clear hS P6
    go_wp2_with fail
    refine (topen_of F S7.out HR.out HML.out (by have := HSA.out; omega) (by omega)).mono ?_
    rintro e w8 ⟨q, k2, fd8, bk, fk, hq1, hq2, hk2, _, rfl, hP⟩
    have P8 := Lib.hid hP
    have HTL := Lib.hid (show (l.take q).length = q by rw [List.length_take]; omega)
    have HRT := Lib.hid (HR.out.take q)
    have HSQ := Lib.hid (HFN.out.size HR.out q)
    clear hP S7
    go_wp2_with fail
    refine (jall_of D F P8.out HRT.out (by have := HSQ.out; omega)).mono ?_
    rintro e w9 ⟨p9, c9, bs9, rfl, hr, hn, hb, hP⟩
    rw [HTL.out] at hr ⊢
    have P9 := Lib.hid hP
    have R9 := Lib.hid hr.plain
    have B9 := Lib.hid (B3.out.trans (hP.below.mono B3.out.size))
    clear hP hr hn hb P8
    go_wp2_with fail
    refine (begins_any l (l.take q) p p9 n q c c9 w9 (HI.out.on B9.out).plain R9.out).mono ?_
    rintro e w10 ⟨rfl, hb⟩
    have P10 := Lib.hid (P9.out.on D.held F.held hb)
    rw [begun_take]
    clear hb P9 R9 B9
    have hqm : (m : Int) ≤ (q : Int) := by omega
    go_wp2_with fail
    refine (jlen_of D F P10.out HRT.out (by have := HSQ.out; omega) q HTL.out).mono ?_
    rintro e w11 ⟨rfl, hP⟩
    have B11 := Lib.hid (B3.out.trans (hP.below.mono B3.out.size))
    clear hP
    go_wp2_with fail
    go_ret
    exact ⟨by simp [hqm], B11.out⟩
end
section
set_option linter.unusedSimpArgs false
set_option linter.unusedVariables false
open Go.RowKit Sha Dsk Jrn
theorem journalNone_law (zs : List Int) (n : Nat) (p : Option Addr) (cap : Nat) (w : World) (h1 : zs.length = n) (h2 : At w p (zs.map v8)) (h3 : n ≤ cap) (h4 : cap ≤ maxLen) (h5 : p = none → cap = 0) (h6 : ∀ n ∈ zs, 0 ≤ n ∧ n ≤ 255) :
    Calls Try.prog 3 #[.slice p n cap] w fun e w' => e = .returned (.bool true) ∧ Below w.heap.size w w' :=
  jnone_any disksFew journalOK journalsNone zs n p cap w h1 ⟨h6, h2, by omega, by unfold maxLen at h4; omega, h5⟩
theorem journalKnown_law (w : World) : Calls Try.prog 4 #[] w fun e w' => e = .returned (.bool true) ∧ Below w.heap.size w w' := known_any disksFew journalOK w
theorem journalCrash_law (l : List (List Int)) (n : Nat) (p : Option Addr) (c : Nat) (x y : Int) (w : World) (h : Recs w p n c l) (hx : -9223372036854775808 ≤ x ∧ x ≤ 9223372036854775807) (hy : -9223372036854775808 ≤ y ∧ y ≤ 9223372036854775807) :
    Calls Try.prog 5 #[.slice p n c, .int .i64 x, .int .i64 y] w fun e w' => e = .returned (.bool true) ∧ Below w.heap.size w w' := crash_any disksFew journalOK l n p c x y w h hx hy
theorem journalRewrites_law (l : List (List Int)) (n : Nat) (p : Option Addr) (c : Nat) (o : List (List Int)) (no : Nat) (po : Option Addr) (co : Nat) (x y z : Int) (w : World) (h : Recs w p n c l) (ho : Recs w po no co o)
    (hx : -9223372036854775808 ≤ x ∧ x ≤ 9223372036854775807) (hy : -9223372036854775808 ≤ y ∧ y ≤ 9223372036854775807) (hz : -9223372036854775808 ≤ z ∧ z ≤ 9223372036854775807) :
    Calls Try.prog 6 #[.slice p n c, .slice po no co, .int .i64 x, .int .i64 y, .int .i64 z] w fun e w' => e = .returned (.bool true) ∧ Below w.heap.size w w' := rewrites_any disksFew journalOK l n p c o no po co x y z w h ho hx hy hz
end
end Go.Proofs.Ythopfpfmliookaa
