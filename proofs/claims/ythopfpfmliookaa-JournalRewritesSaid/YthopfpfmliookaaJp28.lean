/-
  What the program's journals are asked to do, they do.
  The law JournalKnown.
  The law package's laid: records laid over a new disk, so many firm.
-/
import Derived.Test.YthopfpfmliookaaJp27
import Derived.Test.YthopfpfmliookaaJp10
import Derived.Deep.OwnRows
namespace Go.Proofs.Ythopfpfmliookaa
section
set_option linter.unusedSimpArgs false
set_option linter.unusedVariables false
open Go.RowKit Go.Shelf Sha Dsk Jrn
theorem pjrewrite_any (bd : Nat) (fd : List Nat) (s : DState) (bj : Nat) (fj : List Nat) (L l : Rs) (p : Option Addr) (n c : Nat) (bs : List Nat) (w : World) (hd : ProgDisk w bd fd s) (h : ProgJournal w bj fj (L, bd)) (hap : Apart fd fj) (hs : s.steps ≤ 1000000)
    (hr : RecsIn w p n c l bs) (hbs : Apart bs (fd ++ fj)) (hn : n ≤ 1000) (hx : ∀ x ∈ l, x.length ≤ 100000) :
    Calls Try.prog 10 #[optr bj, .slice p n c] w (JDone ProgDisk ProgJournal bd fd bj fj (jrwS s l) (jrwL L s l) (i64v (jrwE s l)) w) := by
  obtain ⟨v, ys, rfl, e, hp⟩ := h
  change L = _ at e
  change PJ w bj bd v ys at hp
  refine (pjrew_any bd fd s bj v ys l p n c bs w hd hp hap hs hr (fun k h1 h2 => hbs k h1 ?_) (by omega) (fun x h => by have := hx x h; omega) (fun h => ?_)).mono ?_
  · rcases List.mem_cons.1 h2 with h3 | h3
    · exact List.mem_append_right _ (fpJ_mem.2 (.inl h3))
    · exact List.mem_append_left _ h3
  · have h1 := frs_most l (Frm.joinE_ok h)
    have h2 := hr.len
    omega
  · rintro e' w' ⟨rfl, fd', v', ys', h1, h2, h3, h4, h5, h6, h7⟩
    refine ⟨rfl, fd', fpJ bj v' ys', h1, ⟨v', ys', rfl, ?_, h2⟩, h4, touch_more h5 fun k hk => ?_, fun k hk => ?_⟩
    · show jrwL L s l = _
      rw [h3]
      unfold jrwL
      rw [e]
    · rcases List.mem_cons.1 hk with rfl | hk
      · exact List.mem_append_right _ (fpJ_mem.2 (.inl rfl))
      · exact List.mem_append_left _ hk
    · rcases List.mem_append.1 hk with hk | hk
      · exact (h6 k hk).imp (List.mem_append_left _) id
      · exact (h7 k hk).imp (List.mem_append_right _) id
theorem journalOK : JournalOK ProgDisk ProgJournal where
  held := progHeldJ
  open_ := fun bd fd s w hd hs _ => pjopen_any bd fd s w hd hs
  open0 := fun w => zjopen_any none w (fun a ha => by cases ha)
  append := fun bd fd s bj fj L zs n p cap w hd h hap ht hs hn hm hz hza => pjappend_any bd fd s bj fj L zs n p cap w hd h hap ht hs hn hm hz hza
  sync := fun bd fd s bj fj L w hd h hap _ hs => pjsync_any bd fd s bj fj L w hd h hap hs
  rewrite := fun bd fd s bj fj L l p n c bs w hd h hap _ hs hr hbs hn hx => pjrewrite_any bd fd s bj fj L l p n c bs w hd h hap hs hr hbs hn hx
  all := fun bd bj fj L w h hs _ => pall_any bd bj fj L w h hs
  len := fun bd bj fj L w h hs _ => plen_any bd bj fj L w h hs
  firm := fun bd fd s bj fj L w hd h _ ht => pjfirm_any bd fd s bj fj L w hd h ht
end
section
set_option linter.unusedSimpArgs false
set_option linter.unusedVariables false
open Go.RowKit Sha Dsk Jrn
section
variable {RD : DiskRep} {RJ : JRep} {w0 w w' : World} {bd bj : Nat} {fd fj : List Nat} {s s' : DState} {L L' : Rs}
/-- Any append of bytes that lie in a new block, or of none. -/
theorem jappend_to (F : JournalOK RD RJ) (h : Duo RD RJ w0 w bd fd s bj fj L) (ht : Tied L s) (hk : s.steps ≤ 1000) (zs : List Int) (n : Nat) (p : Option Addr) (cap : Nat) (hn : zs.length = n) (hm : n ≤ 1000) (hg : GoodC w zs p cap) (ha : ApartC zs p (fd ++ fj)) (z : Int)
    (h1 : japS s zs = s') (h2 : japL L s zs = L') (h3 : japE s zs = z) :
    Calls Try.prog 8 #[optr bj, .slice p n cap] w (UDone RD RJ w0 bd bj s' L' (i64v z)) := by
  have h4 := F.append bd fd s bj fj L zs n p cap w h.one h.two h.apart ht (by omega) hn (by omega) hg ha
  rw [h1, h2, h3] at h4
  exact h.did h4
theorem jappend_lit2 (D : DisksFew RD) (F : JournalOK RD RJ) (h : Duo RD RJ w0 w bd fd s bj fj L) (ht : Tied L s) (hk : s.steps ≤ 1000) (zs : List Int) (cs : Array Value) (fr : Nat × Nat) (n : Nat) (hc : cs = (zs.map v8).toArray) (hn : zs.length = n) (hs : n ≤ 1000) (hb : ∀ x ∈ zs, IsByte x) (z : Int)
    (h1 : japS s zs = s') (h2 : japL L s zs = L') (h3 : japE s zs = z) :
    Calls Try.prog 8 #[optr bj, .slice (some ⟨w.heap.size, 0, none⟩) n n] (w.alloc (.cells cs 5 fr)) (UDone RD RJ w0 bd bj s' L' (i64v z)) := by
  have h' := h.on D.held F.held ((Below.refl w.heap.size w).alloc (Nat.le_refl _) (.cells cs 5 fr))
  refine jappend_to F h' ht hk zs n _ n hn hs (lit_good w zs cs fr n hc hn hs hb) (fun _ a ha hm => ?_) z h1 h2 h3
  cases ha
  rcases List.mem_append.1 hm with hm | hm
  · exact Nat.lt_irrefl _ (D.held.low h.one _ hm)
  · exact Nat.lt_irrefl _ (F.held.low h.two _ hm)
theorem jrewrite_of (F : JournalOK RD RJ) {m room k : Nat} (h : Duo RD RJ w0 w bd fd (mk L m room k) bj fj L) (hL : Rec2 L) (l : Rs) (p : Option Addr) (n c : Nat) (bs : List Nat) (hi : RecsIn w p n c l bs) (ha : Apart bs (fd ++ fj)) (hn : n ≤ 1000) (hl : Rec2 l) (hk : k ≤ 1000) (hr : (Frm.frs L).length + (Frm.frs l).length ≤ room) :
    Calls Try.prog 10 #[optr bj, .slice p n c] w (UDone RD RJ w0 bd bj (mk l l.length room (k + 2)) l (i64v 0)) := by
  have h1 := F.rewrite bd fd (mk L m room k) bj fj L l p n c bs w h.one h.two h.apart (mk_tied hL m room k) (by show k ≤ _; omega) hi ha hn (fun x hx => by have := (hl x hx).1.most; omega)
  obtain ⟨e1, e2, e3⟩ := mk_rewrite (L := L) hl m room k hr
  rw [e1, e2, e3] at h1
  exact h.did h1
theorem dfuse_of (D : DisksFew RD) (h : Duo RD RJ w0 w bd fd s bj fj L) (K : Held RJ) (z : Int) (hz : fit64 z) (h1 : fuseS s z = s') (h2 : fuseE z = 0) :
    Calls Try.prog 18 #[optr bd, i64v z] w (fun e w' => e = .returned (i64v 0) ∧ ∃ fd', Duo RD RJ w0 w' bd fd' s' bj fj L) := by
  have h3 := D.fuse bd fd s z w h.one hz
  rw [h1, h2] at h3
  refine h3.mono ?_
  rintro e w' ⟨rfl, fd', hd, ht, hf⟩
  exact ⟨rfl, fd', h.step1 K hd ht hf⟩
end
theorem nums_xyz : [(⟨#[120]⟩ : ByteArray), ⟨#[121, 122]⟩].map nums = [[120], [121, 122]] := by decide +kernel
theorem frs_xyz : (Frm.frs ([[120], [121, 122]] : Rs)).length = 19 := by simp [Frm.frs_cons, Frm.frs_nil, Frm.fr_length]
theorem rec2_xyz : Rec2 ([[120], [121, 122]] : Rs) := fun x hx => by
  simp only [List.mem_cons, List.not_mem_nil, or_false] at hx
  rcases hx with rfl | rfl
  · exact rec_lit (by simp) (by simp) (by simp)
  · exact rec_lit (by simp) (by simp) (by simp)
/-- The chapter's disk, rewritten. -/
def xyz : Rs := [[120], [121, 122]]
def knownS : DState := mk xyz 2 100 2
theorem known_none : japE knownS [] = 2 ∧ japS knownS [] = knownS ∧ japL xyz knownS [] = xyz := by
  have h : Frm.bad [] = 2 := rfl
  refine ⟨by unfold japE; rw [if_neg (by rw [h]; decide), h], by unfold japS; rw [if_neg (by rw [h]; decide)], ?_⟩
  unfold japL
  rw [if_neg]
  unfold japE; rw [if_neg (by rw [h]; decide), h]; decide
theorem bad_zeros : Frm.bad (List.replicate 80 0) = 0 := by decide
theorem known_full : japE knownS (List.replicate 80 0) = 8 ∧ japS knownS (List.replicate 80 0) = knownS ∧ japL xyz knownS (List.replicate 80 0) = xyz := by
  have hf : Dsk.bad knownS 88 = 8 := bad_full rfl (by show (100 : Nat) < (Frm.frs ([[120], [121, 122]] : Rs)).length + 0 + 88; rw [frs_xyz]; omega)
  have he : japE knownS (List.replicate 80 0) = 8 := by
    unfold japE
    rw [if_pos bad_zeros]
    show appE knownS 88 = 8
    unfold appE
    rw [if_neg (by rw [hf]; decide), hf]
  have hfl : (Frm.fr (List.replicate 80 0)).length = 88 := by rw [Frm.fr_length]; simp
  refine ⟨he, ?_, by unfold japL; rw [if_neg (by rw [he]; decide)]⟩
  unfold japS
  rw [if_pos bad_zeros]
  exact (app_out (by rw [hfl, hf]; decide)).2.1
def fusedS : DState := { knownS with left := 0 }
def burntS : DState := { Dsk.step fusedS with log := Frm.frs xyz ++ Frm.fr [113] }
theorem rec_q : Frm.Rec [113] := ⟨by simp, by simp⟩
theorem burnt_q : japE fusedS [113] = 11 ∧ japS fusedS [113] = burntS ∧ japL xyz fusedS [113] = xyz := by
  have hz : Dsk.bad fusedS (Frm.fr [113]).length = 0 := bad_zero.2 ⟨rfl, by
    rw [Frm.fr_length]
    show (Frm.frs ([[120], [121, 122]] : Rs)).length + 0 + (8 + 1) ≤ 100
    rw [frs_xyz]; omega⟩
  have he : japE fusedS [113] = 11 := by
    unfold japE
    rw [if_pos rec_q.bad]
    have h1 := (app_in hz).1
    rw [Frm.fr_length] at h1
    rw [h1]; rfl
  refine ⟨he, ?_, by unfold japL; rw [if_neg (by rw [he]; decide)]⟩
  unfold japS
  rw [if_pos rec_q.bad, (app_in hz).2.1]
  rfl
theorem burnt_q2 : japE burntS [113] = 11 ∧ japS burntS [113] = burntS ∧ japL xyz burntS [113] = xyz := by
  have ho : burntS.out = true := rfl
  have hb : ∀ n, Dsk.bad burntS n = 11 := fun n => bad_out ho
  have he : japE burntS [113] = 11 := by
    unfold japE
    rw [if_pos rec_q.bad]
    unfold appE
    rw [if_neg (by rw [hb]; decide), hb]
  refine ⟨he, ?_, by unfold japL; rw [if_neg (by rw [he]; decide)]⟩
  unfold japS
  rw [if_pos rec_q.bad]
  exact (app_out (by rw [hb]; decide)).2.1
theorem tied_fused : Tied xyz fusedS := ⟨rec2_xyz, ⟨[], by simp [fusedS, knownS, mk], fun _ => rfl⟩, fun _ => rfl⟩
theorem tied_burnt : Tied xyz burntS := ⟨rec2_xyz, ⟨Frm.fr [113], rfl, fun h => by cases h⟩, fun h => by cases h⟩
set_option maxRecDepth 100000 in
set_option maxHeartbeats 4000000 in
theorem known_any {RD : DiskRep} {RJ : JRep} (D : DisksFew RD) (F : JournalOK RD RJ) (w : World) : Calls Try.prog 4 #[] w (SaysB (.bool true) w) := by
  have cv := fun w C n c => Go.Lib.run_convert_bytes_const (P := Try.prog) w 22 5 C n c Try.underlying22 Try.underlying5
  have hmk := run_make_row' (P := Try.prog) 22 5 (.int .u8 0) 1 Try.underlying22 kbyte_info rfl .i64 .i64 80 (by omega) (by omega)
  rw [show (((80 : Nat) : Int)) = 80 from rfl] at hmk
  go_enter Try.func4, Try.ntmps4
  go_wp2_with fail
  refine (opens_any D F 100 100 w rfl (by omega)).mono ?_
  rintro e w1 ⟨bd, fd, bj, fj, rfl, hP⟩
  have P1 := Lib.hid hP
  clear hP
  go_wp2_with fail
  refine (texts_lit w1 [⟨#[120]⟩, ⟨#[121, 122]⟩] _ 2 xyz rfl rfl (by omega) (by intro s hs; simp at hs; rcases hs with rfl | rfl <;> decide) nums_xyz).mono ?_
  rintro e w2 ⟨p2, c2, bs2, rfl, hr, hn, hb⟩
  have P2 := Lib.hid (P1.out.on D.held F.held hb)
  have R2 := Lib.hid hr
  have N2 := Lib.hid hn
  have L2 := Lib.hid (show ∀ k ∈ fd ++ fj, k < w1.heap.size from fun k hk => by
    rcases List.mem_append.1 hk with hk | hk
    · exact D.held.low P1.out.one k hk
    · exact F.held.low P1.out.two k hk)
  clear hr hn hb P1
  go_wp2_with fail
  refine (jrewrite_of F P2.out (fun x hx => by simp at hx) xyz p2 _ c2 bs2 R2.out (fun k h1 h2 => by have := N2.out k h1; have := L2.out k h2; omega) (by simp [xyz]) rec2_xyz (by omega) (by show 0 + (Frm.frs ([[120], [121, 122]] : Rs)).length ≤ 100; rw [frs_xyz]; omega)).mono ?_
  rintro e w3 ⟨rfl, fd3, fj3, hP⟩
  have P3 : Hid (Duo RD RJ w w3 bd fd3 knownS bj fj3 xyz) := Lib.hid hP
  clear hP P2 R2 N2 L2
  go_wp2_with fail
  refine (jall_of D F P3.out rec2_xyz (by show (Frm.frs ([[120], [121, 122]] : Rs)).length ≤ _; rw [frs_xyz]; omega)).mono ?_
  rintro e w4 ⟨p4, c4, bs4, rfl, hr, hn, hb, hP⟩
  have P4 := Lib.hid hP
  have R4 := Lib.hid hr
  clear hP hr hn hb P3
  go_wp2_with fail
  refine (texts_lit w4 [⟨#[120]⟩, ⟨#[121, 122]⟩] _ 2 xyz rfl rfl (by omega) (by intro s hs; simp at hs; rcases hs with rfl | rfl <;> decide) nums_xyz).mono ?_
  rintro e w5 ⟨p5, c5, bs5, rfl, hr, hn, hb⟩
  have P5 := Lib.hid (P4.out.on D.held F.held hb)
  have A5 := Lib.hid (R4.out.on hb).plain
  have R5 := Lib.hid hr.plain
  clear hr hn hb P4 R4
  go_wp2_with fail
  refine (recsSame_any _ _ _ _ _ _ _ _ w5 A5.out R5.out).mono ?_
  rintro e w6 ⟨rfl, hb⟩
  have P6 := Lib.hid (P5.out.on D.held F.held hb)
  have HT := Lib.hid (show decide (xyz = xyz) = true from decide_eq_true rfl)
  rw [HT.out]
  clear hb P5 A5 R5
  go_wp2_with fail
  refine (jfirm_of D F P6.out rec2_xyz (by simp [xyz])).mono ?_
  rintro e w7 ⟨rfl, hP⟩
  have P7 : Hid (Duo RD RJ w w7 bd fd3 knownS bj fj3 xyz) := Lib.hid hP
  clear hP P6
  go_wp2_with fail
  refine (jappend_to F P7.out (mk_tied rec2_xyz 2 100 2) (by simp [knownS, mk]) [] 0 none 0 rfl (by omega) ⟨by simp, At.nil _ _, by simp, by omega, fun _ => rfl⟩ (fun h => absurd rfl h) 2 known_none.2.1 known_none.2.2 known_none.1).mono ?_
  rintro e w8 ⟨rfl, fd8, fj8, hP⟩
  have P8 := Lib.hid hP
  clear hP P7
  go_wp2_with fail
  refine (jappend_lit2 D F P8.out (mk_tied rec2_xyz 2 100 2) (by simp [knownS, mk]) (List.replicate 80 0) _ _ 80 (by kernel_rfl) (by simp) (by omega) (by intro x hx; rw [(List.mem_replicate.1 hx).2]; exact ⟨by omega, by omega⟩) 8 known_full.2.1 known_full.2.2 known_full.1).mono ?_
  rintro e w9 ⟨rfl, fd9, fj9, hP⟩
  have P9 := Lib.hid hP
  clear hP P8 hmk
  go_wp2_with fail
  refine (dfuse_of D P9.out F.held 0 ⟨by omega, by omega⟩ (s' := fusedS) rfl rfl).mono ?_
  rintro e w10 ⟨rfl, fd10, hP⟩
  have P10 := Lib.hid hP
  clear hP P9
  go_wp2_with fail
  refine (jappend_lit2 D F P10.out tied_fused (by simp [fusedS, knownS, mk]) [113] _ _ 1 rfl rfl (by omega) (by intro x hx; simp at hx; exact ⟨by omega, by omega⟩) 11 burnt_q.2.1 burnt_q.2.2 burnt_q.1).mono ?_
  rintro e w11 ⟨rfl, fd11, fj11, hP⟩
  have P11 := Lib.hid hP
  clear hP P10
  go_wp2_with fail
  refine (jappend_lit2 D F P11.out tied_burnt (by simp [burntS, Dsk.step, fusedS, knownS, mk]) [113] _ _ 1 rfl rfl (by omega) (by intro x hx; simp at hx; exact ⟨by omega, by omega⟩) 11 burnt_q2.2.1 burnt_q2.2.2 burnt_q2.1).mono ?_
  rintro e w12 ⟨rfl, fd12, fj12, hP⟩
  have P12 := Lib.hid hP
  clear hP P11
  go_wp2_with fail
  refine (F.open_ bd fd12 burntS w12 P12.out.one (by simp [burntS, Dsk.step, fusedS, knownS, mk]) (fun h => by cases h)).mono ?_
  rintro e w13 (⟨h0, _⟩ | ⟨_, fd13, rfl, hd, ht, hf⟩)
  · exact absurd h0 (by show ¬ (11 : Int) = 0; decide)
  have B13 := Lib.hid (P12.out.below.trans (ht.below P12.out.new1 P12.out.below.size))
  rw [show opE burntS = 11 from rfl]
  clear hd ht hf P12
  go_wp2_with fail
  refine (F.open0 w13).mono ?_
  rintro e w14 ⟨rfl, hb⟩
  have B14 := Lib.hid (B13.out.trans (hb.mono B13.out.size))
  clear hb
  go_wp2_with fail
  refine (awake_any D F w14).mono ?_
  rintro e w15 ⟨rfl, hb⟩
  have B15 := Lib.hid (B14.out.trans (hb.mono B14.out.size))
  clear hb
  go_wp2_with fail
  go_ret
  exact ⟨rfl, B15.out⟩
end
section
set_option linter.unusedSimpArgs false
set_option linter.unusedVariables false
open Go.RowKit Sha Dsk Jrn
/-- How many are firm when k are laid. -/
def firmAt (m k : Nat) : Nat := if k ≤ m then 0 else m
theorem Fine.rec2 {l : Rs} (h : Fine l) (hb : ∀ x ∈ l, ∀ n ∈ x, 0 ≤ n ∧ n ≤ 255) : Rec2 l := fun x hx => by
  have := h.recs x hx
  exact ⟨⟨by omega, by omega⟩, hb x hx⟩
theorem Fine.size {l : Rs} (h : Fine l) (hb : Rec2 l) (k : Nat) : (Frm.frs (l.take k)).length ≤ 80160 := by
  have h1 := frs_most l hb.rec
  have h2 := frs_part l k
  have h3 := h.most
  omega
def LaidDone (RD : DiskRep) (RJ : JRep) (l : Rs) (m : Nat) (w : World) (e : Ending) (w' : World) : Prop :=
  ∃ bd fd bj fj k, e = .returned (.tuple #[optr bd, optr bj]) ∧ k ≤ 50 ∧ Duo RD RJ w w' bd fd (mk l m 1000000 k) bj fj l
set_option maxRecDepth 100000 in
set_option maxHeartbeats 2000000 in
theorem laid_any {RD : DiskRep} {RJ : JRep} (D : DisksFew RD) (F : JournalOK RD RJ) (l : Rs) (p : Option Addr) (n c : Nat) (bs : List Nat) (m : Nat) (w : World) (hl : Fine l) (h : RecsIn w p n c l bs) (hm : m ≤ n) :
    Calls Try.prog 21 #[.slice p n c, .int .i64 m] w (LaidDone RD RJ l m w) := by
  have hb2 : Rec2 l := hl.rec2 (fun x hx => h.plain.bytes x hx)
  have HI := Lib.hid h
  have HR := Lib.hid hb2
  have HF := Lib.hid hl
  have hn20 : n ≤ 20 := by rw [h.len]; exact hl.most
  have HL := Lib.hid h.len
  have m1 := h.max
  have c1 := h.le
  clear h hl hb2
  go_enter Try.func21, Try.ntmps21
  go_wp2_with fail
  refine (opens_any D F 1000000 1000000 w rfl (by omega)).mono ?_
  rintro e w1 ⟨bd, fd, bj, fj, rfl, hP⟩
  have P1 := Lib.hid hP
  clear hP
  go_wp2_with fail
  go_loopw [8] (fun i wr => ∃ (k j : Nat) (fd fj : List Nat), i = .int .i64 k ∧ k ≤ n ∧ j ≤ 2 * k ∧ Hid (Duo RD RJ w wr bd fd (mk (l.take k) (firmAt m k) 1000000 j) bj fj (l.take k))) (fun i _ => n - (intOf i).toNat)
  case atStart => exact ⟨0, 0, fd, fj, rfl, by omega, by omega, Lib.hid (by rw [List.take_zero]; exact P1.out)⟩
  case round =>
    clear P1
    obtain ⟨k, j, fd, fj, rfl, hk, hj, P⟩ := hrel
    by_cases hlt : k < n
    · have hkl : k < l.length := by rw [← HL.out]; exact hlt
      have hfk : firmAt m k ≤ k := by unfold firmAt; split <;> omega
      obtain ⟨x, hx⟩ : ∃ x, x = l[k] := ⟨_, rfl⟩
      have HTK := Lib.hid (show l.take (k + 1) = l.take k ++ [x] by rw [hx, List.take_succ_eq_append_getElem hkl])
      have HXR := Lib.hid (show Frm.Rec x by rw [hx]; exact HR.out.rec _ (List.getElem_mem hkl))
      have HSZ := Lib.hid (show (Frm.frs (l.take k)).length + (8 + x.length) ≤ 1000000 by
        have h1 := HF.out.size HR.out k
        have h2 := HXR.out.most
        omega)
      have HTL := Lib.hid (show (l.take k).length = k by rw [List.length_take]; omega)
      have HTR := Lib.hid (HR.out.take k)
      by_cases hkm : k = m
      · have HFM := Lib.hid (show firmAt m (k + 1) = k by unfold firmAt; rw [if_neg (by omega)]; exact hkm.symm)
        obtain ⟨b0, off0, q0, d0, hp0, -⟩ := (HI.out.on P.out.below).get k hkl
        subst hp0
        have hkm' : ((k : Int) == (m : Int)) = true := by rw [beq_iff_eq]; omega
        have HX := Lib.hid hx
        clear hx hkm
        go_wp2_with fail
        refine (jsync_of F P.out HTR.out (by omega)).mono ?_
        rintro e w2 ⟨rfl, fd2, fj2, hP⟩
        rw [HTL.out] at hP
        have P2 := Lib.hid hP
        clear hP P
        obtain ⟨b, off, q, d, hpp, a1, g1, hbl⟩ := (HI.out.on P2.out.below).get k hkl
        cases hpp
        rw [← HX.out] at a1 g1 hbl
        have G1 := Lib.hid g1
        have AP := Lib.hid (P2.out.apartC (zs := x) (p := q) (fun hz a ha => HI.out.low _ (hbl hz a ha)))
        obtain ⟨xl, hxl⟩ : ∃ xl, xl = x.length := ⟨_, rfl⟩
        rw [← hxl] at a1
        have HXL := Lib.hid hxl
        clear g1 hbl hxl HX
        clear hkl
        go_wp2_with fail
        refine (jappend_of F P2.out HTR.out x xl q d HXL.out.symm G1.out AP.out HXR.out (by rw [HTL.out]; exact Nat.le_refl _) HSZ.out (by omega)).mono ?_
        rintro e w3 ⟨rfl, fd3, fj3, hP⟩
        rw [← HTK.out] at hP
        have P3 := Lib.hid hP
        clear hP P2
        go_wp2_with fail
        go_roundw
        case rel => exact ⟨k + 1, j + 1 + 1, fd3, fj3, by go_num, by omega, by omega, Lib.hid (by rw [HFM.out]; exact P3.out)⟩
        case measure => simp [intOf]; omega
      · have HFM := Lib.hid (show firmAt m (k + 1) = firmAt m k by unfold firmAt; split <;> split <;> omega)
        obtain ⟨b, off, q, d, rfl, a1, g1, hbl⟩ := (HI.out.on P.out.below).get k hkl
        rw [← hx] at a1 g1 hbl
        have G1 := Lib.hid g1
        have AP := Lib.hid (P.out.apartC (zs := x) (p := q) (fun hz a ha => HI.out.low _ (hbl hz a ha)))
        obtain ⟨xl, hxl⟩ : ∃ xl, xl = x.length := ⟨_, rfl⟩
        rw [← hxl] at a1
        have HXL := Lib.hid hxl
        have hkm' : ((k : Int) == (m : Int)) = false := by rw [beq_eq_false_iff_ne]; omega
        clear g1 hbl hkl hxl hx hkm
        go_wp2_with fail
        refine (jappend_of F P.out HTR.out x xl q d HXL.out.symm G1.out AP.out HXR.out (by rw [HTL.out]; exact hfk) HSZ.out (by omega)).mono ?_
        rintro e w3 ⟨rfl, fd3, fj3, hP⟩
        rw [← HTK.out] at hP
        have P3 := Lib.hid hP
        clear hP P
        go_wp2_with fail
        go_roundw
        case rel => exact ⟨k + 1, j + 1, fd3, fj3, by go_num, by omega, by omega, Lib.hid (by rw [HFM.out]; exact P3.out)⟩
        case measure => simp [intOf]; omega
    · obtain rfl : k = n := by omega
      have HTA := Lib.hid (show l.take k = l from List.take_of_length_le (by rw [HL.out]; exact Nat.le_refl _))
      rw [HTA.out] at P
      by_cases hkm : m = k
      · have hkm' : ((m : Int) == (k : Int)) = true := by rw [beq_iff_eq]; omega
        have HM := Lib.hid hkm
        clear hkm
        go_wp2_with fail
        refine (jsync_of F P.out HR.out (by omega)).mono ?_
        rintro e w2 ⟨rfl, fd2, fj2, hP⟩
        rw [← HL.out, ← HM.out] at hP
        have P2 := Lib.hid hP
        clear hP P
        go_wp2_with fail
        go_ret2
        exact ⟨bd, fd2, bj, fj2, j + 1, rfl, by omega, P2.out⟩
      · have hkm' : ((m : Int) == (k : Int)) = false := by rw [beq_eq_false_iff_ne]; omega
        have HFM := Lib.hid (show firmAt m k = m by unfold firmAt; rw [if_neg (by omega)])
        rw [HFM.out] at P
        go_wp2_with fail
        go_ret2
        exact ⟨bd, fd, bj, fj, j, rfl, by omega, P.out⟩
end
end Go.Proofs.Ythopfpfmliookaa
