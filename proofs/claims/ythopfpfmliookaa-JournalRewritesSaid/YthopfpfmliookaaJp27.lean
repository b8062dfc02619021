/-
  The program's journals: Open.
  The program's journals: what journals that nobody made are asked to do, and a disk that nobody made when it is opened.
-/
import Derived.Test.YthopfpfmliookaaJp26
namespace Go.Proofs.Ythopfpfmliookaa
section
set_option linter.unusedSimpArgs false
set_option linter.unusedVariables false
open Go.RowKit Go.Shelf Sha Dsk Jrn
/-- A journal just made, over records of the call's own. -/
theorem PJ.fresh {w : World} {B bd : Nat} {v : Value} {ys : List SHdr} (h : OwnS B w v ys) :
    PJ (w.alloc (.cells #[optr w.heap.size, optr bd, v] 28)) w.heap.size bd v ys ∧ Below w.heap.size w (w.alloc (.cells #[optr w.heap.size, optr bd, v] 28)) := by
  have hb := (Below.refl w.heap.size w).alloc (Nat.le_refl _) (.cells #[optr w.heap.size, optr bd, v] 28)
  exact ⟨⟨Blk.new w #[optr w.heap.size, optr bd, v] 28, (h.weak (Nat.zero_le _)).on hb⟩, hb⟩
theorem split_small {bs : List Int} (hb : Frm.Bytes bs) : (∀ x ∈ (Frm.split bs).1, Frm.Rec x) ∧ (Frm.frs (Frm.split bs).1).length ≤ bs.length ∧ (Frm.split bs).2 ≤ bs.length := by
  obtain ⟨h1, h2, h3⟩ := Frm.split_sound bs.length bs (Nat.le_refl _) hb
  exact ⟨fun x hx => (h1 x hx).1, by rw [h3, List.length_take]; omega, h2⟩
set_option maxRecDepth 100000 in
set_option maxHeartbeats 2000000 in
theorem pjopen_any (bd : Nat) (fd : List Nat) (s : DState) (w : World) (hd : ProgDisk w bd fd s) (hs : s.steps ≤ 1000000) :
    Calls Try.prog 14 #[optr bd] w (JOpenDone ProgDisk ProgJournal bd fd s w) := by
  have hok : Ok s := by obtain ⟨_, _, _, h⟩ := hd; exact h.ok
  have hlow := progHeldD.low hd
  have hrd := pread_any bd fd s w hd
  unfold DReadDone at hrd
  by_cases ho : s.out = true
  · rw [show readE s = 11 from if_pos ho] at hrd
    have HRD := Lib.hid hrd
    have HO := Lib.hid ho
    clear hrd hok hd hlow hs ho
    go_enter Try.func14, Try.ntmps14
    go_wp2_with fail
    refine HRD.out.mono ?_
    rintro e w1 ⟨v, fd1, rfl, hO, hR, hT, hF, _⟩
    obtain ⟨q, cap, rfl, _, _, _, _, _⟩ := own_at hO.row
    have HR := Lib.hid hR
    have HT := Lib.hid hT
    have HF := Lib.hid hF
    clear hO hR hT hF HRD
    generalize (readV s).length = m
    go_wp2_with fail
    go_ret2
    refine .inr ⟨?_, fd1, ?_, ?_, HT.out, HF.out⟩
    · unfold opE; rw [if_pos HO.out]; decide
    · unfold opE; rw [if_pos HO.out]; rfl
    · unfold opS; rw [if_pos HO.out]; exact HR.out
  rw [show readE s = 0 from if_neg ho, show readV s = s.log from if_neg ho] at hrd
  have HRD := Lib.hid hrd
  have HLOW := Lib.hid hlow
  have HLB := Lib.hid hok.log
  have hsm : s.log.length ≤ 1000000 := by have := hok.small; omega
  obtain ⟨hsp1, hsp2, hsp3⟩ := split_small hok.log
  have HSP := Lib.hid hsp1
  have HSP2 := Lib.hid hsp2
  have HO := Lib.hid ho
  have HS := Lib.hid hs
  obtain ⟨n, hn⟩ : ∃ n, n = s.log.length := ⟨_, rfl⟩
  obtain ⟨m, hm⟩ : ∃ m, m = (Frm.split s.log).2 := ⟨_, rfl⟩
  rw [← hn] at hsm hsp3
  rw [← hm] at hsp3
  have HN := Lib.hid hn
  have HM := Lib.hid hm
  clear hrd hok hd hlow hs ho hsp1 hsp2 hn hm
  go_enter Try.func14, Try.ntmps14
  go_wp2_with fail
  refine HRD.out.mono ?_
  rintro e w1 ⟨v, fd1, rfl, hO, hR, hT, hF, _⟩
  obtain ⟨q, cap, rfl, h1, h2, hA, _, hnil⟩ := own_at hO.row
  rw [← HN.out] at h1 ⊢
  have HSPL := Lib.hid (fsplit_any s.log n q cap w1 HN.out.symm ⟨HLB.out, hA, by rw [← HN.out]; exact h1, by unfold maxLen at h2; omega, hnil⟩ (by omega))
  unfold SpDone8 at HSPL
  rw [← HM.out] at HSPL
  have HR := Lib.hid hR
  have HT := Lib.hid hT
  have HF := Lib.hid hF
  clear hO hR hT hF HRD h1 h2 hA hnil
  go_wp2_with fail
  refine HSPL.out.mono ?_
  rintro e w2 ⟨v2, ys, rfl, hys, hown, _, hb2⟩
  obtain ⟨hpj, hbj⟩ := PJ.fresh (bd := bd) hown
  obtain ⟨q2, c2, rfl, hrec⟩ := hown.told
  have B2 := Lib.hid hb2
  have HYS := Lib.hid hys
  have HOW := Lib.hid hown
  have HPJ := Lib.hid hpj
  have HBJ := Lib.hid hbj
  clear hb2 hys hown hpj hbj hrec HSPL
  obtain ⟨k, hk⟩ : ∃ k, k = ys.length := ⟨_, rfl⟩
  rw [← hk] at HPJ HBJ ⊢
  have HK := Lib.hid hk
  clear hk
  have hnew : Hid (∀ i ∈ fpJ w2.heap.size (.slice q2 k c2) ys, w1.heap.size ≤ i) := Lib.hid (by
    intro i hi
    have hs2 := B2.out.size
    rcases fpJ_mem.1 hi with rfl | hi | ⟨y, hy, hi⟩
    · exact hs2
    · rw [HK.out] at hi; exact (HOW.out.own.lt i hi).1
    · exact ((HOW.out.good y hy).own.lt i hi).1)
  by_cases hmn : m = n
  · subst hmn
    have hq : ((m : Int) == (m : Int)) = true := beq_self_eq_true _
    go_wp2_with fail
    go_ret2
    have hopE : opE s = 0 := by unfold opE; rw [if_neg HO.out, if_pos (HM.out.symm.trans HN.out)]
    have hopS : opS s = s := by unfold opS; rw [if_neg HO.out, if_pos (HM.out.symm.trans HN.out)]
    have hb3 := B2.out.trans (HBJ.out.mono B2.out.size)
    refine .inl ⟨hopE, w2.heap.size, _, fd1, rfl, by rw [hopS]; exact progHeldD.on HR.out hb3, ⟨_, ys, rfl, HYS.out.symm, HPJ.out⟩, fun i h1 h2 => ?_, fun i hi => ?_, HT.out.trans (Touch.of_below hb3) (From.refl _ _), HF.out⟩
    · have h3 := progHeldD.low HR.out i h1
      have h4 := hnew.out i h2
      omega
    · have h4 := hnew.out i hi
      have h5 := HT.out.size
      omega
  · have hq : ((m : Int) == (n : Int)) = false := by rw [beq_eq_false_iff_ne]; omega
    have HMN := Lib.hid hmn
    obtain ⟨w3, hw3⟩ : ∃ x, x = w2.alloc (.cells #[optr w2.heap.size, optr bd, .slice q2 k c2] 28) := ⟨_, rfl⟩
    have HW3 := Lib.hid hw3
    rw [← hw3] at HPJ HBJ
    obtain ⟨q3, n3, c3, bs, hv3, hri, hbs, _⟩ := HOW.out.recsIn
    cases hv3
    have hb3 := B2.out.trans (HBJ.out.mono B2.out.size)
    rw [HYS.out] at hri
    have hk1 : k ≤ 1000000 := by
      have h1 := frs_count (Frm.split s.log).1
      rw [← HYS.out, List.length_map] at h1
      have h2 := HSP2.out
      rw [← HYS.out] at h2
      have h3 := HN.out
      have h4 := HK.out
      omega
    have HRW := Lib.hid (pjrew_any bd fd1 s w2.heap.size (.slice q2 k c2) ys (opL s) q2 k c2 bs w3 (progHeldD.on HR.out hb3) HPJ.out (fun i h1 h2 => by have h3 := progHeldD.low HR.out i h1; have h4 := hnew.out i h2; omega) HS.out
      (by rw [HK.out]; exact hri.on HBJ.out) (fun i h1 h2 => by
        have h3 := hbs i h1
        rcases List.mem_cons.1 h2 with h4 | h4
        · have := hri.low i h1; omega
        · have := progHeldD.low HR.out i h4; omega) hk1 (fun x hx => by have h1 := frs_each _ x hx; have h2 := HSP2.out; have h3 := HN.out; unfold opL at hx; have := frs_each _ x hx; omega) (fun _ => by have h2 := HSP2.out; have h3 := HN.out; unfold opL; omega))
    unfold RewDone at HRW
    rw [show jrwE s (opL s) = opE s by unfold jrwE opE; rw [if_pos (show Frm.joinE (opL s) = 0 from Frm.joinE_zero HSP.out), if_neg HO.out, if_neg (by rw [← HM.out, ← HN.out]; exact HMN.out)], show jrwS s (opL s) = opS s by unfold jrwS opS; rw [if_pos (show Frm.joinE (opL s) = 0 from Frm.joinE_zero HSP.out), if_neg HO.out, if_neg (by rw [← HM.out, ← HN.out]; exact HMN.out)]] at HRW
    have HB3 := Lib.hid hb3
    obtain ⟨z, hz⟩ : ∃ z, z = opE s := ⟨_, rfl⟩
    rw [← hz] at HRW
    have HZ := Lib.hid hz
    have HLT := Lib.hid (show w2.heap.size < w3.heap.size from HPJ.out.blk.lt)
    clear hri hbs hk1 hw3 hb3 hmn hz
    go_wp2_with fail
    rw [← HW3.out]
    refine HRW.out.mono ?_
    rintro e w4 ⟨rfl, fd', v', ys', hr, hp, hy, hap, ht, hf, hfj⟩
    have hsz1 : w.heap.size ≤ w1.heap.size := HT.out.size
    have hsz2 : w1.heap.size ≤ w2.heap.size := B2.out.size
    have hszb := HB3.out.size
    have HR4 := Lib.hid hr
    have HP4 := Lib.hid hp
    have HY4 := Lib.hid hy
    have HAP4 := Lib.hid hap
    have HT4 := Lib.hid (show Touch fd w w4 from by
      have h1 : Touch (w2.heap.size :: fd1) w1 w4 := (Touch.of_below HB3.out).trans ht (From.refl _ _)
      have h2 : Touch fd1 w1 w4 := ⟨h1.os, h1.tape, h1.output, h1.size, fun k hk hn => h1.block k hk (by simp; exact ⟨by omega, hn⟩)⟩
      exact HT.out.trans h2 HF.out)
    have HF4 := Lib.hid (show From fd fd' w from HF.out.trans (from_old hf HB3.out.size) hsz1)
    have HN4 := Lib.hid (show ∀ i ∈ fpJ w2.heap.size v' ys', w.heap.size ≤ i from fun i hi => by
      rcases hfj i hi with h | h
      · have := hnew.out i h; omega
      · omega)
    clear hr hp hy hap ht hf hfj HRW
    by_cases hz0 : z = 0
    · subst hz0
      go_wp2_with fail
      go_ret2
      refine .inl ⟨HZ.out.symm, w2.heap.size, _, fd', rfl, HR4.out, ⟨v', ys', rfl, ?_, HP4.out⟩, HAP4.out, HN4.out, HT4.out, HF4.out⟩
      have h1 := HY4.out
      rw [if_pos trivial] at h1
      exact h1.symm
    · have hq2 : (z != 0) = true := by simpa using hz0
      have HZ0 := Lib.hid hz0
      clear hz0
      go_wp2_with fail
      go_ret2
      exact .inr ⟨by rw [← HZ.out]; exact HZ0.out, fd', by rw [← HZ.out]; rfl, HR4.out, HT4.out, HF4.out⟩
end
section
set_option linter.unusedSimpArgs false
set_option linter.unusedVariables false
open Go.RowKit Go.Shelf Sha Dsk Jrn
attribute [local go_sem] Oper.semAt_some
theorem NoJournal.below {p : Option Addr} {w w' : World} (h : NoJournal p w) (hb : Below w.heap.size w w') : NoJournal p w' := fun a ha => by
  obtain ⟨b, rfl, hk⟩ := h a ha
  exact ⟨b, rfl, hk.below hb hk.lt⟩
theorem zjnone_any (p : Option Addr) (w : World) (h : NoJournal p w) :
    Calls Try.prog 45 #[.pointer p] w fun e w' => e = .returned (.bool true) ∧ w' = w := by
  cases p with
  | none =>
    go_enter Try.func45, Try.ntmps45
    go_wp2_with fail
    go_ret
    exact ⟨rfl, rfl⟩
  | some a =>
    obtain ⟨b, rfl, hb⟩ := h a rfl
    have c0 : w.cell? ⟨b, 0, none⟩ = some (.pointer none) := hb.cell 0
    have hq := run_neq_ptr_nilD (P := Try.prog) ⟨b, 0, none⟩ Try.underlying24
    clear h hb
    go_enter Try.func45, Try.ntmps45
    go_wp2_with fail
    go_ret
    exact ⟨rfl, rfl⟩
theorem zjthere_any (p : Option Addr) (w : World) (h : NoJournal p w) :
    Calls Try.prog 26 #[.pointer p] w fun e w' => e = .returned (i64v 1) ∧ w' = w := by
  have HC := Lib.hid (zjnone_any p w h)
  clear h
  go_enter Try.func26, Try.ntmps26
  go_wp2_with fail
  refine HC.out.mono ?_
  rintro e w1 ⟨rfl, rfl⟩
  go_wp2_with fail
  go_ret
  exact ⟨rfl, rfl⟩
theorem zjon_any (p : Option Addr) (w : World) (h : NoJournal p w) :
    Calls Try.prog 24 #[.pointer p] w fun e w' => e = .returned (.pointer none) ∧ w' = w := by
  have HC := Lib.hid (zjnone_any p w h)
  clear h
  go_enter Try.func24, Try.ntmps24
  go_wp2_with fail
  refine HC.out.mono ?_
  rintro e w1 ⟨rfl, rfl⟩
  go_wp2_with fail
  go_ret
  exact ⟨rfl, rfl⟩
/-- The first step says that there is no journal. -/
theorem first_none (p : Option Addr) (fs : List StepV) (n g : Nat) (w w3 : World) (hj : NoJournal p w) (hb : Below w.heap.size w w3) (hn : (( 26, .pointer p) :: fs).length = n) (hsm : n ≤ 100)
    (he : ∀ x ∈ fs, ∀ args w, (callFunc x.1 args).run Try.prog w = .ok (.enter x.1 args) w) (hbk : Blk w3 g ((( 26, .pointer p) :: fs).map stepCell) 32) :
    Calls Try.prog 25 #[.slice (some ⟨g, 0, none⟩) n n] w3 fun e w' => e = .returned (i64v 1) ∧ w' = w3 := by
  refine (first_any _ n _ n w3 hn hsm ?_ (fun k W => k = 0 ∧ W = w3) (fun z W => z = 1 ∧ W = w3) ⟨rfl, rfl⟩ ?_ ?_ ?_).mono ?_
  · intro x hx
    rcases List.mem_cons.1 hx with rfl | hx
    · exact enters_of Try.func26 (by kernel_rfl) rfl
    · exact he x hx
  · rintro k W hk ⟨_, rfl⟩
    exact blk_at hbk
  · rintro k x hx W ⟨rfl, rfl⟩
    cases hx
    refine (zjthere_any p W (hj.below hb)).mono ?_
    rintro e W' ⟨rfl, rfl⟩
    exact ⟨1, rfl, fun h => absurd h (by decide), fun _ => ⟨rfl, rfl⟩⟩
  · rintro W ⟨h, _⟩
    exact absurd hn (by rw [h]; simp)
  · rintro e w' ⟨z, rfl, rfl, rfl⟩
    exact ⟨rfl, rfl⟩
set_option maxRecDepth 100000 in
set_option maxHeartbeats 1000000 in
theorem zjsync_any (p : Option Addr) (w : World) (h : NoJournal p w) : Calls Try.prog 9 #[.pointer p] w (SaysB (i64v 1) w) := by
  have HON := Lib.hid (zjon_any p w h)
  have hB := (Below.refl w.heap.size w).alloc (Nat.le_refl _) (Obj.cells #[stepCell (26, .pointer p), stepCell (30, .pointer none)] 32)
  have HQ := Lib.hid (first_none p [(30, .pointer none)] 2 w.heap.size w _ h hB rfl (by omega) (by
    intro x hx
    rw [List.mem_singleton] at hx; subst hx
    exact enters_of Try.func30 (by kernel_rfl) rfl) (Blk.new w #[stepCell (26, .pointer p), stepCell (30, .pointer none)] 32))
  have HB := Lib.hid hB
  clear h hB
  go_enter Try.func9, Try.ntmps9
  go_wp2_with fail
  refine HON.out.mono ?_
  rintro e w1 ⟨rfl, rfl⟩
  go_wp2_with fail
  refine HQ.out.mono ?_
  rintro e W ⟨rfl, rfl⟩
  go_wp2_with fail
  go_ret
  exact ⟨rfl, HB.out⟩
set_option maxRecDepth 100000 in
set_option maxHeartbeats 1000000 in
theorem zjappend_any (p : Option Addr) (n : Nat) (q : Option Addr) (c : Nat) (w : World) (h : NoJournal p w) : Calls Try.prog 8 #[.pointer p, .slice q n c] w (SaysB (i64v 1) w) := by
  have HON := Lib.hid (zjon_any p w h)
  have HJ := Lib.hid h
  clear h
  go_enter Try.func8, Try.ntmps8
  go_wp2_with fail
  refine HON.out.mono ?_
  rintro e w1 ⟨rfl, rfl⟩
  clear HON
  rename World => w
  go_wp2_with fail
  have hB1 := (Below.refl w.heap.size w).alloc (Nat.le_refl _) (Obj.cells #[Value.slice q n c] 22)
  have hs1 := World.size_alloc w (Obj.cells #[Value.slice q n c] 22)
  obtain ⟨a1, ha1⟩ : ∃ x, x = w.alloc (Obj.cells #[Value.slice q n c] 22) := ⟨_, rfl⟩
  rw [← ha1] at hB1 hs1 ⊢
  have hB2 := hB1.alloc (by omega) (Obj.cells #[.pointer none, Value.slice (some ⟨w.heap.size, 0, none⟩) 1 1, Value.slice none 0 0] 59)
  have hs2 := World.size_alloc a1 (Obj.cells #[.pointer none, Value.slice (some ⟨w.heap.size, 0, none⟩) 1 1, Value.slice none 0 0] 59)
  obtain ⟨a2, ha2⟩ : ∃ x, x = a1.alloc (Obj.cells #[.pointer none, Value.slice (some ⟨w.heap.size, 0, none⟩) 1 1, Value.slice none 0 0] 59) := ⟨_, rfl⟩
  rw [← ha2] at hB2 hs2 ⊢
  have hB3 := hB2.alloc (by omega) (Obj.cells #[stepCell (26, .pointer p), stepCell (27, optr (w.heap.size + 1)), stepCell (28, optr (w.heap.size + 1))] 32)
  have hbk := Blk.new a2 #[stepCell (26, .pointer p), stepCell (27, optr (w.heap.size + 1)), stepCell (28, optr (w.heap.size + 1))] 32
  rw [show a2.heap.size = w.heap.size + 1 + 1 by omega] at hbk
  have HB := Lib.hid hB3
  refine (first_none p [(27, optr (w.heap.size + 1)), (28, optr (w.heap.size + 1))] 3 (w.heap.size + 1 + 1) w _ HJ.out hB3 rfl (by omega) (by
    intro x hx
    simp only [List.mem_cons, List.mem_singleton, List.not_mem_nil, or_false] at hx
    rcases hx with rfl | rfl
    · exact enters_of Try.func27 (by kernel_rfl) rfl
    · exact enters_of Try.func28 (by kernel_rfl) rfl) hbk).mono ?_
  rintro e W ⟨rfl, rfl⟩
  clear ha1 ha2 hB1 hB2 hB3 hs1 hs2 hbk
  go_wp2_with fail
  go_ret
  exact ⟨rfl, HB.out⟩
set_option maxRecDepth 100000 in
set_option maxHeartbeats 1000000 in
theorem zjrewrite_any (p : Option Addr) (n : Nat) (q : Option Addr) (c : Nat) (w : World) (h : NoJournal p w) : Calls Try.prog 10 #[.pointer p, .slice q n c] w (SaysB (i64v 1) w) := by
  have HON := Lib.hid (zjon_any p w h)
  have HJ := Lib.hid h
  clear h
  go_enter Try.func10, Try.ntmps10
  go_wp2_with fail
  refine HON.out.mono ?_
  rintro e w1 ⟨rfl, rfl⟩
  clear HON
  rename World => w
  go_wp2_with fail
  have hB2 := (Below.refl w.heap.size w).alloc (Nat.le_refl _) (Obj.cells #[.pointer none, Value.slice q n c, Value.slice none 0 0] 59)
  have hs2 := World.size_alloc w (Obj.cells #[.pointer none, Value.slice q n c, Value.slice none 0 0] 59)
  obtain ⟨a2, ha2⟩ : ∃ x, x = w.alloc (Obj.cells #[.pointer none, Value.slice q n c, Value.slice none 0 0] 59) := ⟨_, rfl⟩
  rw [← ha2] at hB2 hs2 ⊢
  have hB3 := hB2.alloc (by omega) (Obj.cells #[stepCell (26, .pointer p), stepCell (27, optr w.heap.size), stepCell (31, optr w.heap.size), stepCell (32, .pointer none)] 32)
  have hbk := Blk.new a2 #[stepCell (26, .pointer p), stepCell (27, optr w.heap.size), stepCell (31, optr w.heap.size), stepCell (32, .pointer none)] 32
  rw [show a2.heap.size = w.heap.size + 1 by omega] at hbk
  have HB := Lib.hid hB3
  refine (first_none p [(27, optr w.heap.size), (31, optr w.heap.size), (32, .pointer none)] 4 (w.heap.size + 1) w _ HJ.out hB3 rfl (by omega) (by
    intro x hx
    simp only [List.mem_cons, List.mem_singleton, List.not_mem_nil, or_false] at hx
    rcases hx with rfl | rfl | rfl
    · exact enters_of Try.func27 (by kernel_rfl) rfl
    · exact enters_of Try.func31 (by kernel_rfl) rfl
    · exact enters_of Try.func32 (by kernel_rfl) rfl) hbk).mono ?_
  rintro e W ⟨rfl, rfl⟩
  clear ha2 hB2 hB3 hs2 hbk
  go_wp2_with fail
  go_ret
  exact ⟨rfl, HB.out⟩
set_option maxRecDepth 100000 in
set_option maxHeartbeats 1000000 in
/-- The iterator of no journal tells nothing. -/
theorem zjeach1_in (m : Nat) (h1 : 1 ≤ m) (p : Option Addr) (Bx : Nat) (w0 w : World) (hb0 : Below w0.heap.size w0 w) (hx : w.cell? ⟨Bx, 0, none⟩ = some (.pointer p)) (h : NoJournal p w0) :
    SeqSays Fence.wide m Try.prog 54 #[.pointer (some ⟨Bx, 0, none⟩)] (tellS []) 0 (fun _ W => Below w0.heap.size w0 W) w := by
  intro lp J Jx W hW hJ hJx hNd hY h0
  have c0 := (hW.cell (World.block_lt_of_cell? w _ hx)).trans hx
  have hj : NoJournal p W := h.below (hb0.trans (hW.mono hb0.size))
  have HNO := Lib.hid (zjnone_any p W hj)
  have HJ0 := Lib.hid h0
  clear hJ hJx hNd hY hW hx hb0 h hj h0
  refine callsIn_of_wp Try.func54 rfl trivial ?_ rfl
  simp only [Try.ntmps54, List.size_toArray, List.length_cons, List.length_nil, Nat.reduceAdd, Nat.reduceSub, Array.replicate_succ, Array.replicate_zero, List.push_toArray, List.append_toArray, List.nil_append, List.cons_append]
  gi_wp2_with (refine ⟨trivial, ?_⟩; gi_at_call 45; refine (callsIn_wide.2 HNO.out).mono ?_; rintro e w1 ⟨rfl, rfl⟩)
  refine bodyPost_ret (results_none rfl _ _ _) rfl ?_
  exact ⟨⟨_, rfl⟩, .inl HJ0.out⟩
set_option maxRecDepth 100000 in
set_option maxHeartbeats 1000000 in
theorem zjall_any (p : Option Addr) (w : World) (h : NoJournal p w) : Calls Try.prog 11 #[.pointer p] w (NoneAll w) := by
  have hB := (Below.refl w.heap.size w).alloc (Nat.le_refl _) (.cells #[.pointer p] 24)
  have HC := Lib.hid (copied_in 54 #[.pointer (some ⟨w.heap.size, 0, none⟩)] each_enters [] (w.alloc (.cells #[.pointer p] 24)) (by simp) (by simp) (zjeach1_in 4 (by omega) p w.heap.size _ _ (Below.refl _ _) (Boxed.new w 24 (.pointer p)).cell (h.below hB)))
  have HB := Lib.hid hB
  have HE := Lib.hid ((callsIn_wide (n := 4)).1 (jeach_in 4 p w))
  clear h hB
  go_enter Try.func11, Try.ntmps11
  go_wp2_with fail
  refine HE.out.mono ?_
  rintro e w1 ⟨rfl, rfl⟩
  go_wp2_with fail
  refine HC.out.mono ?_
  rintro e w2 ⟨v2, zs, rfl, hz, ho, hb⟩
  obtain ⟨q, c, rfl, _⟩ := ho.told
  have hl : zs.length = 0 := by have := congrArg List.length hz; simpa using this
  rw [hl]
  have HB2 := Lib.hid (HB.out.trans (hb.mono HB.out.size))
  clear ho hb hz hl
  go_wp2_with fail
  go_ret
  exact ⟨q, c, rfl, HB2.out⟩
set_option maxRecDepth 100000 in
set_option maxHeartbeats 1000000 in
theorem zjlen_any (p : Option Addr) (w : World) (h : NoJournal p w) : Calls Try.prog 12 #[.pointer p] w (SaysB (i64v 0) w) := by
  have HSQ := Lib.hid (fun w1 (hb : Below w.heap.size w w1) => zjeach1_in 4 (by omega) p w1.heap.size w _ (hb.alloc hb.size (.cells #[.pointer p] 24)) (Boxed.new w1 24 (.pointer p)).cell h)
  clear h
  refine (callsIn_wide (n := 5)).1 ?_
  refine callsIn_of_wp_marks Try.func12 rfl trivial ?_ rfl
  simp only [Try.ntmps12, List.size_toArray, List.length_cons, List.length_nil, Nat.reduceAdd, Nat.reduceSub, Array.replicate_succ, Array.replicate_zero, List.push_toArray, List.append_toArray, List.nil_append, List.cons_append]
  gi_wp2_with (refine ⟨trivial, ?_⟩; gi_at_call 35; refine (jeach_in 4 _ _).mono ?_; rintro e w' ⟨rfl, rfl⟩)
  have b1 := Boxed.new w 3 (.int .i64 0)
  have hB1 := (Below.refl w.heap.size w).alloc (Nat.le_refl _) (.cells #[.int .i64 0] 3)
  have hs1 := World.size_alloc w (.cells #[.int .i64 0] 3)
  obtain ⟨w1, hw1⟩ : ∃ x, x = w.alloc (.cells #[.int .i64 0] 3) := ⟨_, rfl⟩
  rw [← hw1] at b1 hB1 hs1 ⊢
  have hsq := HSQ.out w1 hB1
  rw [hs1] at hsq
  have b2 := b1.alloc (.cells #[.pointer p] 24)
  have hB2 := hB1.alloc (by omega) (.cells #[.pointer p] 24)
  have hs2 := World.size_alloc w1 (.cells #[.pointer p] 24)
  obtain ⟨w2, hw2⟩ : ∃ x, x = w1.alloc (.cells #[.pointer p] 24) := ⟨_, rfl⟩
  rw [← hw2] at b2 hB2 hs2 hsq ⊢
  clear hw1 hw2 b1 HSQ
  have HSQ := Lib.hid hsq
  clear hsq
  refine wpIn_range_says rfl (by omega) (gf := 54) (lb := #[.pointer (some ⟨w.heap.size + 1, 0, none⟩)]) rfl trivial each_enters HSQ.out (Below.refl _ _) (fun _ => rfl)
    (fun k W => Boxed W w.heap.size 3 (.int .i64 (k : Nat)) ∧ Below w.heap.size w W)
    (fun _ _ _ => False)
    (OwnFrom.and (Own.from (boxed_own w.heap.size 3 (fun k : Nat => .int .i64 (k : Nat))) _) (ownFrom_below (Nat.le_refl _) (by omega)))
    (fun _ _ _ _ _ hs _ _ => hs)
    (fun k W h => h.2)
    ⟨b2, hB2⟩
    (fun k a' _ => True)
    (fun k a' => fun _ _ _ _ hs _ _ => hs)
    ?assign ?body ?done ?stop
  case assign =>
    intro lp k W K hI hK
    unfold tellS
    gi_wp2
    exact hK _ _ (KeepsFrom.refl _ _) hI trivial
  case body =>
    rintro lp k a' W hl hrec hk
    exact absurd hk (Nat.not_lt_zero k)
  case done =>
    rintro D W hD ⟨hbx, hbl⟩ hdf
    have c0 := hbx.cell
    gi_wp2
    refine ⟨by simp, .inl ⟨_, _, rfl, run_takeDeferred hdf, ?_⟩⟩
    refine ⟨_, results_tmp rfl _ _ _, ?_⟩
    exact ⟨rfl, hbl.trans (belowK_b (w := w) (Nat.le_refl _) W D _ _ (by omega) hdf rfl rfl)⟩
  case stop =>
    rintro D c' k W hD hk h hdf
    exact h.elim
set_option maxRecDepth 100000 in
set_option maxHeartbeats 1000000 in
theorem zjfirm_any (p : Option Addr) (w : World) (h : NoJournal p w) : Calls Try.prog 13 #[.pointer p] w (SaysB (i64v 0) w) := by
  have HSQ := Lib.hid (fun w1 (hb : Below w.heap.size w w1) => zjeach1_in 4 (by omega) p w1.heap.size w _ (hb.alloc hb.size (.cells #[.pointer p] 24)) (Boxed.new w1 24 (.pointer p)).cell h)
  clear h
  refine (callsIn_wide (n := 5)).1 ?_
  refine callsIn_of_wp_marks Try.func13 rfl trivial ?_ rfl
  simp only [Try.ntmps13, List.size_toArray, List.length_cons, List.length_nil, Nat.reduceAdd, Nat.reduceSub, Array.replicate_succ, Array.replicate_zero, List.push_toArray, List.append_toArray, List.nil_append, List.cons_append]
  gi_wp2_with (refine ⟨trivial, ?_⟩; gi_at_call 35; refine (jeach_in 4 _ _).mono ?_; rintro e w' ⟨rfl, rfl⟩)
  have b0 := Boxed.new w 24 (.pointer p)
  have hB0 := (Below.refl w.heap.size w).alloc (Nat.le_refl _) (.cells #[.pointer p] 24)
  have hz0 := World.size_alloc w (.cells #[.pointer p] 24)
  obtain ⟨w1, hw1⟩ : ∃ x, x = w.alloc (.cells #[.pointer p] 24) := ⟨_, rfl⟩
  rw [← hw1] at b0 hB0 hz0 ⊢
  have b1 := Boxed.new w1 3 (.int .i64 0)
  have hB1 := hB0.alloc (by omega) (.cells #[.int .i64 0] 3)
  have hz1 := World.size_alloc w1 (.cells #[.int .i64 0] 3)
  obtain ⟨w2, hw2⟩ : ∃ x, x = w1.alloc (.cells #[.int .i64 0] 3) := ⟨_, rfl⟩
  rw [← hw2] at b1 hB1 hz1 ⊢
  have b12 := b1.alloc (.cells #[.int .i64 0] 3)
  have hB2 := hB1.alloc (by omega) (.cells #[.int .i64 0] 3)
  have hz2 := World.size_alloc w2 (.cells #[.int .i64 0] 3)
  obtain ⟨w3, hw3⟩ : ∃ x, x = w2.alloc (.cells #[.int .i64 0] 3) := ⟨_, rfl⟩
  rw [← hw3] at b12 hB2 hz2 ⊢
  have hsq := HSQ.out w3 hB2
  have b13 := b12.alloc (.cells #[.pointer p] 24)
  have hB3 := hB2.alloc (by omega) (.cells #[.pointer p] 24)
  have hz3 := World.size_alloc w3 (.cells #[.pointer p] 24)
  obtain ⟨w4, hw4⟩ : ∃ x, x = w3.alloc (.cells #[.pointer p] 24) := ⟨_, rfl⟩
  rw [← hw4] at b13 hB3 hz3 hsq ⊢
  rw [show w3.heap.size = w.heap.size + 1 + 1 + 1 by omega] at hsq
  rw [show w1.heap.size = w.heap.size + 1 by omega] at b13
  have hz : w4.heap.size = w.heap.size + 1 + 1 + 1 + 1 := by omega
  clear hw1 hw2 hw3 hw4 b0 b1 b12 hB0 hB1 hB2 hz0 hz1 hz2 hz3 HSQ
  have HSQ := Lib.hid hsq
  clear hsq
  refine wpIn_range_says rfl (by omega) (gf := 54) (lb := #[.pointer (some ⟨w.heap.size + 1 + 1 + 1, 0, none⟩)]) rfl trivial each_enters HSQ.out (Below.refl _ _) (fun _ => rfl)
    (fun k W => Boxed W (w.heap.size + 1) 3 (.int .i64 (k : Nat)) ∧ Below w.heap.size w W)
    (fun _ _ _ => False)
    (OwnFrom.and (Own.from (boxed_own (w.heap.size + 1) 3 (fun k : Nat => .int .i64 (k : Nat))) _) (ownFrom_below (Nat.le_refl _) (by omega)))
    (fun _ _ _ _ _ hs _ _ => hs)
    (fun k W h => h.2)
    ⟨b13, hB3⟩
    (fun k a' _ => True)
    (fun k a' => fun _ _ _ _ hs _ _ => hs)
    ?assign ?body ?done ?stop
  case assign =>
    intro lp k W K hI hK
    unfold tellS
    gi_wp2
    exact hK _ _ (KeepsFrom.refl _ _) hI trivial
  case body =>
    rintro lp k a' W hl hrec hk
    exact absurd hk (Nat.not_lt_zero k)
  case done =>
    rintro D W hD ⟨hbx, hbl⟩ hdf
    have c0 := hbx.cell
    gi_wp2
    refine ⟨by simp, .inl ⟨_, _, rfl, run_takeDeferred hdf, ?_⟩⟩
    refine ⟨_, results_tmp rfl _ _ _, ?_⟩
    exact ⟨rfl, hbl.trans (belowK_b (w := w) (Nat.le_refl _) W D _ _ (by omega) hdf rfl rfl)⟩
  case stop =>
    rintro D c' k W hD hk h hdf
    exact h.elim
theorem zjopen_any (p : Option Addr) (w : World) (h : NoDisk8 p w) : Calls Try.prog 14 #[.pointer p] w (SaysB (.tuple #[.pointer none, i64v 1]) w) := by
  have HC := Lib.hid (z8read_any p w h)
  clear h
  go_enter Try.func14, Try.ntmps14
  go_wp2_with fail
  refine HC.out.mono ?_
  rintro e w1 ⟨rfl, rfl⟩
  go_wp2_with fail
  go_ret2
  exact ⟨rfl, Below.refl _ _⟩
theorem journalsNone : JournalsNone where
  append := fun p zs n q c w h _ _ => zjappend_any p n q c w h
  sync := fun p w h => zjsync_any p w h
  rewrite := fun p l q n c w h _ => zjrewrite_any p n q c w h
  all := fun p w h => zjall_any p w h
  len := fun p w h => zjlen_any p w h
  firm := fun p w h => zjfirm_any p w h
  open_ := fun p w h => zjopen_any p w h
end
end Go.Proofs.Ythopfpfmliookaa
