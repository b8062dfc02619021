/-
  The program's journals: Append.
  The program's journals: Sync and Rewrite.
-/
import Derived.Test.YthopfpfmliookaaJp25
import Derived.Deep.RegionHeld3
import Derived.Deep.AppendLies
namespace Go.Proofs.Ythopfpfmliookaa
section
set_option linter.unusedSimpArgs false
set_option linter.unusedVariables false
open Go.RowKit Go.Shelf Sha Dsk Jrn
theorem lay_one {w W : World} {bd : Nat} {fd : List Nat} {s : DState} {zs : List Int} {z : Int} (h : LayQ w bd fd s [zs] z W) : z = japE s zs ∧ ∃ fd', ProgDisk W bd fd' (japS s zs) ∧ Touch fd w W ∧ From fd fd' w := by
  have e1 : Frm.joinE [zs] = Frm.bad zs := by unfold Frm.joinE; split <;> rename_i h <;> simp [h, Frm.joinE]
  have e2 : Frm.frs [zs] = Frm.fr zs := by rw [Frm.frs_cons, Frm.frs_nil, List.append_nil]
  unfold LayQ at h
  rw [e1, e2, Frm.fr_length] at h
  exact h
theorem tied_small {w : World} {bd : Nat} {fd : List Nat} {s : DState} {L : Rs} (hd : ProgDisk w bd fd s) (ht : Tied L s) : (Frm.frs L).length ≤ 1000000 := by
  have hok : Ok s := by obtain ⟨_, _, _, h⟩ := hd; exact h.ok
  have h1 := hok.small
  obtain ⟨z, hz, _⟩ := ht.log
  have h3 := congrArg List.length hz
  rw [List.length_append] at h3
  omega
/-- One record more in a journal. -/
theorem PJ.snoc {w w3 w8 : World} {b bd g : Nat} {v : Value} {ys : List SHdr} {y : SHdr} {o : Obj} {cap : Nat} (h : PJ w b bd v ys) (hb : Below w.heap.size w w3) (hR : RecO w.heap.size w3 y)
    (hown : w8.ownsRow 0 22 1 (.slice (some ⟨g, 0, none⟩) (ys.length + 1) cap) (ys.length + 1) (ys.map cellS ++ [cellS y])) (hg : (w3.alloc o).grownBy w8 v.ownBlock) (hl : v.ownBlock = some g ∨ w.heap.size ≤ g) :
    Blk w8 b (jcells b bd v) 28 ∧ PJ (w8.setCell ⟨b, 2, none⟩ (.slice (some ⟨g, 0, none⟩) (ys.length + 1) cap)) b bd (.slice (some ⟨g, 0, none⟩) (ys.length + 1) cap) (ys ++ [y]) ∧
      Touch (fpJ b v ys) w (w8.setCell ⟨b, 2, none⟩ (.slice (some ⟨g, 0, none⟩) (ys.length + 1) cap)) ∧ From (fpJ b v ys) (fpJ b (.slice (some ⟨g, 0, none⟩) (ys.length + 1) cap) (ys ++ [y])) w := by
  have hlt := h.blk.lt
  have h3 := h.keep fun k hk => hb.block k (h.low k hk)
  have hB8 : Blk w8 b (jcells b bd v) 28 := (hg.block b (by simp; have := h3.blk.lt; omega) fun e => h.nv e.symm).trans (h3.blk.old o)
  have hgb : g ≠ b := by
    rcases hl with e | e
    · intro e'; rw [e'] at e; exact h.nv e
    · omega
  have hO8 := h3.own.snoc ⟨hR.bytes, own_weak hR.own (Nat.zero_le _)⟩ hg hown
  have hy8 : ∀ z ∈ ys ++ [y], (cellS z).ownBlock ≠ some b := fun z hz e => by
    obtain ⟨c, fz, hh⟩ := own_type (hO8.good z hz).own b e
    rw [show w8.heap[b]? = _ from hB8] at hh
    injection hh with hh; injection hh with _ ht
    exact absurd ht (by decide)
  refine ⟨hB8, ⟨hB8.set 2 _, hO8.blocks (fun k hk => Below.heap_setCell _ _ _ _ fun e => ?_) fun z hz k hk => Below.heap_setCell _ _ _ _ fun e => ?_⟩, ?_, ?_⟩
  · have e1 : k = b := e
    have e2 : g = k := by simpa [Value.ownBlock] using hk
    exact hgb (by rw [e2, e1])
  · have e1 : k = b := e
    exact hy8 z hz (by rw [hk, e1])
  · refine Touch.setIn (g := b) ?_ (fpJ_mem.2 (.inl rfl)) _
    refine ⟨hg.os.trans hb.os, hg.tape.trans hb.tape, hg.output.trans hb.output, Nat.le_trans hb.size (Nat.le_trans (by simp) hg.size), fun k hk hn => ?_⟩
    have hk3 := Nat.lt_of_lt_of_le hk hb.size
    rw [hg.block k (by simp; omega) fun e => hn (fpJ_mem.2 (.inr (.inl e.symm))), (World.grownBy_alloc w3 o none).block k hk3 (by simp)]
    exact hb.block k hk
  · intro k hk
    rcases fpJ_mem.1 hk with rfl | hk | ⟨z, hz, hk⟩
    · exact .inl (fpJ_mem.2 (.inl rfl))
    · have e2 : g = k := by simpa [Value.ownBlock] using hk
      rcases hl with e | e
      · exact .inl (fpJ_mem.2 (.inr (.inl (by rw [e, e2]))))
      · exact .inr (by omega)
    · rcases List.mem_append.1 hz with hz | hz
      · exact .inl (fpJ_mem.2 (.inr (.inr ⟨z, hz, hk⟩)))
      · rw [List.mem_singleton.1 hz] at hk
        exact .inr (hR.own.lt k hk).1
theorem info_bytes : ∃ j, Try.prog.info? 22 = some j ∧ j.zero = some (.slice none 0 0) ∧ j.size = 1 ∧ j.bytes = 24 := by
  have h := slice_info
  cases hi : Try.prog.info? 22 with
  | none => rw [hi] at h; cases h
  | some j =>
    rw [hi] at h
    simp only [Option.map_some, Option.some.injEq, Prod.mk.injEq] at h
    exact ⟨j, rfl, h.1, h.2.1, h.2.2⟩
set_option maxRecDepth 100000 in
set_option maxHeartbeats 2000000 in
theorem pjappend_any (bd : Nat) (fd : List Nat) (s : DState) (bj : Nat) (fj : List Nat) (L : Rs) (zs : List Int) (n : Nat) (p : Option Addr) (cap : Nat) (w : World) (hd : ProgDisk w bd fd s) (h : ProgJournal w bj fj (L, bd)) (hap : Apart fd fj) (ht : Tied L s) (hs : s.steps ≤ 1000000)
    (hn : zs.length = n) (hm : n ≤ 1000000) (hz : GoodC w zs p cap) (hza : ApartC zs p (fd ++ fj)) :
    Calls Try.prog 8 #[optr bj, .slice p n cap] w (JDone ProgDisk ProgJournal bd fd bj fj (japS s zs) (japL L s zs) (i64v (japE s zs)) w) := by
  obtain ⟨v, ys, rfl, e, hp⟩ := h
  change L = _ at e
  change PJ w bj bd v ys at hp
  have hyl : ys.length ≤ 1000000 := by
    have h1 := tied_small hd ht
    have h2 := frs_count L
    rw [e, List.length_map] at h2
    rw [e] at h1
    omega
  have HON := Lib.hid (pon_any bj bd v w hp.blk)
  have HP := Lib.hid hp
  have HD := Lib.hid hd
  have HAP := Lib.hid hap
  have HZ := Lib.hid hz
  have HZA := Lib.hid hza
  have HN := Lib.hid hn
  have HL := Lib.hid e
  have HS := Lib.hid hs
  clear hd hp hap ht hs hz hza e
  go_enter Try.func8, Try.ntmps8
  go_wp2_with fail
  refine HON.out.mono ?_
  rintro e w1 ⟨rfl, rfl⟩
  clear HON
  rename World => w
  go_wp2_with fail
  have hD : Draft w (((w.alloc (Obj.cells #[Value.slice p n cap] 22)).alloc (Obj.cells #[optr bd, Value.slice (some ⟨w.heap.size, 0, none⟩) 1 1, Value.slice none 0 0] 59)).alloc (Obj.cells #[stepCell (26, optr bj), stepCell (27, optr (w.heap.size + 1)), stepCell (28, optr (w.heap.size + 1))] 32))
      (w.heap.size + 1) (w.heap.size + 1 + 1) bd (some ⟨w.heap.size, 0, none⟩) 1 1 [zs] (laySteps bj (w.heap.size + 1)) := by
    obtain ⟨a1, ha1⟩ : ∃ x, x = w.alloc (Obj.cells #[Value.slice p n cap] 22) := ⟨_, rfl⟩
    have hs1 := World.size_alloc w (Obj.cells #[Value.slice p n cap] 22)
    have hB1 := (Below.refl w.heap.size w).alloc (Nat.le_refl _) (Obj.cells #[Value.slice p n cap] 22)
    have hr1 := recs_one w zs n p cap HN.out HZ.out
    rw [← ha1] at hs1 hB1 hr1 ⊢
    have hb2 := Blk.new a1 #[optr bd, Value.slice (some ⟨w.heap.size, 0, none⟩) 1 1, Value.slice none 0 0] 59
    obtain ⟨a2, ha2⟩ : ∃ x, x = a1.alloc (Obj.cells #[optr bd, Value.slice (some ⟨w.heap.size, 0, none⟩) 1 1, Value.slice none 0 0] 59) := ⟨_, rfl⟩
    have hs2 := World.size_alloc a1 (Obj.cells #[optr bd, Value.slice (some ⟨w.heap.size, 0, none⟩) 1 1, Value.slice none 0 0] 59)
    have hB2 := hB1.alloc (by omega) (Obj.cells #[optr bd, Value.slice (some ⟨w.heap.size, 0, none⟩) 1 1, Value.slice none 0 0] 59)
    have hr2 := hr1.below ((Below.refl a1.heap.size a1).alloc (Nat.le_refl _) (Obj.cells #[optr bd, Value.slice (some ⟨w.heap.size, 0, none⟩) 1 1, Value.slice none 0 0] 59))
    rw [← ha2] at hb2 hs2 hB2 hr2 ⊢
    rw [hs1] at hb2
    have hb3 := Blk.new a2 #[stepCell (26, optr bj), stepCell (27, optr (w.heap.size + 1)), stepCell (28, optr (w.heap.size + 1))] 32
    have hB3 := (Below.refl a2.heap.size a2).alloc (Nat.le_refl _) (Obj.cells #[stepCell (26, optr bj), stepCell (27, optr (w.heap.size + 1)), stepCell (28, optr (w.heap.size + 1))] 32)
    rw [show a2.heap.size = w.heap.size + 1 + 1 by omega] at hb3
    exact ⟨hB2.trans (hB3.mono (by omega)), by omega, by omega, by omega, hb2.below hB3 hb2.lt, hr2.below hB3, by omega, hb3⟩
  refine (first_lay bj v hD HP.out.blk HD.out HS.out (fun h => by
    have h1 := (Frm.joinE_ok h zs (by simp)).most
    rw [Frm.frs_cons, Frm.frs_nil, List.append_nil, Frm.fr_length]; omega)).mono ?_
  rintro e W ⟨z, rfl, hq⟩
  obtain ⟨hz1, fd', hr, htt, hff⟩ := lay_one hq
  have HR := Lib.hid hr
  have HT := Lib.hid htt
  have HF := Lib.hid hff
  have hpw := HP.out.keep (htt.keep HAP.out HP.out.low)
  have HPW := Lib.hid hpw
  have HE := Lib.hid hz1
  have HAP2 := Lib.hid (HAP.out.from_ hff HP.out.low)
  clear hq hr htt hff hD hz1
  by_cases hz0 : z = 0
  · subst hz0
    have hjl : Hid (japL L s zs = L ++ [zs]) := Lib.hid (by unfold japL; rw [if_pos HE.out.symm])
    have c2 : W.drew.cell? ⟨bj, 2, none⟩ = some v := hpw.blk.cell 2
    have HNV := Lib.hid hpw.nv
    have HBD := Lib.hid (show Below W.heap.size W W.drew from (Below.refl _ W).drew)
    have g1 : GoodC W.drew zs p cap := by
      by_cases he : zs = []
      · subst he; exact ⟨by simp, At.nil _ _, HZ.out.le, HZ.out.max, HZ.out.nil⟩
      · exact ⟨HZ.out.bytes, HZ.out.at_.blocks fun a ha => HT.out.block a.block (HZ.out.block_lt he a ha) fun hm => HZA.out he a ha (List.mem_append_left _ hm), HZ.out.le, HZ.out.max, HZ.out.nil⟩
    have HCL := Lib.hid (pclone_any zs n p cap W.drew HN.out g1 hm)
    obtain ⟨j, hj, hj1, hj2, hj3⟩ := info_bytes
    obtain ⟨k, hk⟩ : ∃ k, k = ys.length := ⟨_, rfl⟩
    rw [← hk] at hyl
    have HK := Lib.hid hk
    have HO := Lib.hid (show W.drew.ownsRow 0 22 1 v k (ys.map cellS) by rw [HK.out]; exact hpw.own.own)
    clear hpw g1 hk
    go_wp2_with fail
    go_region_law
      ((first
        | (have _t := tkB
           refine step_append_lies _ (by rfl) _ _ _ (by rfl) 0 22 j _ 1 24 Try.underlying26 hj hj1 hj2 hj3 rfl (by omega) v k _ (by rfl) (O3.out.alloc _) ⟨w3.heap.size, 0, none⟩ 1 1 [_] (by rfl) (by rfl) (World.news_of_block (cs := #[_]) (t := 22) (fr := (0, 0)) (heap_alloc_new w3 _)) (by simp [Value.oneCell'])
             (by omega) (by unfold maxLen; omega) (by omega) (by simp) (w3.heap.size + 1) (by simp) ?_
           intro gg cap8 w8 hown8 hgrow hat hlt8
           have c8 : w8.cell? ⟨bj, 2, none⟩ = some v := (hgrow.cell_far _ (by simp; have := HB3.out.lt; omega) (Ne.symm HNV.out)).trans c4
           have z8 : w8.frozen? ⟨bj, 2, none⟩ = false := (show Blk w8 bj (jcells bj bd v) 28 from (hgrow.block bj (by simp; have := HB3.out.lt; omega) (Ne.symm HNV.out)).trans (HB3.out.old _)).free 2
           clear tkB _t)
        | (go_simp
           go_at_call 29
           refine HCL.out.mono ?_
           rintro e w3 ⟨v3, rfl, ho3, hb3⟩
           obtain ⟨q3, c3', rfl, _, _, _, _, _⟩ := own_at ho3.row
           have c3 : w3.cell? ⟨bj, 2, none⟩ = some v := (hb3.cell (World.block_lt_of_cell? W.drew _ c2)).trans c2
           have HB3 := Lib.hid (show Blk w3 bj (jcells bj bd v) 28 from HPW.out.blk.below (HBD.out.trans hb3) HPW.out.blk.lt)
           have c4 : (w3.alloc (Obj.cells #[.slice q3 n c3'] 22)).cell? ⟨bj, 2, none⟩ = some v := (HB3.out.old _).cell 2
           have O3 := Lib.hid (row_blocks8 HO.out fun g e => hb3.block g (HO.out.lt g e).2)
           have HR3 := Lib.hid ho3.row
           have D3 := Lib.hid hb3
           have tkB : True := trivial
           clear ho3 hb3)))
    all_goals
      have hS := PJ.snoc (y := (zs, q3, c3')) (g := gg) (cap := cap8) HPW.out (HBD.out.trans D3.out) ⟨HZ.out.bytes, by have h1 := HR3.out; rw [← HN.out] at h1; exact h1⟩ (by have h1 := hown8; rw [HK.out, ← HN.out] at h1; exact h1) hgrow (hat.imp id fun e => by have := D3.out.size; simp at this; omega)
      rw [← HK.out] at hS
      have HS8 := Lib.hid hS.2
      clear hS
      generalize w8.setCell ⟨bj, 2, none⟩ (.slice (some ⟨gg, 0, none⟩) (k + 1) cap8) = w9 at *
      clear c8 z8 hown8 hgrow hat hlt8 c4 c3 c2 HO O3 HCL HR3 HB3
      go_wp2_with fail
      go_ret
      refine ⟨by rw [← HE.out]; rfl, fd', _, progHeldD.touch HR.out HS8.out.2.1 HAP2.out.symm, ⟨_, _, rfl, ?_, HS8.out.1⟩, (HAP2.out.symm.from_ HS8.out.2.2 (progHeldD.low HR.out)).symm, ?_, fun i hi => ?_⟩
      · show japL L s zs = _
        rw [hjl.out, HL.out, List.map_append]; rfl
      · exact (touch_more HT.out fun i hi => List.mem_append_left _ hi).trans (touch_more HS8.out.2.1 fun i hi => List.mem_append_right _ hi) (From.refl _ _)
      · rcases List.mem_append.1 hi with hi | hi
        · exact (HF.out i hi).imp (List.mem_append_left _) id
        · exact (HS8.out.2.2 i hi).imp (List.mem_append_right _) (Nat.le_trans HT.out.size)
  · have hjl : Hid (japL L s zs = L) := Lib.hid (by unfold japL; rw [if_neg (by rw [← HE.out]; exact hz0)])
    have hq : (z == 0) = false := by rw [beq_eq_false_iff_ne]; exact hz0
    clear hpw hz0
    go_wp2_with fail
    go_ret
    exact ⟨by rw [HE.out]; rfl, fd', fpJ bj v ys, HR.out, ⟨v, ys, rfl, by rw [hjl.out]; exact HL.out, HPW.out⟩, HAP2.out, touch_more HT.out (by simp; intro k hk; exact .inl hk), fun k hk => by
      rcases List.mem_append.1 hk with hk | hk
      · exact (HF.out k hk).imp (List.mem_append_left _) id
      · exact .inl (List.mem_append_right _ hk)⟩
end
section
set_option linter.unusedSimpArgs false
set_option linter.unusedVariables false
open Go.RowKit Go.Shelf Sha Dsk Jrn
set_option maxRecDepth 100000 in
set_option maxHeartbeats 1000000 in
theorem pjsync_any (bd : Nat) (fd : List Nat) (s : DState) (bj : Nat) (fj : List Nat) (L : Rs) (w : World) (hd : ProgDisk w bd fd s) (h : ProgJournal w bj fj (L, bd)) (hap : Apart fd fj) (hs : s.steps ≤ 1000000) :
    Calls Try.prog 9 #[optr bj] w (JDone ProgDisk ProgJournal bd fd bj fj (syncS s) L (i64v (syncE s)) w) := by
  have HPJ := Lib.hid h
  obtain ⟨v, ys, rfl, e, hp⟩ := h
  change L = _ at e
  change PJ w bj bd v ys at hp
  have HON := Lib.hid (pon_any bj bd v w hp.blk)
  have hB := (Below.refl w.heap.size w).alloc (Nat.le_refl _) (Obj.cells #[stepCell (26, optr bj), stepCell (30, optr bd)] 32)
  have HQ := Lib.hid (show Calls Try.prog 25 #[.slice (some ⟨w.heap.size, 0, none⟩) 2 2] (w.alloc (Obj.cells #[stepCell (26, optr bj), stepCell (30, optr bd)] 32)) fun e w' => ∃ z : Int, e = .returned (i64v z) ∧ z = syncE s ∧ ∃ fd', ProgDisk w' bd fd' (syncS s) ∧ Touch fd w w' ∧ From fd fd' w from by
    have hbk := Blk.new w #[stepCell (26, optr bj), stepCell (30, optr bd)] 32
    have hj3 := hp.blk.below hB hp.blk.lt
    have hd3 := progHeldD.on hd hB
    generalize w.alloc (Obj.cells #[stepCell (26, optr bj), stepCell (30, optr bd)] 32) = w3 at *
    refine first_any [(26, optr bj), (30, optr bd)] 2 _ 2 w3 rfl (by omega) ?_
      (fun k W => (k ≤ 1 ∧ W = w3) ∨ (k = 2 ∧ 0 = syncE s ∧ ∃ fd', ProgDisk W bd fd' (syncS s) ∧ Touch fd w W ∧ From fd fd' w)) (fun z W => z = syncE s ∧ ∃ fd', ProgDisk W bd fd' (syncS s) ∧ Touch fd w W ∧ From fd fd' w) (.inl ⟨by omega, rfl⟩) ?_ ?_ ?_
    · intro x hx
      simp only [List.mem_cons, List.mem_singleton, List.not_mem_nil, or_false] at hx
      rcases hx with rfl | rfl
      · exact enters_of Try.func26 (by kernel_rfl) rfl
      · exact enters_of Try.func30 (by kernel_rfl) rfl
    · rintro k W hk (⟨_, rfl⟩ | ⟨rfl, _⟩)
      · exact blk_at hbk
      · omega
    · rintro k x hx W (⟨hk, rfl⟩ | ⟨rfl, _⟩)
      · obtain rfl | rfl : k = 0 ∨ k = 1 := by omega
        · cases hx
          refine (pthere_any bj bd v W hj3).mono ?_
          rintro e W' ⟨rfl, rfl⟩
          exact ⟨0, rfl, fun _ => .inl ⟨by omega, rfl⟩, fun h => absurd rfl h⟩
        · cases hx
          refine (psync_any bd fd s W hd3 (by omega)).mono ?_
          rintro e W' ⟨rfl, fd', hr, ht, hf⟩
          have hq : syncE s = syncE s ∧ ∃ fd', ProgDisk W' bd fd' (syncS s) ∧ Touch fd w W' ∧ From fd fd' w := ⟨rfl, fd', hr, (Touch.of_below hB).trans ht (From.refl _ _), from_old hf hB.size⟩
          exact ⟨_, rfl, fun hz => .inr ⟨rfl, hz.symm, hq.2⟩, fun _ => hq⟩
      · cases hx
    · rintro W (⟨h, _⟩ | ⟨_, h⟩)
      · omega
      · exact h)
  have HAP := Lib.hid hap
  have HLOW := Lib.hid hp.low
  clear hd hp e hB hs hap
  go_enter Try.func9, Try.ntmps9
  go_wp2_with fail
  refine HON.out.mono ?_
  rintro e w1 ⟨rfl, rfl⟩
  go_wp2_with fail
  refine HQ.out.mono ?_
  rintro e W ⟨z, rfl, hz, fd', hr, ht, hf⟩
  have HR := Lib.hid hr
  have HT := Lib.hid ht
  have HF := Lib.hid hf
  have HZ := Lib.hid hz
  clear hr ht hf hz HQ
  go_wp2_with fail
  go_ret
  exact ⟨by rw [HZ.out]; rfl, fd', _, HR.out, progHeldJ.touch HPJ.out HT.out HAP.out, HAP.out.from_ HF.out HLOW.out, touch_more HT.out (by intro k hk; exact List.mem_append_left _ hk), fun k hk => by
    rcases List.mem_append.1 hk with hk | hk
    · exact (HF.out k hk).imp (List.mem_append_left _) id
    · exact .inl (List.mem_append_right _ hk)⟩
/-- What Rewrite leaves, of whatever records that it was given. -/
def RewDone (bd : Nat) (fd : List Nat) (s : DState) (bj : Nat) (v : Value) (ys : List SHdr) (l : Rs) (w : World) (e : Ending) (w' : World) : Prop :=
  e = .returned (i64v (jrwE s l)) ∧ ∃ fd' v' ys', ProgDisk w' bd fd' (jrwS s l) ∧ PJ w' bj bd v' ys' ∧ ys'.map (·.1) = (if jrwE s l = 0 then l else ys.map (·.1)) ∧ Apart fd' (fpJ bj v' ys') ∧ Touch (bj :: fd) w w' ∧ From fd fd' w ∧ From (fpJ bj v ys) (fpJ bj v' ys') w
set_option maxRecDepth 100000 in
set_option maxHeartbeats 2000000 in
theorem pjrew_any (bd : Nat) (fd : List Nat) (s : DState) (bj : Nat) (v : Value) (ys : List SHdr) (l : Rs) (p : Option Addr) (n c : Nat) (bs : List Nat) (w : World) (hd : ProgDisk w bd fd s) (hp : PJ w bj bd v ys) (hap : Apart fd (fpJ bj v ys)) (hs : s.steps ≤ 1000000)
    (hr : RecsIn w p n c l bs) (hbs : Apart bs (bj :: fd)) (hn : n ≤ 1000000) (hx : ∀ x ∈ l, x.length ≤ 1000000) (hfl : Frm.joinE l = 0 → (Frm.frs l).length ≤ 1000000000) :
    Calls Try.prog 10 #[optr bj, .slice p n c] w (RewDone bd fd s bj v ys l w) := by
  have HON := Lib.hid (pon_any bj bd v w hp.blk)
  have HP := Lib.hid hp
  have HD := Lib.hid hd
  have HAP := Lib.hid hap
  have HRC := Lib.hid hr
  have HBS := Lib.hid hbs
  have HS := Lib.hid hs
  have HX := Lib.hid hx
  have HFL := Lib.hid hfl
  have HN := Lib.hid hn
  clear hd hp hap hs hr hbs hx hfl hn
  go_enter Try.func10, Try.ntmps10
  go_wp2_with fail
  refine HON.out.mono ?_
  rintro e w1 ⟨rfl, rfl⟩
  clear HON
  rename World => w
  go_wp2_with fail
  have hD : Draft w ((w.alloc (Obj.cells #[optr bd, Value.slice p n c, Value.slice none 0 0] 59)).alloc (Obj.cells #[stepCell (26, optr bj), stepCell (27, optr w.heap.size), stepCell (31, optr w.heap.size), stepCell (32, optr bd)] 32))
      w.heap.size (w.heap.size + 1) bd p n c l (rwSteps bj w.heap.size bd) := by
    have hb2 := Blk.new w #[optr bd, Value.slice p n c, Value.slice none 0 0] 59
    obtain ⟨a2, ha2⟩ : ∃ x, x = w.alloc (Obj.cells #[optr bd, Value.slice p n c, Value.slice none 0 0] 59) := ⟨_, rfl⟩
    have hs2 := World.size_alloc w (Obj.cells #[optr bd, Value.slice p n c, Value.slice none 0 0] 59)
    have hB2 := (Below.refl w.heap.size w).alloc (Nat.le_refl _) (Obj.cells #[optr bd, Value.slice p n c, Value.slice none 0 0] 59)
    rw [← ha2] at hb2 hs2 hB2 ⊢
    have hb3 := Blk.new a2 #[stepCell (26, optr bj), stepCell (27, optr w.heap.size), stepCell (31, optr w.heap.size), stepCell (32, optr bd)] 32
    have hB3 := (Below.refl a2.heap.size a2).alloc (Nat.le_refl _) (Obj.cells #[stepCell (26, optr bj), stepCell (27, optr w.heap.size), stepCell (31, optr w.heap.size), stepCell (32, optr bd)] 32)
    rw [hs2] at hb3
    exact ⟨hB2.trans (hB3.mono (by omega)), by omega, by omega, by omega, hb2.below hB3 hb2.lt, (HRC.out.plain.below hB2).below hB3, by have := HN.out; omega, hb3⟩
  refine (first_rw bj v hD HP.out.blk HD.out HS.out HFL.out).mono ?_
  rintro e W ⟨z, rfl, hz1, fd', hr, htt, hff⟩
  have HR := Lib.hid hr
  have HT := Lib.hid htt
  have HF := Lib.hid hff
  have HPW := Lib.hid (HP.out.keep (htt.keep HAP.out HP.out.low))
  have HE := Lib.hid hz1
  clear hr htt hff hD hz1
  by_cases hz0 : z = 0
  · subst hz0
    have HW := Lib.hid (HRC.out.touch HT.out fun k h1 h2 => HBS.out k h1 (List.mem_cons_of_mem _ h2))
    obtain ⟨ys0, hy1, hy2, hy3, _⟩ := HW.out.recs
    have hln : n = ys0.length := by rw [HW.out.len, ← hy1, List.length_map]
    have hB1 := (Below.refl W.heap.size W).alloc (Nat.le_refl _) (.cells #[.slice p n c] 26)
    have hbx := Boxed.new W 26 (.slice p n c)
    have hs1 := World.size_alloc W (.cells #[.slice p n c] 26)
    have HV := Lib.hid (jvalues_any p n c W)
    obtain ⟨W1, hW1⟩ : ∃ x, x = W.alloc (.cells #[.slice p n c] 26) := ⟨_, rfl⟩
    rw [← hW1] at hB1 hbx HV hs1
    have HCP := Lib.hid (copied_in 53 #[.pointer (some ⟨W.heap.size, 0, none⟩)] (enters_of Try.func53 (by kernel_rfl) rfl) ys0 W1
      (fun y hy => ⟨(hy3 y hy).1.below hB1, HX.out y.1 (by rw [← hy1]; exact List.mem_map_of_mem hy)⟩) (by rw [← hln]; exact HN.out)
      (jvalues1_in 4 (by omega) W.heap.size p c ys0 W1 (by rw [← hln]; exact hbx.cell) (hy2.below hB1) (by rw [← hln]; exact HN.out)))
    rw [hy1] at HCP
    have HB1 := Lib.hid hB1
    have HS1 := Lib.hid hs1
    clear hy1 hy2 hy3 hln hB1 hbx hW1 hs1 HW
    go_wp2_with fail
    refine HV.out.mono ?_
    rintro e w' ⟨rfl, e1⟩
    rw [e1]
    clear e1 w'
    go_wp2_with fail
    refine HCP.out.mono ?_
    rintro e w2 ⟨v2, zs, rfl, hz, ho, hb⟩
    obtain ⟨q, cq, rfl, _, _, _, _, _⟩ := own_at ho.own
    have hb2 := HB1.out.trans (hb.mono HB1.out.size)
    have hbk := HPW.out.blk.below hb2 HPW.out.blk.lt
    have c2 : w2.cell? ⟨bj, 2, none⟩ = some v := hbk.cell 2
    have z2 : w2.frozen? ⟨bj, 2, none⟩ = false := hbk.free 2
    have HBK := Lib.hid hbk
    have HB2 := Lib.hid hb2
    have HO := Lib.hid ho
    have HZS := Lib.hid hz
    obtain ⟨m, hm⟩ : ∃ m, m = zs.length := ⟨_, rfl⟩
    have HM := Lib.hid hm
    rw [← hm]
    clear hb hb2 hbk ho hz HV HCP hm
    go_wp2_with fail
    go_ret
    have hbj := HP.out.blk.lt
    have hlowz : ∀ k ∈ fpJ bj (.slice q m cq) zs, k = bj ∨ W1.heap.size ≤ k := fun k hk => by
      rcases fpJ_mem.1 hk with h | h | ⟨y, hy, h⟩
      · exact .inl h
      · exact .inr (HO.out.own.lt k (by rw [← HM.out]; exact h)).1
      · exact .inr ((HO.out.good y hy).own.lt k h).1
    have hbW : bj < W.heap.size := HPW.out.blk.lt
    have hsW1 := HS1.out
    have hTw : Touch (bj :: fd) w (w2.setCell ⟨bj, 2, none⟩ (.slice q m cq)) := Touch.setIn ((touch_more HT.out fun i hi => List.mem_cons_of_mem _ hi).trans (Touch.of_below HB2.out) (From.refl _ _)) (by simp) _
    refine ⟨by rw [← HE.out]; rfl, fd', .slice q m cq, zs, ?_, ⟨HBK.out.set 2 _, ?_⟩, ?_, fun k hk hk2 => ?_, hTw, HF.out, fun k hk => ?_⟩
    · refine progHeldD.keep HR.out fun k hk => ?_
      have hl := progHeldD.low HR.out k hk
      refine (Below.heap_setCell _ _ _ _ fun e => ?_).trans (HB2.out.block k hl)
      have e' : k = bj := e
      rcases HF.out k hk with h | h
      · exact HAP.out k h (fpJ_mem.2 (.inl e'))
      · omega
    · refine OwnS.blocks (HM.out ▸ HO.out.weak (Nat.zero_le _)) (fun k hk => Below.heap_setCell _ _ _ _ fun e => ?_) fun y hy k hk => Below.heap_setCell _ _ _ _ fun e => ?_
      · have e' : k = bj := e
        have := (HO.out.own.lt k (by rw [← HM.out]; exact hk)).1
        omega
      · have e' : k = bj := e
        have := ((HO.out.good y hy).own.lt k hk).1
        omega
    · rw [if_pos HE.out.symm]; exact HZS.out
    · have hl := progHeldD.low HR.out k hk
      rcases hlowz k hk2 with e | e
      · rcases HF.out k hk with h | h
        · exact HAP.out k h (fpJ_mem.2 (.inl e))
        · omega
      · omega
    · rcases hlowz k hk with e | e
      · exact .inl (fpJ_mem.2 (.inl e))
      · have := HT.out.size; exact .inr (by omega)
  · have hq : (z == 0) = false := by rw [beq_eq_false_iff_ne]; exact hz0
    have HZ0 := Lib.hid hz0
    clear hz0
    go_wp2_with fail
    go_ret
    exact ⟨by rw [HE.out]; rfl, fd', v, ys, HR.out, HPW.out, by rw [if_neg (by rw [← HE.out]; exact HZ0.out)], HAP.out.from_ HF.out HP.out.low, touch_more HT.out fun i hi => List.mem_cons_of_mem _ hi, HF.out, From.refl _ _⟩
end
end Go.Proofs.Ythopfpfmliookaa
