/-
  The reference's disk: synced, switched, read, set, crashed, wiped. It does what disks are asked to do.
-/
import Derived.Test.YtooljhdfmfkpeaaDkC
namespace Go.Proofs.Ytooljhdfmfkpeaa
set_option linter.unusedSimpArgs false
set_option linter.unusedVariables false
open Go.RowKit Sha Dsk
theorem row_take {w : World} {B n g cap : Nat} {e : TypeId} {xs : List Value} (h : w.ownsRow B e 1 (.slice (some ⟨g, 0, none⟩) n cap) n xs) (k : Nat) (hk : k ≤ n) : w.ownsRow B e 1 (.slice (some ⟨g, 0, none⟩) k cap) k (xs.take k) := by
  have hx := h.1
  rcases h.2 with ⟨h', _⟩ | ⟨g', cap', cur, hv, hB, hh, h1, h2, h3, h4⟩
  · cases h'
  · cases hv
    refine ⟨by rw [List.length_take]; omega, .inr ⟨g, cap, cur, rfl, hB, hh, by omega, h2, h3, ?_⟩⟩
    rw [← h4, List.take_take, Nat.mul_one, Nat.mul_one, Nat.min_eq_left hk]
theorem row_nil_of {w : World} {B : Nat} {e : TypeId} : w.ownsRow B e 1 (.slice none 0 0) 0 [] := World.ownsRow_nil _ _ _ _
set_option maxRecDepth 100000 in
set_option maxHeartbeats 1000000 in
theorem rsync_any (b : Nat) (fp : List Nat) (s : DState) (w : World) (h : RefDisk w b fp s) (hs : s.steps ≤ 1000000000) :
    Calls Try.prog 41 #[optr b] w (ODone RefDisk b fp (syncS s) (i64v (syncE s)) w) := by
  obtain ⟨vL, vA, rfl, h⟩ := h
  have HR := Lib.hid h
  have c6 : w.cell? ⟨b, 6, none⟩ = some (.bool s.out) := h.blk.cell 6
  have HOK := Lib.hid (sync_ok h.ok)
  by_cases ho : s.out = true
  · have HE := Lib.hid (show syncE s = 11 from if_pos ho)
    have HS := Lib.hid (show syncS s = s from if_pos ho)
    rw [ho] at c6
    clear h ho hs
    go_enter Try.func41, Try.ntmps41
    go_wp2_with fail
    go_ret
    exact ⟨by rw [HE.out]; rfl, _, by rw [HS.out]; exact ⟨vL, vA, rfl, HR.out⟩, Touch.refl _ _, From.refl _ _⟩
  · have ho' : s.out = false := by simpa using ho
    have HST := Lib.hid (rstep_any b vL vA s w h hs ho')
    rw [ho'] at c6
    by_cases h0 : s.left = 0
    · have HE := Lib.hid (show syncE s = 11 by unfold syncE told; rw [if_neg ho, if_pos h0])
      have HS := Lib.hid (show syncS s = Dsk.step s by unfold syncS; rw [if_neg ho, if_pos h0])
      unfold RStepDone at HST
      rw [show (!decide (s.left = 0)) = false by simp [h0]] at HST
      clear h ho ho' hs h0
      go_enter Try.func41, Try.ntmps41
      go_wp2_with fail
      refine HST.out.mono ?_
      rintro e w1 ⟨rfl, hr1, ht1⟩
      have R1 := Lib.hid hr1
      have T1 := Lib.hid ht1
      clear hr1 ht1
      go_wp2_with fail
      go_ret
      exact ⟨by rw [HE.out]; rfl, _, by rw [HS.out]; exact ⟨vL, vA, rfl, R1.out⟩, Touch.of_block T1.out, From.refl _ _⟩
    · have HE := Lib.hid (show syncE s = 0 by unfold syncE told; rw [if_neg ho, if_neg h0])
      have HS := Lib.hid (show syncS s = { Dsk.step s with firm := s.log.length } by unfold syncS; rw [if_neg ho, if_neg h0])
      unfold RStepDone at HST
      rw [show (!decide (s.left = 0)) = true by simp [h0]] at HST
      clear h ho ho' hs h0
      go_enter Try.func41, Try.ntmps41
      go_wp2_with fail
      refine HST.out.mono ?_
      rintro e w1 ⟨rfl, hr1, ht1⟩
      obtain ⟨pL, cL, pA, cA, e1, e2⟩ := hr1.lens
      have d0 : w1.cell? ⟨b, 0, none⟩ = some vL := hr1.blk.cell 0
      have d1 : w1.cell? ⟨b, 1, none⟩ = some (i64v (Dsk.step s).firm) := hr1.blk.cell 1
      have f1 : w1.frozen? ⟨b, 1, none⟩ = false := hr1.blk.free 1
      rw [e1] at d0
      have R1 := Lib.hid hr1
      have T1 := Lib.hid ht1
      clear hr1 ht1 e1 e2
      go_wp2_with fail
      go_ret
      refine ⟨by rw [HE.out]; rfl, _, ⟨vL, vA, rfl, ?_⟩, Touch.of_block (T1.out.setIn (by simp) _), From.refl _ _⟩
      refine R1.out.turn ?_ (fun k hk => Below.heap_setCell _ _ _ _ hk) (by rw [HS.out]) (by rw [HS.out]) HOK.out
      rw [HS.out]
      exact R1.out.blk.set 1 _
set_option maxRecDepth 100000 in
set_option maxHeartbeats 1000000 in
theorem rswitch_any (b : Nat) (fp : List Nat) (s : DState) (w : World) (h : RefDisk w b fp s) (hs : s.steps ≤ 1000000000) :
    Calls Try.prog 43 #[optr b] w (ODone RefDisk b fp (swS s) (i64v (syncE s)) w) := by
  obtain ⟨vL, vA, rfl, h⟩ := h
  have HR := Lib.hid h
  have c6 : w.cell? ⟨b, 6, none⟩ = some (.bool s.out) := h.blk.cell 6
  have HOK := Lib.hid (sw_ok h.ok)
  by_cases ho : s.out = true
  · have HE := Lib.hid (show syncE s = 11 from if_pos ho)
    have HS := Lib.hid (show swS s = s from if_pos ho)
    rw [ho] at c6
    clear h ho hs
    go_enter Try.func43, Try.ntmps43
    go_wp2_with fail
    go_ret
    exact ⟨by rw [HE.out]; rfl, _, by rw [HS.out]; exact ⟨vL, vA, rfl, HR.out⟩, Touch.refl _ _, From.refl _ _⟩
  · have ho' : s.out = false := by simpa using ho
    have HST := Lib.hid (rstep_any b vL vA s w h hs ho')
    rw [ho'] at c6
    by_cases h0 : s.left = 0
    · have HE := Lib.hid (show syncE s = 11 by unfold syncE told; rw [if_neg ho, if_pos h0])
      have HS := Lib.hid (show swS s = Dsk.step s by unfold swS; rw [if_neg ho, if_pos h0])
      unfold RStepDone at HST
      rw [show (!decide (s.left = 0)) = false by simp [h0]] at HST
      clear h ho ho' hs h0
      go_enter Try.func43, Try.ntmps43
      go_wp2_with fail
      refine HST.out.mono ?_
      rintro e w1 ⟨rfl, hr1, ht1⟩
      have R1 := Lib.hid hr1
      have T1 := Lib.hid ht1
      clear hr1 ht1
      go_wp2_with fail
      go_ret
      exact ⟨by rw [HE.out]; rfl, _, by rw [HS.out]; exact ⟨vL, vA, rfl, R1.out⟩, Touch.of_block T1.out, From.refl _ _⟩
    · have HE := Lib.hid (show syncE s = 0 by unfold syncE told; rw [if_neg ho, if_neg h0])
      have HS := Lib.hid (show swS s = { Dsk.step s with log := s.next, firm := s.next.length, next := [] } by unfold swS; rw [if_neg ho, if_neg h0])
      unfold RStepDone at HST
      rw [show (!decide (s.left = 0)) = true by simp [h0]] at HST
      clear h ho ho' hs h0
      go_enter Try.func43, Try.ntmps43
      go_wp2_with fail
      refine HST.out.mono ?_
      rintro e w1 ⟨rfl, hr1, ht1⟩
      obtain ⟨pL, cL, pA, cA, e1, e2⟩ := hr1.lens
      have d0 : w1.cell? ⟨b, 0, none⟩ = some vL := hr1.blk.cell 0
      have d1 : w1.cell? ⟨b, 1, none⟩ = some (i64v (Dsk.step s).firm) := hr1.blk.cell 1
      have d2 : w1.cell? ⟨b, 2, none⟩ = some vA := hr1.blk.cell 2
      have f0 : w1.frozen? ⟨b, 0, none⟩ = false := hr1.blk.free 0
      have f1 : w1.frozen? ⟨b, 1, none⟩ = false := hr1.blk.free 1
      have f2 : w1.frozen? ⟨b, 2, none⟩ = false := hr1.blk.free 2
      rw [e1] at d0
      rw [e2] at d2
      have R1 := Lib.hid hr1
      have T1 := Lib.hid ht1
      have HV := Lib.hid e2
      clear hr1 ht1 e1 e2
      go_wp2_with fail
      go_ret
      have hb := ((R1.out.blk.set 0 vA).set 1 (i64v (Dsk.step s).next.length)).set 2 (.slice none 0 0)
      have hk : ∀ k, k ≠ b → (((w1.setCell ⟨b, 0, none⟩ vA).setCell ⟨b, 1, none⟩ (i64v (Dsk.step s).next.length)).setCell ⟨b, 2, none⟩ (.slice none 0 0)).heap[k]? = w1.heap[k]? := fun k hk => ((Below.heap_setCell _ _ _ _ hk).trans (Below.heap_setCell _ _ _ _ hk)).trans (Below.heap_setCell _ _ _ _ hk)
      have hT := (((T1.out.setIn (g := b) (i := 0) (by simp) vA).setIn (g := b) (i := 1) (by simp) (i64v (Dsk.step s).next.length)).setIn (g := b) (i := 2) (by simp) (.slice none 0 0))
      refine ⟨by rw [HE.out]; rfl, fpD b vA (.slice none 0 0), ⟨vA, .slice none 0 0, rfl, ?_⟩, ?_, fun k hk' => ?_⟩
      · rw [HV.out] at hb hk ⊢
        rw [HS.out]
        refine ⟨hb, ?_, row_nil_of, by have := HOK.out; rwa [HS.out] at this, by rw [← HV.out]; exact R1.out.nA, by simp [Value.ownBlock], by simp [Value.ownBlock]⟩
        rw [← HV.out] at hk ⊢
        exact row_blocks8 R1.out.next fun g hg => hk g fun e => R1.out.nA (by rw [hg, e])
      · rw [HV.out] at hT
        exact Touch.of_block hT
      · rcases fpD_mem.1 hk' with rfl | h' | h'
        · exact .inl (fpD_mem.2 (.inl rfl))
        · exact .inl (fpD_mem.2 (.inr (.inr h')))
        · cases h'
set_option maxRecDepth 100000 in
set_option maxHeartbeats 1000000 in
theorem rread_any (b : Nat) (fp : List Nat) (s : DState) (w : World) (h : RefDisk w b fp s) :
    Calls Try.prog 50 #[optr b] w (DReadDone RefDisk b fp s w) := by
  obtain ⟨vL, vA, rfl, h⟩ := h
  have HR := Lib.hid h
  have c6 : w.cell? ⟨b, 6, none⟩ = some (.bool s.out) := h.blk.cell 6
  by_cases ho : s.out = true
  · have HE := Lib.hid (show readE s = 11 from if_pos ho)
    have HS := Lib.hid (show readV s = [] from if_pos ho)
    rw [ho] at c6
    clear h ho
    go_enter Try.func50, Try.ntmps50
    go_wp2_with fail
    go_ret2
    exact ⟨.slice none 0 0, _, by rw [HE.out]; rfl, by rw [HS.out]; exact Own8.nil _ _ _, ⟨vL, vA, rfl, HR.out⟩, Touch.refl _ _, From.refl _ _, fun g hg => by cases hg⟩
  · have HE := Lib.hid (show readE s = 0 from if_neg ho)
    have HS := Lib.hid (show readV s = s.log from if_neg ho)
    have ho' : s.out = false := by simpa using ho
    rw [ho'] at c6
    obtain ⟨pL, cL, hv, hl, hm, hA, hx, hnil⟩ := own_at h.log
    rw [List.length_map] at hx
    have hsm : s.log.length ≤ 1000000 := by have := h.ok.small; omega
    obtain ⟨n, hn⟩ : ∃ n, n = s.log.length := ⟨_, rfl⟩
    rw [← hn] at hv hl hsm
    have HN := Lib.hid hn
    have HA := Lib.hid hA
    have HNL := Lib.hid hnil
    have HO := Lib.hid (Own8.mk (World.ownsRow_made (base := w.heap.size) (size := 1) (e := 5) w #[] 0 (Nat.le_refl _) (by decide) rfl) (ints_block (n := 0) (c := 0) (heap_alloc_new _ _) (by simp)))
    have HBA := Lib.hid ((Below.refl w.heap.size w).alloc (Nat.le_refl _) (Obj.cells #[] 5))
    have ca : (w.alloc (Obj.cells #[] 5)).cell? ⟨b, 0, none⟩ = some (.slice pL n cL) := by rw [← hv]; exact (h.blk.old _).cell 0
    have HLOW := Lib.hid h.low
    clear h ho ho' hv hA hx hnil hn
    go_enter Try.func50, Try.ntmps50
    go_wp2_with (at_builtin; refine wpList_app8 rfl (.tmp 8) (.tmp 12) 32 rfl w.heap.size 5 Try.underlying32 kbyte_info _ 0 [] rfl HO.out pL n cL (s.log.map v8) rfl (HA.out.alloc _) (by rw [List.length_map]; exact HN.out.symm) HNL.out hl (by intro u hu; obtain ⟨x, _, rfl⟩ := List.mem_map.1 hu; exact ⟨x, rfl⟩) (by omega) (by unfold maxLen; omega) (by simp) ?_; intro v5 w5 hown5 hg5 hb5 hs5; simp only [Nat.zero_add, List.nil_append] at hown5; have O5 := Lib.hid hown5; have B5 := Lib.hid (HBA.out.trans hb5); clear hown5 hg5 hb5)
    go_ret2
    refine ⟨v5, _, by rw [HE.out]; rfl, by rw [HS.out, ← HN.out]; exact O5.out, ⟨vL, vA, rfl, HR.out.keep fun k hk => B5.out.block k (HLOW.out k hk)⟩, Touch.of_below B5.out, From.refl _ _, fun g hg e => ?_⟩
    have h1 := (O5.out.row.lt g hg).1
    have h2 := HLOW.out g e
    omega
set_option maxHeartbeats 400000 in
theorem rroom_any (b : Nat) (fp : List Nat) (s : DState) (n : Int) (w : World) (h : RefDisk w b fp s) (hn : fit64 n) :
    Calls Try.prog 44 #[optr b, i64v n] w (ODone RefDisk b fp (roomS s n) (i64v (roomE n)) w) := by
  obtain ⟨vL, vA, rfl, h⟩ := h
  obtain ⟨hn1, hn2⟩ := hn
  have HR := Lib.hid h
  have c3 : w.cell? ⟨b, 3, none⟩ = some (i64v s.room) := h.blk.cell 3
  have f3 : w.frozen? ⟨b, 3, none⟩ = false := h.blk.free 3
  have HOK := Lib.hid (room_ok h.ok n)
  by_cases ho : n < 0 ∨ 1000000 < n
  · have HE := Lib.hid (show roomE n = 2 from newE_out ho)
    have HS := Lib.hid (show roomS s n = s from if_neg (by omega))
    have hdone : ODone RefDisk b (fpD b vL vA) (roomS s n) (i64v (roomE n)) w (.returned (i64v 2)) w := ⟨by rw [HE.out], _, by rw [HS.out]; exact ⟨vL, vA, rfl, HR.out⟩, Touch.refl _ _, From.refl _ _⟩
    have HD := Lib.hid hdone
    clear h hdone
    by_cases h0 : n < 0
    · clear ho
      go_enter Try.func44, Try.ntmps44
      go_wp2_with fail
      go_ret
      exact HD.out
    · have h3 : 1000000 < n := by omega
      clear ho
      go_enter Try.func44, Try.ntmps44
      go_wp2_with fail
      go_ret
      exact HD.out
  · have HE := Lib.hid (show roomE n = 0 from newE_in (by omega))
    have HS := Lib.hid (show roomS s n = { s with room := n.toNat } from if_pos (by omega))
    have h0 : ¬ n < 0 := by omega
    have h3 : ¬ 1000000 < n := by omega
    have HT := Lib.hid (show ((n.toNat : Nat) : Int) = n by omega)
    clear h ho
    go_enter Try.func44, Try.ntmps44
    go_wp2_with fail
    go_ret
    refine ⟨by rw [HE.out]; rfl, _, ⟨vL, vA, rfl, ?_⟩, (Touch.refl _ w).setIn (fpD_mem.2 (.inl rfl)) _, From.refl _ _⟩
    refine HR.out.turn ?_ (fun k hk => Below.heap_setCell _ _ _ _ hk) (by rw [HS.out]) (by rw [HS.out]) HOK.out
    rw [HS.out]
    simp only [HT.out]
    exact HR.out.blk.set 3 _
set_option maxHeartbeats 400000 in
theorem rfuse_any (b : Nat) (fp : List Nat) (s : DState) (n : Int) (w : World) (h : RefDisk w b fp s) (hn : fit64 n) :
    Calls Try.prog 45 #[optr b, i64v n] w (ODone RefDisk b fp (fuseS s n) (i64v (fuseE n)) w) := by
  obtain ⟨vL, vA, rfl, h⟩ := h
  obtain ⟨hn1, hn2⟩ := hn
  have HR := Lib.hid h
  have c5 : w.cell? ⟨b, 5, none⟩ = some (i64v s.left) := h.blk.cell 5
  have f5 : w.frozen? ⟨b, 5, none⟩ = false := h.blk.free 5
  have HOK := Lib.hid (fuse_ok h.ok hn2)
  by_cases h0 : n < 0
  · have HE := Lib.hid (show fuseE n = 2 from if_pos h0)
    have HS := Lib.hid (show fuseS s n = s from if_pos h0)
    clear h
    go_enter Try.func45, Try.ntmps45
    go_wp2_with fail
    go_ret
    exact ⟨by rw [HE.out]; rfl, _, by rw [HS.out]; exact ⟨vL, vA, rfl, HR.out⟩, Touch.refl _ _, From.refl _ _⟩
  · have HE := Lib.hid (show fuseE n = 0 from if_neg h0)
    have HS := Lib.hid (show fuseS s n = { s with left := n } from if_neg h0)
    clear h
    go_enter Try.func45, Try.ntmps45
    go_wp2_with fail
    go_ret
    refine ⟨by rw [HE.out]; rfl, _, ⟨vL, vA, rfl, ?_⟩, (Touch.refl _ w).setIn (fpD_mem.2 (.inl rfl)) _, From.refl _ _⟩
    refine HR.out.turn ?_ (fun k hk => Below.heap_setCell _ _ _ _ hk) (by rw [HS.out]) (by rw [HS.out]) HOK.out
    rw [HS.out]
    exact HR.out.blk.set 5 _
/-- The block turned, the log's row cut or dropped, the next one dropped. -/
theorem RD.shorn {w w' : World} {b : Nat} {vL vA vL' : Value} {s s' : DState} (h : RD w b vL vA s) (hb : Blk w' b [vL', i64v s'.firm, .slice none 0 0, i64v s'.room, i64v s'.steps, i64v s'.left, .bool s'.out] 64) (hk : ∀ k, k ≠ b → w'.heap[k]? = w.heap[k]?) (hl : w.ownsRow 0 5 1 vL' s'.log.length (s'.log.map v8)) (ho : vL'.ownBlock = vL.ownBlock ∨ vL'.ownBlock = none) (hn : s'.next = []) (hok : Ok s') : RD w' b vL' (.slice none 0 0) s' ∧ From (fpD b vL vA) (fpD b vL' (.slice none 0 0)) w := by
  have hne : vL'.ownBlock ≠ some b := by
    rcases ho with e | e
    · rw [e]; exact h.nL
    · rw [e]; simp
  refine ⟨⟨hb, row_blocks8 hl fun g hg => hk g fun e => hne (by rw [hg, e]), by rw [hn]; exact row_nil_of, hok, hne, by simp [Value.ownBlock], by simp [Value.ownBlock]⟩, fun k hk => ?_⟩
  rcases fpD_mem.1 hk with rfl | h' | h'
  · exact .inl (fpD_mem.2 (.inl rfl))
  · rcases ho with e | e
    · exact .inl (fpD_mem.2 (.inr (.inl (by rw [← e]; exact h'))))
    · rw [e] at h'; cases h'
  · cases h'
set_option maxHeartbeats 1000000 in
theorem rwipe_any (b : Nat) (fp : List Nat) (s : DState) (w : World) (h : RefDisk w b fp s) :
    Calls Try.prog 47 #[optr b] w (ODone RefDisk b fp (wipeS s) (i64v 0) w) := by
  obtain ⟨vL, vA, rfl, h⟩ := h
  have HR := Lib.hid h
  have hc : ∀ i, w.cell? ⟨b, i, none⟩ = _ := h.blk.cell
  have c0 : w.cell? ⟨b, 0, none⟩ = some vL := hc 0
  have c1 : w.cell? ⟨b, 1, none⟩ = some (i64v s.firm) := hc 1
  have c2 : w.cell? ⟨b, 2, none⟩ = some vA := hc 2
  have c5 : w.cell? ⟨b, 5, none⟩ = some (i64v s.left) := hc 5
  have c6 : w.cell? ⟨b, 6, none⟩ = some (.bool s.out) := hc 6
  have f0 : w.frozen? ⟨b, 0, none⟩ = false := h.blk.free 0
  have f1 : w.frozen? ⟨b, 1, none⟩ = false := h.blk.free 1
  have f2 : w.frozen? ⟨b, 2, none⟩ = false := h.blk.free 2
  have f5 : w.frozen? ⟨b, 5, none⟩ = false := h.blk.free 5
  have f6 : w.frozen? ⟨b, 6, none⟩ = false := h.blk.free 6
  have HOK := Lib.hid (wipe_ok h.ok)
  clear h hc
  go_enter Try.func47, Try.ntmps47
  go_wp2_with fail
  go_ret
  have hb := ((((HR.out.blk.set 0 (.slice none 0 0)).set 2 (.slice none 0 0)).set 1 (i64v 0)).set 5 (i64v (-1))).set 6 (.bool false)
  have hT : Touch (fpD b vL vA) w _ := (((((Touch.refl _ w).setIn (g := b) (i := 0) (fpD_mem.2 (.inl rfl)) (.slice none 0 0)).setIn (g := b) (i := 2) (fpD_mem.2 (.inl rfl)) (.slice none 0 0)).setIn (g := b) (i := 1) (fpD_mem.2 (.inl rfl)) (i64v 0)).setIn (g := b) (i := 5) (fpD_mem.2 (.inl rfl)) (i64v (-1))).setIn (g := b) (i := 6) (fpD_mem.2 (.inl rfl)) (.bool false)
  have h2 := HR.out.shorn (s' := wipeS s) (vL' := .slice none 0 0) hb (fun k hk => ((((Below.heap_setCell _ _ _ _ hk).trans (Below.heap_setCell _ _ _ _ hk)).trans (Below.heap_setCell _ _ _ _ hk)).trans (Below.heap_setCell _ _ _ _ hk)).trans (Below.heap_setCell _ _ _ _ hk)) row_nil_of (.inr rfl) rfl HOK.out
  exact ⟨rfl, _, ⟨_, _, rfl, h2.1⟩, hT, h2.2⟩
end Go.Proofs.Ytooljhdfmfkpeaa
