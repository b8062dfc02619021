/-
  The program's disks: wiped, their room set, seen, copied.
-/
import Derived.Test.YtooljhdfmfkpeaaDkZf
namespace Go.Proofs.Ytooljhdfmfkpeaa
set_option linter.unusedSimpArgs false
set_option linter.unusedVariables false
open Go.RowKit Sha Dsk
set_option maxRecDepth 100000 in
set_option maxHeartbeats 1000000 in
theorem pwipe_any (b : Nat) (fp : List Nat) (s : DState) (w : World) (h : ProgDisk w b fp s) :
    Calls Try.prog 13 #[optr b] w (ODone ProgDisk b fp (wipeS s) (i64v 0) w) := by
  obtain ⟨vL, vA, rfl, h⟩ := h
  have HR := Lib.hid h
  have HC := Lib.hid (pnone_any b vL vA s w h)
  have c1 : w.cell? ⟨b, 1, none⟩ = some vL := h.blk.cell 1
  have f1 : w.frozen? ⟨b, 1, none⟩ = false := h.blk.free 1
  have c2 : w.cell? ⟨b, 2, none⟩ = some (i64v s.firm) := h.blk.cell 2
  have f2 : w.frozen? ⟨b, 2, none⟩ = false := h.blk.free 2
  clear h
  go_enter Try.func13, Try.ntmps13
  go_wp2_with fail
  refine HC.out.mono ?_
  rintro e w1 ⟨rfl, rfl⟩
  go_wp2_with fail
  have hB := (HR.out.blk.set 1 (.slice none 0 0)).set 2 (i64v 0)
  have hk : ∀ k, k ≠ b → ((w1.setCell ⟨b, 1, none⟩ (.slice none 0 0)).setCell ⟨b, 2, none⟩ (.int .i64 0)).heap[k]? = w1.heap[k]? := fun k hk => (Below.heap_setCell _ _ _ _ hk).trans (Below.heap_setCell _ _ _ _ hk)
  have hT : Touch [b] w1 ((w1.setCell ⟨b, 1, none⟩ (.slice none 0 0)).setCell ⟨b, 2, none⟩ (.int .i64 0)) := (((Touch.refl _ w1).setIn (g := b) (i := 1) (by simp) (.slice none 0 0)).setIn (g := b) (i := 2) (by simp) (.int .i64 0))
  have hP : PD ((w1.setCell ⟨b, 1, none⟩ (.slice none 0 0)).setCell ⟨b, 2, none⟩ (.int .i64 0)) b (.slice none 0 0) vA { s with log := [], firm := 0 } := by
    have := HR.out.ok.small
    exact ⟨hB, World.ownsRow_nil _ _ _ _, row_blocks8 HR.out.next fun g hg => hk g fun e => HR.out.nA (by rw [hg, e]), ⟨Nat.le_refl _, by simp only [List.length_nil]; omega, HR.out.ok.room, HR.out.ok.left, by simp, HR.out.ok.next⟩, by simp [Value.ownBlock], HR.out.nA, by simp [Value.ownBlock]⟩
  generalize (w1.setCell ⟨b, 1, none⟩ (.slice none 0 0)).setCell ⟨b, 2, none⟩ (.int .i64 0) = w2 at *
  refine (prise_any b _ vA _ w2 hP).mono ?_
  rintro e w3 ⟨rfl, fp3, hr, ht, hf⟩
  have HR3 := Lib.hid hr
  have HT3 := Lib.hid ht
  have HF3 := Lib.hid hf
  have HT2 := Lib.hid hT
  clear hr ht hf hP hT hk hB
  go_wp2_with fail
  go_ret
  have hfp : ∀ k, k ∈ fpP b (.slice none 0 0) vA → k ∈ fpP b vL vA := fun k hk => by
    rcases fpP_mem.1 hk with h' | h' | h'
    · exact fpP_mem.2 (.inl h')
    · cases h'
    · exact fpP_mem.2 (.inr (.inr h'))
  refine ⟨rfl, fp3, HR3.out, (Touch.of_blockP HT2.out).trans HT3.out (fun k hk => .inl (hfp k hk)), fun k hk => ?_⟩
  rcases HF3.out k hk with h' | h'
  · exact .inl (hfp k h')
  · exact .inr (Nat.le_trans HT2.out.size h')
set_option maxHeartbeats 400000 in
theorem proom_any (b : Nat) (fp : List Nat) (s : DState) (n : Int) (w : World) (h : ProgDisk w b fp s) (hn : fit64 n) :
    Calls Try.prog 25 #[optr b, i64v n] w (ODone ProgDisk b fp (roomS s n) (i64v (roomE n)) w) := by
  obtain ⟨vL, vA, rfl, h⟩ := h
  obtain ⟨hn1, hn2⟩ := hn
  have HR := Lib.hid h
  have HC := Lib.hid (pnone_any b vL vA s w h)
  have c4 : w.cell? ⟨b, 4, none⟩ = some (i64v s.room) := h.blk.cell 4
  have f4 : w.frozen? ⟨b, 4, none⟩ = false := h.blk.free 4
  have HOK := Lib.hid (room_ok h.ok n)
  by_cases ho : 0 ≤ n ∧ n ≤ 1000000
  · have HE := Lib.hid (show roomE n = 0 from newE_in ho)
    have HS := Lib.hid (show roomS s n = { s with room := n.toNat } from if_pos ho)
    have HF := Lib.hid (pfits_any n w true (decide_eq_true ho).symm)
    have HT := Lib.hid (show ((n.toNat : Nat) : Int) = n by omega)
    clear h ho
    go_enter Try.func25, Try.ntmps25
    go_wp2_with fail
    refine HC.out.mono ?_
    rintro e w1 ⟨rfl, rfl⟩
    go_wp2_with fail
    refine HF.out.mono ?_
    rintro e w2 ⟨rfl, rfl⟩
    go_wp2_with fail
    go_ret
    refine ⟨by rw [HE.out]; rfl, _, ⟨vL, vA, rfl, ?_⟩, (Touch.refl _ _).setIn (fpP_mem.2 (.inl rfl)) _, From.refl _ _⟩
    refine HR.out.turn ?_ (fun k hk => Below.heap_setCell _ _ _ _ hk) (by rw [HS.out]) (by rw [HS.out]) HOK.out
    rw [HS.out]
    unfold pcells
    simp only [HT.out]
    exact HR.out.blk.set 4 _
  · have HE := Lib.hid (show roomE n = 2 from newE_out (by omega))
    have HS := Lib.hid (show roomS s n = s from if_neg ho)
    have HF := Lib.hid (pfits_any n w false (decide_eq_false ho).symm)
    clear h ho
    go_enter Try.func25, Try.ntmps25
    go_wp2_with fail
    refine HC.out.mono ?_
    rintro e w1 ⟨rfl, rfl⟩
    go_wp2_with fail
    refine HF.out.mono ?_
    rintro e w2 ⟨rfl, rfl⟩
    go_wp2_with fail
    go_ret
    exact ⟨by rw [HE.out]; rfl, _, by rw [HS.out]; exact ⟨vL, vA, rfl, HR.out⟩, Touch.refl _ _, From.refl _ _⟩
theorem plen_any (b : Nat) (fp : List Nat) (s : DState) (w : World) (h : ProgDisk w b fp s) :
    Calls Try.prog 17 #[optr b] w (QDone (i64v s.log.length) w) := by
  obtain ⟨vL, vA, rfl, h⟩ := h
  have HC := Lib.hid (pnone_any b vL vA s w h)
  obtain ⟨pL, cL, pA, cA, e1, e2⟩ := h.lens
  have c1 : w.cell? ⟨b, 1, none⟩ = some (.slice pL s.log.length cL) := by rw [← e1]; exact h.blk.cell 1
  clear h e1 e2
  go_enter Try.func17, Try.ntmps17
  go_wp2_with fail
  refine HC.out.mono ?_
  rintro e w1 ⟨rfl, rfl⟩
  go_wp2_with fail
  go_ret
  exact ⟨rfl, 0, rfl⟩
theorem pup_any (b : Nat) (fp : List Nat) (s : DState) (w : World) (h : ProgDisk w b fp s) :
    Calls Try.prog 20 #[optr b] w (QDone (.bool !s.out) w) := by
  obtain ⟨vL, vA, rfl, h⟩ := h
  by_cases ho : s.out = true
  · have HB := Lib.hid (pbarred_any b vL vA s w h 11 (show (11 : Int) = readE s from (if_pos ho).symm))
    have HO := Lib.hid ho
    clear h ho
    go_enter Try.func20, Try.ntmps20
    go_wp2_with fail
    refine HB.out.mono ?_
    rintro e w1 ⟨rfl, rfl⟩
    go_wp2_with fail
    go_ret
    exact ⟨by rw [HO.out]; rfl, 0, rfl⟩
  · have HB := Lib.hid (pbarred_any b vL vA s w h 0 (show (0 : Int) = readE s from (if_neg ho).symm))
    have HO := Lib.hid (show s.out = false by simpa using ho)
    clear h ho
    go_enter Try.func20, Try.ntmps20
    go_wp2_with fail
    refine HB.out.mono ?_
    rintro e w1 ⟨rfl, rfl⟩
    go_wp2_with fail
    go_ret
    exact ⟨by rw [HO.out]; rfl, 0, rfl⟩
theorem psteps_any (b : Nat) (fp : List Nat) (s : DState) (w : World) (h : ProgDisk w b fp s) :
    Calls Try.prog 19 #[optr b] w (QDone (i64v s.steps) w) := by
  obtain ⟨vL, vA, rfl, h⟩ := h
  have HC := Lib.hid (pnone_any b vL vA s w h)
  have c6 : w.cell? ⟨b, 6, none⟩ = some (i64v s.steps) := h.blk.cell 6
  clear h
  go_enter Try.func19, Try.ntmps19
  go_wp2_with fail
  refine HC.out.mono ?_
  rintro e w1 ⟨rfl, rfl⟩
  go_wp2_with fail
  go_ret
  exact ⟨rfl, 0, rfl⟩
theorem row_weakP {w : World} {B B' n : Nat} {e : TypeId} {v : Value} {xs : List Value} (h : w.ownsRow B e 1 v n xs) (hb : B' ≤ B) : w.ownsRow B' e 1 v n xs := by
  refine ⟨h.1, ?_⟩
  rcases h.2 with h' | ⟨g, cap, cur, hv, hgB, h4⟩
  · exact .inl h'
  · exact .inr ⟨g, cap, cur, hv, Nat.le_trans hb hgB, h4⟩
set_option maxRecDepth 100000 in
set_option maxHeartbeats 1000000 in
theorem pcopy_any (b : Nat) (fp : List Nat) (s : DState) (w : World) (h : ProgDisk w b fp s) :
    Calls Try.prog 12 #[optr b] w (DCopyDone ProgDisk b fp s w) := by
  obtain ⟨vL, vA, rfl, h⟩ := h
  have HR := Lib.hid h
  have HC := Lib.hid (pnone_any b vL vA s w h)
  obtain ⟨pL, cL, hvL, hgL⟩ := h.goodL
  obtain ⟨pA, cA, hvA, hgA⟩ := h.goodN
  have hsL : s.log.length ≤ 1000000 := by have := h.ok.small; omega
  have hsA : s.next.length ≤ 1000000 := by have := h.ok.small; omega
  have c0 : w.cell? ⟨b, 0, none⟩ = some (optr b) := h.blk.cell 0
  have c1 : w.cell? ⟨b, 1, none⟩ = some (.slice pL s.log.length cL) := by rw [← hvL]; exact h.blk.cell 1
  have c2 : w.cell? ⟨b, 2, none⟩ = some (i64v s.firm) := h.blk.cell 2
  have c3 : w.cell? ⟨b, 3, none⟩ = some (.slice pA s.next.length cA) := by rw [← hvA]; exact h.blk.cell 3
  have c4 : w.cell? ⟨b, 4, none⟩ = some (i64v s.room) := h.blk.cell 4
  have c5 : w.cell? ⟨b, 5, none⟩ = some (i64v s.left) := h.blk.cell 5
  have c6 : w.cell? ⟨b, 6, none⟩ = some (i64v s.steps) := h.blk.cell 6
  have c7 : w.cell? ⟨b, 7, none⟩ = some (.bool s.out) := h.blk.cell 7
  have HGL := Lib.hid hgL
  have HGA := Lib.hid hgA
  have HLOW := Lib.hid h.low
  have HBLK := Lib.hid h.blk
  rw [hvL, hvA] at HBLK
  have hbl := h.blk.lt
  have d1 : ∀ o, (w.alloc o).cell? ⟨b, 1, none⟩ = some (.slice pL s.log.length cL) := fun o => by rw [← hvL]; exact (h.blk.old o).cell 1
  clear h hvL hvA hgL hgA
  go_enter Try.func12, Try.ntmps12
  go_wp2_with fail
  refine HC.out.mono ?_
  rintro e w1 ⟨rfl, rfl⟩
  go_wp2_with fail
  have hk2 := Blk.new w1 #[optr b, .slice pL s.log.length cL, i64v s.firm, .slice pA s.next.length cA, i64v s.room, i64v s.left, i64v s.steps, .bool s.out] 47
  have hb2 := (Below.refl w1.heap.size w1).alloc (Nat.le_refl _) (Obj.cells #[optr b, .slice pL s.log.length cL, i64v s.firm, .slice pA s.next.length cA, i64v s.room, i64v s.left, i64v s.steps, .bool s.out] 47)
  obtain ⟨w2, hw2⟩ : ∃ x, x = w1.alloc (Obj.cells #[optr b, .slice pL s.log.length cL, i64v s.firm, .slice pA s.next.length cA, i64v s.room, i64v s.left, i64v s.steps, .bool s.out] 47) := ⟨_, rfl⟩
  have hs2 : w2.heap.size = w1.heap.size + 1 := by rw [hw2]; simp
  rw [← hw2] at hk2 hb2 ⊢
  have G2 := Lib.hid (HGL.out.below hb2)
  have A2 := Lib.hid (HGA.out.below hb2)
  have K2 := Lib.hid hk2
  have B2 := Lib.hid hb2
  have P2 := Lib.hid (HBLK.out.below hb2 hbl)
  clear hw2 hk2 hb2 d1 c0 c1 c2 c3 c4 c5 c6 c7
  generalize hn0 : w1.heap.size = n0 at *
  have N0 := Lib.hid hn0
  clear hn0
  refine (pclone_any s.log s.log.length pL cL w2 rfl G2.out hsL).mono ?_
  rintro e w3 ⟨v, rfl, o3, b3⟩
  obtain ⟨pv, cv, rfl, _, _, _, _, _⟩ := own_at o3.row
  have O3 := Lib.hid o3
  have B3 := Lib.hid b3
  have K3 := Lib.hid (K2.out.below b3 K2.out.lt)
  have P3 := Lib.hid (P2.out.below b3 P2.out.lt)
  have hbn : b ≠ n0 := by omega
  have k1 : w3.cell? ⟨n0, 1, none⟩ = some (.slice pL s.log.length cL) := K3.out.cell 1
  have k1f : w3.frozen? ⟨n0, 1, none⟩ = false := K3.out.free 1
  have e3 : (w3.setCell ⟨n0, 1, none⟩ (.slice pv s.log.length cv)).cell? ⟨b, 3, none⟩ = some (.slice pA s.next.length cA) := (P3.out.setOther ⟨n0, 1, none⟩ (.slice pv s.log.length cv) (by simpa using hbn)).cell 3
  clear o3 b3
  go_wp2_with fail
  obtain ⟨w4, hw4⟩ : ∃ x, x = w3.setCell ⟨n0, 1, none⟩ (.slice pv s.log.length cv) := ⟨_, rfl⟩
  have hk4 : ∀ k, k ≠ n0 → w4.heap[k]? = w3.heap[k]? := by rw [hw4]; exact fun k hk => Below.heap_setCell _ _ _ _ hk
  have hs4 : w4.heap.size = w3.heap.size := by rw [hw4]; simp
  have hb4 : Below n0 w3 w4 := by rw [hw4]; exact (Below.refl n0 w3).setCell (p := ⟨n0, 1, none⟩) (Nat.le_refl _) _
  have K4 := Lib.hid (show Blk w4 n0 [optr b, .slice pv s.log.length cv, i64v s.firm, .slice pA s.next.length cA, i64v s.room, i64v s.left, i64v s.steps, .bool s.out] 47 by rw [hw4]; exact K3.out.set 1 _)
  rw [← hw4]
  have hB4 : Below n0 w1 w4 := by
    have h1 := B2.out
    have h2 := B3.out.mono (show n0 ≤ w2.heap.size by omega)
    exact (h1.trans h2).trans hb4
  have B4 := Lib.hid hB4
  have A4 := Lib.hid (HGA.out.below (show Below w1.heap.size w1 w4 by rw [N0.out]; exact hB4))
  have S4 := Lib.hid hs4
  have HK4 := Lib.hid hk4
  have hsz3 : w2.heap.size ≤ w3.heap.size := B3.out.size
  clear hw4 e3 k1 k1f hb4 hB4 hs4 hk4
  refine (pclone_any s.next s.next.length pA cA w4 rfl A4.out hsA).mono ?_
  rintro e w5 ⟨v2, rfl, o5, b5⟩
  obtain ⟨pu, cu, rfl, _, _, _, _, _⟩ := own_at o5.row
  have O5 := Lib.hid o5
  have B5 := Lib.hid b5
  have K5 := Lib.hid (K4.out.below b5 K4.out.lt)
  have k3 : w5.cell? ⟨n0, 3, none⟩ = some (.slice pA s.next.length cA) := K5.out.cell 3
  have k3f : w5.frozen? ⟨n0, 3, none⟩ = false := K5.out.free 3
  have K6 := Lib.hid (show Blk (w5.setCell ⟨n0, 3, none⟩ (.slice pu s.next.length cu)) n0 [optr b, .slice pv s.log.length cv, i64v s.firm, .slice pu s.next.length cu, i64v s.room, i64v s.left, i64v s.steps, .bool s.out] 47 from K5.out.set 3 _)
  have m0 : (w5.setCell ⟨n0, 3, none⟩ (.slice pu s.next.length cu)).cell? ⟨n0, 0, none⟩ = some (optr b) := K6.out.cell 0
  have m1 : (w5.setCell ⟨n0, 3, none⟩ (.slice pu s.next.length cu)).cell? ⟨n0, 1, none⟩ = some (.slice pv s.log.length cv) := K6.out.cell 1
  have m2 : (w5.setCell ⟨n0, 3, none⟩ (.slice pu s.next.length cu)).cell? ⟨n0, 2, none⟩ = some (i64v s.firm) := K6.out.cell 2
  have m3 : (w5.setCell ⟨n0, 3, none⟩ (.slice pu s.next.length cu)).cell? ⟨n0, 3, none⟩ = some (.slice pu s.next.length cu) := K6.out.cell 3
  have m4 : (w5.setCell ⟨n0, 3, none⟩ (.slice pu s.next.length cu)).cell? ⟨n0, 4, none⟩ = some (i64v s.room) := K6.out.cell 4
  have m5 : (w5.setCell ⟨n0, 3, none⟩ (.slice pu s.next.length cu)).cell? ⟨n0, 5, none⟩ = some (i64v s.left) := K6.out.cell 5
  have m6 : (w5.setCell ⟨n0, 3, none⟩ (.slice pu s.next.length cu)).cell? ⟨n0, 6, none⟩ = some (i64v s.steps) := K6.out.cell 6
  have m7 : (w5.setCell ⟨n0, 3, none⟩ (.slice pu s.next.length cu)).cell? ⟨n0, 7, none⟩ = some (.bool s.out) := K6.out.cell 7
  clear o5 b5
  go_wp2_with fail
  obtain ⟨w6, hw6⟩ : ∃ x, x = w5.setCell ⟨n0, 3, none⟩ (.slice pu s.next.length cu) := ⟨_, rfl⟩
  have hk6 : ∀ k, k ≠ n0 → w6.heap[k]? = w5.heap[k]? := by rw [hw6]; exact fun k hk => Below.heap_setCell _ _ _ _ hk
  have hs6 : w6.heap.size = w5.heap.size := by rw [hw6]; simp
  have hb6 : Below n0 w5 w6 := by rw [hw6]; exact (Below.refl n0 w5).setCell (p := ⟨n0, 3, none⟩) (Nat.le_refl _) _
  rw [← hw6]
  have hB6 : Below n0 w1 w6 := (B4.out.trans (B5.out.mono (show n0 ≤ w4.heap.size by have := S4.out; omega))).trans hb6
  have B6 := Lib.hid hB6
  have S6 := Lib.hid hs6
  have HK6 := Lib.hid hk6
  clear hw6 m0 m1 m2 m3 m4 m5 m6 m7 k3 k3f hb6 hB6 hs6 hk6 K6
  refine (pown_any _ pv pu s.log.length cv s.next.length cu s.firm s.room s.left s.steps s.out w6).mono ?_
  rintro e w7 ⟨rfl, hb7, hB7⟩
  have K7 := Lib.hid hb7
  have B7 := Lib.hid hB7
  clear hb7 hB7
  go_wp2_with fail
  go_ret
  have hs7 : w6.heap.size = w5.heap.size := S6.out
  have hs5 : w4.heap.size ≤ w5.heap.size := B5.out.size
  have hs4 : w4.heap.size = w3.heap.size := S4.out
  have hn0 : w1.heap.size = n0 := N0.out
  have hB7 : Below w1.heap.size w1 w7 := by
    rw [hn0]
    exact B6.out.trans (B7.out.mono (by omega))
  have hrL := O3.out.row
  have hrA := O5.out.row
  have hL7 : w7.ownsRow 0 5 1 (.slice pv s.log.length cv) s.log.length (s.log.map v8) := by
    refine row_weakP (row_blocks8 hrL fun g hg => ?_) (Nat.zero_le _)
    have h1 := hrL.lt g hg
    exact (((B7.out.block g (by omega)).trans (HK6.out g (by omega))).trans (B5.out.block g (by omega))).trans (HK4.out g (by omega))
  have hA7 : w7.ownsRow 0 5 1 (.slice pu s.next.length cu) s.next.length (s.next.map v8) := by
    refine row_weakP (row_blocks8 hrA fun g hg => ?_) (Nat.zero_le _)
    have h1 := hrA.lt g hg
    exact (B7.out.block g (by omega)).trans (HK6.out g (by omega))
  have hgp : ∀ k ∈ fpP w6.heap.size (.slice pv s.log.length cv) (.slice pu s.next.length cu), w1.heap.size ≤ k := fun k hk => by
    rcases fpP_mem.1 hk with h' | h' | h'
    · omega
    · have := hrL.lt k h'; omega
    · have := hrA.lt k h'; omega
  refine ⟨w6.heap.size, fpP b vL vA, fpP w6.heap.size (.slice pv s.log.length cv) (.slice pu s.next.length cu), rfl, ⟨vL, vA, rfl, HR.out.keep fun k hk => hB7.block k (by rw [hn0]; exact HLOW.out k hk)⟩, ⟨_, _, rfl, K7.out, hL7, hA7, HR.out.ok, fun e => ?_, fun e => ?_, fun g hg e => ?_⟩, Touch.of_below hB7, From.refl _ _, hgp, fun k a c => ?_⟩
  · have := hrL.lt _ e; omega
  · have := hrA.lt _ e; omega
  · have h1 := hrL.lt _ hg
    have h2 := hrA.lt _ e
    omega
  · have h1 := HLOW.out k a
    have h2 := hgp k c
    omega
end Go.Proofs.Ytooljhdfmfkpeaa
