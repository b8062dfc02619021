/-
  The reference's disk: bytes laid.
-/
import Derived.Test.YtooljhdfmfkpeaaDkB
namespace Go.Proofs.Ytooljhdfmfkpeaa
set_option linter.unusedSimpArgs false
set_option linter.unusedVariables false
open Go.RowKit Sha Dsk
theorem RD.lens {w : World} {b : Nat} {vL vA : Value} {s : DState} (h : RD w b vL vA s) : ∃ pL cL pA cA, vL = .slice pL s.log.length cL ∧ vA = .slice pA s.next.length cA := by
  obtain ⟨pL, cL, e1, _⟩ := own_at h.log
  obtain ⟨pA, cA, e2, _⟩ := own_at h.next
  exact ⟨pL, cL, pA, cA, e1, e2⟩
set_option maxHeartbeats 1000000 in
theorem rrefuses_any (b : Nat) (vL vA : Value) (s : DState) (n : Nat) (p : Option Addr) (cap : Nat) (w : World) (h : RD w b vL vA s) (hn : n ≤ 1000000000) :
    Calls Try.prog 59 #[optr b, .slice p n cap] w fun e w' => e = .returned (i64v (bad s n)) ∧ ∃ k, w' = w.drewN k := by
  obtain ⟨pL, cL, pA, cA, e1, e2⟩ := h.lens
  have c6 : w.cell? ⟨b, 6, none⟩ = some (.bool s.out) := h.blk.cell 6
  have c0 : w.cell? ⟨b, 0, none⟩ = some vL := h.blk.cell 0
  have c2 : w.cell? ⟨b, 2, none⟩ = some vA := h.blk.cell 2
  have c3 : w.cell? ⟨b, 3, none⟩ = some (i64v s.room) := h.blk.cell 3
  rw [e1] at c0
  rw [e2] at c2
  have hsm := h.ok.small
  have hrm := h.ok.room
  by_cases ho : s.out = true
  · have HB := Lib.hid (bad_out (n := n) ho)
    rw [ho] at c6
    clear h e1 e2 ho
    go_enter Try.func59, Try.ntmps59
    go_wp2_with fail
    go_ret
    exact ⟨by rw [HB.out]; rfl, 0, rfl⟩
  · have ho' : s.out = false := by simpa using ho
    rw [ho'] at c6
    obtain ⟨l, hl⟩ : ∃ l, l = s.log.length := ⟨_, rfl⟩
    obtain ⟨m, hm⟩ : ∃ m, m = s.next.length := ⟨_, rfl⟩
    obtain ⟨r, hr⟩ : ∃ r, r = s.room := ⟨_, rfl⟩
    rw [← hl] at c0 hsm
    rw [← hm] at c2 hsm
    rw [← hr] at c3 hrm
    by_cases hf : r < l + m + n
    · have HB := Lib.hid (bad_full (n := n) ho' (by rw [← hl, ← hm, ← hr]; exact hf))
      have hd : decide ((r : Int) < (l : Int) + (m : Int) + (n : Int)) = true := decide_eq_true (by omega)
      clear h e1 e2 ho ho' hl hm hr
      go_enter Try.func59, Try.ntmps59
      go_wp2_with fail
      go_quiet (fail)
      go_wp2_with fail
      go_ret
      exact ⟨by rw [HB.out]; rfl, _, rfl⟩
    · have HB := Lib.hid (show bad s n = 0 from bad_zero.2 ⟨ho', by rw [← hl, ← hm, ← hr]; omega⟩)
      have hd : decide ((r : Int) < (l : Int) + (m : Int) + (n : Int)) = false := decide_eq_false (by omega)
      clear h e1 e2 ho ho' hl hm hr
      go_enter Try.func59, Try.ntmps59
      go_wp2_with fail
      go_quiet (fail)
      go_wp2_with fail
      go_ret
      exact ⟨by rw [HB.out]; rfl, _, rfl⟩
/-- Bytes behind the log, in whatever room. -/
theorem RD.growL {w w5 : World} {b : Nat} {vL vA v5 : Value} {s : DState} {zs : List Int} (h : RD w b vL vA s) {m : Nat} (hm : m = s.log.length + zs.length) (ho : w5.ownsRow 0 5 1 v5 m (s.log.map v8 ++ zs.map v8)) (hg : w.grownBy w5 vL.ownBlock) (hp : ∀ g, v5.ownBlock = some g → vL.ownBlock = some g ∨ w.heap.size ≤ g) (hk : Ok { s with log := s.log ++ zs }) :
    RD (w5.setCell ⟨b, 0, none⟩ v5) b v5 vA { s with log := s.log ++ zs } ∧ Touch (fpD b vL vA) w (w5.setCell ⟨b, 0, none⟩ v5) ∧ From (fpD b vL vA) (fpD b v5 vA) w := by
  have hbl := h.blk.lt
  have hb5 : Blk w5 b [vL, i64v s.firm, vA, i64v s.room, i64v s.steps, i64v s.left, .bool s.out] 64 := (hg.block b hbl fun e => h.nL e.symm).trans h.blk
  have n5 : v5.ownBlock ≠ some b := fun e => by
    rcases hp b e with h' | h'
    · exact h.nL h'
    · omega
  refine ⟨⟨hb5.set 0 v5, ?_, ?_, hk, n5, h.nA, ?_⟩, ?_, ?_⟩
  · have h1 : w5.ownsRow 0 5 1 v5 (s.log ++ zs).length ((s.log ++ zs).map v8) := by rw [List.length_append, List.map_append, ← hm]; exact ho
    exact row_blocks8 h1 fun g e => Below.heap_setCell _ _ _ _ fun e' => n5 (by rw [e]; exact congrArg some e')
  · exact row_blocks8 h.next fun g e => (Below.heap_setCell _ _ _ _ (fun e' => h.nA (by rw [e]; exact congrArg some e'))).trans (hg.block g (h.next.lt g e).2 fun e' => h.ap g e'.symm e)
  · intro g e e'
    rcases hp g e with h' | h'
    · exact h.ap g h' e'
    · have := (h.next.lt g e').2; omega
  · have ht : Touch (fpD b vL vA) w w5 := ⟨hg.os, hg.tape, hg.output, hg.size, fun k hk hn => hg.block k hk fun e => hn (fpD_mem.2 (.inr (.inl e.symm)))⟩
    exact ht.setIn (fpD_mem.2 (.inl rfl)) _
  · intro k hk
    rcases fpD_mem.1 hk with rfl | hk | hk
    · exact .inl (fpD_mem.2 (.inl rfl))
    · rcases hp k hk with h' | h'
      · exact .inl (fpD_mem.2 (.inr (.inl h')))
      · exact .inr h'
    · exact .inl (fpD_mem.2 (.inr (.inr hk)))
theorem RD.growN {w w5 : World} {b : Nat} {vL vA v5 : Value} {s : DState} {zs : List Int} (h : RD w b vL vA s) {m : Nat} (hm : m = s.next.length + zs.length) (ho : w5.ownsRow 0 5 1 v5 m (s.next.map v8 ++ zs.map v8)) (hg : w.grownBy w5 vA.ownBlock) (hp : ∀ g, v5.ownBlock = some g → vA.ownBlock = some g ∨ w.heap.size ≤ g) (hk : Ok { s with next := s.next ++ zs }) :
    RD (w5.setCell ⟨b, 2, none⟩ v5) b vL v5 { s with next := s.next ++ zs } ∧ Touch (fpD b vL vA) w (w5.setCell ⟨b, 2, none⟩ v5) ∧ From (fpD b vL vA) (fpD b vL v5) w := by
  have hbl := h.blk.lt
  have hb5 : Blk w5 b [vL, i64v s.firm, vA, i64v s.room, i64v s.steps, i64v s.left, .bool s.out] 64 := (hg.block b hbl fun e => h.nA e.symm).trans h.blk
  have n5 : v5.ownBlock ≠ some b := fun e => by
    rcases hp b e with h' | h'
    · exact h.nA h'
    · omega
  refine ⟨⟨hb5.set 2 v5, ?_, ?_, hk, h.nL, n5, ?_⟩, ?_, ?_⟩
  · exact row_blocks8 h.log fun g e => (Below.heap_setCell _ _ _ _ (fun e' => h.nL (by rw [e]; exact congrArg some e'))).trans (hg.block g (h.log.lt g e).2 fun e' => h.ap g e e'.symm)
  · have h1 : w5.ownsRow 0 5 1 v5 (s.next ++ zs).length ((s.next ++ zs).map v8) := by rw [List.length_append, List.map_append, ← hm]; exact ho
    exact row_blocks8 h1 fun g e => Below.heap_setCell _ _ _ _ fun e' => n5 (by rw [e]; exact congrArg some e')
  · intro g e e'
    rcases hp g e' with h' | h'
    · exact h.ap g e h'
    · have := (h.log.lt g e).2; omega
  · have ht : Touch (fpD b vL vA) w w5 := ⟨hg.os, hg.tape, hg.output, hg.size, fun k hk hn => hg.block k hk fun e => hn (fpD_mem.2 (.inr (.inr e.symm)))⟩
    exact ht.setIn (fpD_mem.2 (.inl rfl)) _
  · intro k hk
    rcases fpD_mem.1 hk with rfl | hk | hk
    · exact .inl (fpD_mem.2 (.inl rfl))
    · exact .inl (fpD_mem.2 (.inr (.inl hk)))
    · rcases hp k hk with h' | h'
      · exact .inl (fpD_mem.2 (.inr (.inr h')))
      · exact .inr h'
theorem Touch.of_block {b : Nat} {vL vA : Value} {w w' : World} (h : Touch [b] w w') : Touch (fpD b vL vA) w w' := ⟨h.os, h.tape, h.output, h.size, fun k hk hn => h.block k hk fun e => hn (fpD_mem.2 (.inl (by simpa using e)))⟩
theorem told_eq (s : DState) : (if (!decide (s.left = 0)) = true then (0 : Int) else 11) = told s := by
  unfold Dsk.told
  by_cases h0 : s.left = 0
  · rw [if_pos h0]; simp [h0]
  · rw [if_neg h0]; simp [h0]
theorem rtold_s (s : DState) (w : World) : Calls Try.prog 61 #[.bool (!decide (s.left = 0))] w fun e w' => e = .returned (i64v (told s)) ∧ w = w' := by
  rw [← told_eq s]; exact rtold_any _ _
set_option maxRecDepth 100000 in
set_option maxHeartbeats 2000000 in
theorem rappend_any (b : Nat) (fp : List Nat) (s : DState) (zs : List Int) (n : Nat) (p : Option Addr) (cap : Nat) (w : World) (h : RefDisk w b fp s) (hs : s.steps ≤ 1000000000) (hn : zs.length = n) (hm : n ≤ 1000000000) (hz : GoodC w zs p cap) (hap : ApartC zs p fp) :
    Calls Try.prog 40 #[optr b, .slice p n cap] w (ODone RefDisk b fp (appS s zs) (i64v (appE s n)) w) := by
  obtain ⟨vL, vA, rfl, h⟩ := h
  have HR := Lib.hid h
  have HZ := Lib.hid hz
  have HAP := Lib.hid hap
  have HN := Lib.hid hn
  have HS := Lib.hid hs
  have hc := hz.le
  rw [hn] at hc
  have HRF := Lib.hid (rrefuses_any b vL vA s n p cap w h hm)
  clear h hz hap hn hs
  by_cases h0 : bad s n = 0
  · have HA := Lib.hid (app_in (s := s) (b := zs) (by rw [HN.out]; exact h0))
    have HO := Lib.hid (bad_zero.1 h0).1
    have HOK := Lib.hid (app_ok (b := zs) HR.out.ok HZ.out.bytes)
    rw [h0] at HRF
    clear h0
    go_enter Try.func40, Try.ntmps40
    go_wp2_with fail
    refine HRF.out.mono ?_
    rintro e w1 ⟨rfl, k, hw1⟩
    have R1 := Lib.hid (show RD w1 b vL vA s by rw [hw1]; exact HR.out.keep fun _ _ => rfl)
    have T1 := Lib.hid (show Touch (fpD b vL vA) w w1 by rw [hw1]; exact (Touch.refl _ w).drewN k)
    clear hw1 HRF
    go_wp2_with fail
    refine (rstep_any b vL vA s w1 R1.out HS.out HO.out).mono ?_
    rintro e w2 ⟨rfl, hr2, ht2⟩
    have R2 := Lib.hid hr2
    have T2 := Lib.hid (T1.out.trans (Touch.of_block ht2) (From.refl _ _))
    obtain ⟨pL, cL, pA, cA, e1, e2⟩ := hr2.lens
    have c0 : w2.cell? ⟨b, 0, none⟩ = some vL := hr2.blk.cell 0
    have hl : (Dsk.step s).log.length ≤ 1000000 := by have := hr2.ok.small; omega
    have HA2 := Lib.hid (show At w2 p (zs.map v8) from HZ.out.at_.touchC T2.out HAP.out)
    have HNL := Lib.hid (show vL.ownBlock ≠ some b from hr2.nL)
    have HLT := Lib.hid hr2.blk.lt
    obtain ⟨l, hll⟩ : ∃ l, l = (Dsk.step s).log.length := ⟨_, rfl⟩
    rw [← hll] at hl e1
    have HLL := Lib.hid hll
    have HV := Lib.hid e1
    clear hr2 ht2 e1 e2 hll
    go_wp2_with (at_builtin; refine wpList_app_at rfl (.tmp 19) (.tmp 20) 32 rfl 0 5 Try.underlying32 kbyte_info rfl vL l _ rfl (by rw [HLL.out]; exact R2.out.log) p n cap (zs.map v8) rfl HA2.out (by rw [List.length_map]; exact HN.out) HZ.out.nil hc (kone8 _) (by omega) (by unfold maxLen; omega) (Nat.zero_le _) ?_; intro v5 w5 hown5 hg5 hp5; obtain ⟨p5, d5, rfl, _, _, _, _, _⟩ := own_at hown5; have O5 := Lib.hid hown5; have G5 := Lib.hid hg5; have P5 := Lib.hid hp5; have b5 : Blk w5 b _ 64 := (hg5.block b HLT.out fun e => HNL.out e.symm).trans R2.out.blk; have c5 : w5.cell? ⟨b, 0, none⟩ = some vL := b5.cell 0; have f5 : w5.frozen? ⟨b, 0, none⟩ = false := b5.free 0; clear hown5 hg5 hp5 b5)
    refine (rtold_s s _).mono ?_
    rintro e w6 ⟨rfl, rfl⟩
    have HG := Lib.hid (R2.out.growL (zs := zs) (by rw [← HLL.out, HN.out]) O5.out G5.out P5.out (by have h1 := HOK.out; rw [HA.out.2.1] at h1; exact h1))
    go_wp2_with fail
    go_ret
    rw [show appE s n = told s by have := HA.out.1; rwa [HN.out] at this, HA.out.2.1]
    refine ⟨?_, fpD b _ vA, ⟨_, vA, rfl, HG.out.1⟩, T2.out.trans HG.out.2.1 (From.refl _ _), fun k hk => ?_⟩
    · rfl
    · rcases HG.out.2.2 k hk with h' | h'
      · exact .inl h'
      · exact .inr (Nat.le_trans T2.out.size h')
  · have HA := Lib.hid (app_out (s := s) (b := zs) (by rw [HN.out]; exact h0))
    have hq : (bad s n == 0) = false := by rw [beq_eq_false_iff_ne]; exact h0
    have HA1 := Lib.hid (show appE s n = bad s n by have := HA.out.1; rwa [HN.out] at this)
    generalize bad s n = z at *
    go_enter Try.func40, Try.ntmps40
    go_wp2_with fail
    refine HRF.out.mono ?_
    rintro e w1 ⟨rfl, k, hw1⟩
    have R1 := Lib.hid (show RD w1 b vL vA s by rw [hw1]; exact HR.out.keep fun _ _ => rfl)
    have T1 := Lib.hid (show Touch (fpD b vL vA) w w1 by rw [hw1]; exact (Touch.refl _ w).drewN k)
    clear hw1 HRF
    go_wp2_with fail
    go_ret
    exact ⟨by rw [HA1.out]; rfl, _, by rw [HA.out.2.1]; exact ⟨vL, vA, rfl, R1.out⟩, T1.out, From.refl _ _⟩
set_option maxRecDepth 100000 in
set_option maxHeartbeats 2000000 in
theorem rnext_any (b : Nat) (fp : List Nat) (s : DState) (zs : List Int) (n : Nat) (p : Option Addr) (cap : Nat) (w : World) (h : RefDisk w b fp s) (hs : s.steps ≤ 1000000000) (hn : zs.length = n) (hm : n ≤ 1000000000) (hz : GoodC w zs p cap) (hap : ApartC zs p fp) :
    Calls Try.prog 42 #[optr b, .slice p n cap] w (ODone RefDisk b fp (nextS s zs) (i64v (appE s n)) w) := by
  obtain ⟨vL, vA, rfl, h⟩ := h
  have HR := Lib.hid h
  have HZ := Lib.hid hz
  have HAP := Lib.hid hap
  have HN := Lib.hid hn
  have HS := Lib.hid hs
  have hc := hz.le
  rw [hn] at hc
  have HRF := Lib.hid (rrefuses_any b vL vA s n p cap w h hm)
  clear h hz hap hn hs
  by_cases h0 : bad s n = 0
  · have HA := Lib.hid (app_in (s := s) (b := zs) (by rw [HN.out]; exact h0))
    have HO := Lib.hid (bad_zero.1 h0).1
    have HOK := Lib.hid (next_ok (b := zs) HR.out.ok HZ.out.bytes)
    rw [h0] at HRF
    clear h0
    go_enter Try.func42, Try.ntmps42
    go_wp2_with fail
    refine HRF.out.mono ?_
    rintro e w1 ⟨rfl, k, hw1⟩
    have R1 := Lib.hid (show RD w1 b vL vA s by rw [hw1]; exact HR.out.keep fun _ _ => rfl)
    have T1 := Lib.hid (show Touch (fpD b vL vA) w w1 by rw [hw1]; exact (Touch.refl _ w).drewN k)
    clear hw1 HRF
    go_wp2_with fail
    refine (rstep_any b vL vA s w1 R1.out HS.out HO.out).mono ?_
    rintro e w2 ⟨rfl, hr2, ht2⟩
    have R2 := Lib.hid hr2
    have T2 := Lib.hid (T1.out.trans (Touch.of_block ht2) (From.refl _ _))
    obtain ⟨pL, cL, pA, cA, e1, e2⟩ := hr2.lens
    have c0 : w2.cell? ⟨b, 2, none⟩ = some vA := hr2.blk.cell 2
    have hl : (Dsk.step s).next.length ≤ 1000000 := by have := hr2.ok.small; omega
    have HA2 := Lib.hid (show At w2 p (zs.map v8) from HZ.out.at_.touchC T2.out HAP.out)
    have HNL := Lib.hid (show vA.ownBlock ≠ some b from hr2.nA)
    have HLT := Lib.hid hr2.blk.lt
    obtain ⟨l, hll⟩ : ∃ l, l = (Dsk.step s).next.length := ⟨_, rfl⟩
    rw [← hll] at hl e2
    have HLL := Lib.hid hll
    have HV := Lib.hid e2
    clear hr2 ht2 e1 e2 hll
    go_wp2_with (at_builtin; refine wpList_app_at rfl (.tmp 19) (.tmp 20) 32 rfl 0 5 Try.underlying32 kbyte_info rfl vA l _ rfl (by rw [HLL.out]; exact R2.out.next) p n cap (zs.map v8) rfl HA2.out (by rw [List.length_map]; exact HN.out) HZ.out.nil hc (kone8 _) (by omega) (by unfold maxLen; omega) (Nat.zero_le _) ?_; intro v5 w5 hown5 hg5 hp5; obtain ⟨p5, d5, rfl, _, _, _, _, _⟩ := own_at hown5; have O5 := Lib.hid hown5; have G5 := Lib.hid hg5; have P5 := Lib.hid hp5; have b5 : Blk w5 b _ 64 := (hg5.block b HLT.out fun e => HNL.out e.symm).trans R2.out.blk; have c5 : w5.cell? ⟨b, 2, none⟩ = some vA := b5.cell 2; have f5 : w5.frozen? ⟨b, 2, none⟩ = false := b5.free 2; clear hown5 hg5 hp5 b5)
    refine (rtold_s s _).mono ?_
    rintro e w6 ⟨rfl, rfl⟩
    have HG := Lib.hid (R2.out.growN (zs := zs) (by rw [← HLL.out, HN.out]) O5.out G5.out P5.out (by have h1 := HOK.out; rw [HA.out.2.2] at h1; exact h1))
    go_wp2_with fail
    go_ret
    rw [show appE s n = told s by have := HA.out.1; rwa [HN.out] at this, HA.out.2.2]
    refine ⟨?_, fpD b vL _, ⟨vL, _, rfl, HG.out.1⟩, T2.out.trans HG.out.2.1 (From.refl _ _), fun k hk => ?_⟩
    · rfl
    · rcases HG.out.2.2 k hk with h' | h'
      · exact .inl h'
      · exact .inr (Nat.le_trans T2.out.size h')
  · have HA := Lib.hid (app_out (s := s) (b := zs) (by rw [HN.out]; exact h0))
    have hq : (bad s n == 0) = false := by rw [beq_eq_false_iff_ne]; exact h0
    have HA1 := Lib.hid (show appE s n = bad s n by have := HA.out.1; rwa [HN.out] at this)
    generalize bad s n = z at *
    go_enter Try.func42, Try.ntmps42
    go_wp2_with fail
    refine HRF.out.mono ?_
    rintro e w1 ⟨rfl, k, hw1⟩
    have R1 := Lib.hid (show RD w1 b vL vA s by rw [hw1]; exact HR.out.keep fun _ _ => rfl)
    have T1 := Lib.hid (show Touch (fpD b vL vA) w w1 by rw [hw1]; exact (Touch.refl _ w).drewN k)
    clear hw1 HRF
    go_wp2_with fail
    go_ret
    exact ⟨by rw [HA1.out]; rfl, _, by rw [HA.out.2.2]; exact ⟨vL, vA, rfl, R1.out⟩, T1.out, From.refl _ _⟩
end Go.Proofs.Ytooljhdfmfkpeaa
