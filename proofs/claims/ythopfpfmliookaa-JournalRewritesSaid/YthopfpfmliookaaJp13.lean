/-
  The program's disks: bytes laid, made firm, put in the log's place.
  The program's disks: what a crash leaves of a log; up again.
-/
import Derived.Test.YthopfpfmliookaaJp12
import Derived.Shelf.Abstract
namespace Go.Proofs.Ythopfpfmliookaa
section
set_option linter.unusedSimpArgs false
set_option linter.unusedVariables false
open Go.RowKit Sha Dsk
theorem lay_do (b : Nat) (vL vA : Value) (s : DState) (zs : List Int) (n : Nat) (p : Option Addr) (cap : Nat) (w w2 : World) (hn : zs.length = n) (hm : n ≤ 1000000000) (hz : GoodC w zs p cap) (hap : ApartC zs p (fpP b vL vA))
    (hk : Ok { Dsk.step s with log := s.log ++ zs }) (h2 : PD w2 b vL vA (Dsk.step s)) (ht : Touch [b] w w2) (bo : Bool) :
    Calls Try.prog 62 #[.pointer (some ⟨b, 1, none⟩), .slice p n cap, .bool bo] w2 (DoDone b (fpP b vL vA) { Dsk.step s with log := s.log ++ zs } w2) := by
  have hsm := h2.ok.small
  have hle := hz.le
  refine (play_any b 1 _ _ vL s.log.length _ zs n p cap bo w2 h2.blk rfl h2.log (by have h3 : (Dsk.step s).log.length = s.log.length := rfl; omega) h2.nL hn hm (hz.at_.touchC (Touch.of_blockP ht) hap) (by omega) hz.nil).mono ?_
  rintro e w' ⟨rfl, v5, w5, h5, hg, hp, rfl⟩
  have hG := h2.growL (zs := zs) (by rfl) (by rw [List.length_map] at h5; exact h5) hg hp hk
  exact ⟨rfl, _, ⟨v5, vA, rfl, hG.1⟩, hG.2.1, hG.2.2⟩
theorem layN_do (b : Nat) (vL vA : Value) (s : DState) (zs : List Int) (n : Nat) (p : Option Addr) (cap : Nat) (w w2 : World) (hn : zs.length = n) (hm : n ≤ 1000000000) (hz : GoodC w zs p cap) (hap : ApartC zs p (fpP b vL vA))
    (hk : Ok { Dsk.step s with next := s.next ++ zs }) (h2 : PD w2 b vL vA (Dsk.step s)) (ht : Touch [b] w w2) (bo : Bool) :
    Calls Try.prog 62 #[.pointer (some ⟨b, 3, none⟩), .slice p n cap, .bool bo] w2 (DoDone b (fpP b vL vA) { Dsk.step s with next := s.next ++ zs } w2) := by
  have hsm := h2.ok.small
  have hle := hz.le
  refine (play_any b 3 _ _ vA s.next.length _ zs n p cap bo w2 h2.blk rfl h2.next (by have h3 : (Dsk.step s).next.length = s.next.length := rfl; omega) h2.nA hn hm (hz.at_.touchC (Touch.of_blockP ht) hap) (by omega) hz.nil).mono ?_
  rintro e w' ⟨rfl, v5, w5, h5, hg, hp, rfl⟩
  have hG := h2.growN (zs := zs) (by rfl) (by rw [List.length_map] at h5; exact h5) hg hp hk
  exact ⟨rfl, _, ⟨vL, v5, rfl, hG.1⟩, hG.2.1, hG.2.2⟩
set_option maxRecDepth 100000 in
set_option maxHeartbeats 2000000 in
theorem pappend_any (b : Nat) (fp : List Nat) (s : DState) (zs : List Int) (n : Nat) (p : Option Addr) (cap : Nat) (w : World) (h : ProgDisk w b fp s) (hs : s.steps ≤ 1000000000) (hn : zs.length = n) (hm : n ≤ 1000000000) (hz : GoodC w zs p cap) (hap : ApartC zs p fp) :
    Calls Try.prog 47 #[optr b, .slice p n cap] w (ODone ProgDisk b fp (appS s zs) (i64v (appE s n)) w) := by
  obtain ⟨vL, vA, rfl, h⟩ := h
  have HR := Lib.hid h
  have HZ := Lib.hid hz
  have HAP := Lib.hid hap
  have HN := Lib.hid hn
  have HS := Lib.hid hs
  have HM := Lib.hid hm
  have HRF := Lib.hid (pcrowded_any b vL vA s n w h hm)
  unfold PCrowd at HRF
  clear h hz hap hn hs hm
  by_cases h0 : bad s n = 0
  · have HA := Lib.hid (app_in (s := s) (b := zs) (by rw [HN.out]; exact h0))
    have HO := Lib.hid (bad_zero.1 h0).1
    have HOK := Lib.hid (app_ok (b := zs) HR.out.ok HZ.out.bytes)
    rw [h0] at HRF
    clear h0
    go_enter Try.func47, Try.ntmps47
    go_wp2_with fail
    refine HRF.out.mono ?_
    rintro e w1 ⟨rfl, k, hw1⟩
    have R1 := Lib.hid (show PD w1 b vL vA s by rw [hw1]; exact HR.out.keep fun _ _ => rfl)
    have T1 := Lib.hid (show Touch (fpP b vL vA) w w1 by rw [hw1]; exact (Touch.refl _ w).drewN k)
    have Z1 := Lib.hid (show GoodC w1 zs p cap by rw [hw1]; exact HZ.out.blocks fun _ _ => rfl)
    clear hw1 HRF
    go_wp2_with fail
    refine (pstep_any 62 (enters_of Try.func62 (by kernel_rfl) rfl) _ _ b vL vA s (appS s zs) w1 R1.out HS.out HO.out (by rw [HA.out.2.1]) (fun w2 hp ht => by rw [HA.out.2.1]; exact lay_do b vL vA s zs n p cap w1 w2 HN.out HM.out Z1.out HAP.out (by have h1 := HOK.out; rw [HA.out.2.1] at h1; exact h1) hp ht _)).mono ?_
    rintro e w2 ⟨rfl, fp2, hr2, ht2, hf2⟩
    have R2 := Lib.hid hr2
    have T2 := Lib.hid ht2
    have F2 := Lib.hid hf2
    have HTL := Lib.hid (show appE s n = told s by have := HA.out.1; rwa [HN.out] at this)
    clear hr2 ht2 hf2
    generalize told s = z at *
    go_wp2_with fail
    go_ret
    exact ⟨by rw [HTL.out]; rfl, fp2, R2.out, T1.out.trans T2.out (From.refl _ _), fun k hk => by rcases F2.out k hk with h' | h'; exact .inl h'; exact .inr (Nat.le_trans T1.out.size h')⟩
  · have HA := Lib.hid (app_out (s := s) (b := zs) (by rw [HN.out]; exact h0))
    have hq : (bad s n == 0) = false := by rw [beq_eq_false_iff_ne]; exact h0
    have HA1 := Lib.hid (show appE s n = bad s n by have := HA.out.1; rwa [HN.out] at this)
    generalize bad s n = z at *
    go_enter Try.func47, Try.ntmps47
    go_wp2_with fail
    refine HRF.out.mono ?_
    rintro e w1 ⟨rfl, k, hw1⟩
    have R1 := Lib.hid (show PD w1 b vL vA s by rw [hw1]; exact HR.out.keep fun _ _ => rfl)
    have T1 := Lib.hid (show Touch (fpP b vL vA) w w1 by rw [hw1]; exact (Touch.refl _ w).drewN k)
    clear hw1 HRF
    go_wp2_with fail
    go_ret
    exact ⟨by rw [HA1.out]; rfl, _, by rw [HA.out.2.1]; exact ⟨vL, vA, rfl, R1.out⟩, T1.out, From.refl _ _⟩
set_option maxRecDepth 100000 in
set_option maxHeartbeats 2000000 in
theorem pnext_any (b : Nat) (fp : List Nat) (s : DState) (zs : List Int) (n : Nat) (p : Option Addr) (cap : Nat) (w : World) (h : ProgDisk w b fp s) (hs : s.steps ≤ 1000000000) (hn : zs.length = n) (hm : n ≤ 1000000000) (hz : GoodC w zs p cap) (hap : ApartC zs p fp) :
    Calls Try.prog 51 #[optr b, .slice p n cap] w (ODone ProgDisk b fp (nextS s zs) (i64v (appE s n)) w) := by
  obtain ⟨vL, vA, rfl, h⟩ := h
  have HR := Lib.hid h
  have HZ := Lib.hid hz
  have HAP := Lib.hid hap
  have HN := Lib.hid hn
  have HS := Lib.hid hs
  have HM := Lib.hid hm
  have HRF := Lib.hid (pcrowded_any b vL vA s n w h hm)
  unfold PCrowd at HRF
  clear h hz hap hn hs hm
  by_cases h0 : bad s n = 0
  · have HA := Lib.hid (app_in (s := s) (b := zs) (by rw [HN.out]; exact h0))
    have HO := Lib.hid (bad_zero.1 h0).1
    have HOK := Lib.hid (next_ok (b := zs) HR.out.ok HZ.out.bytes)
    rw [h0] at HRF
    clear h0
    go_enter Try.func51, Try.ntmps51
    go_wp2_with fail
    refine HRF.out.mono ?_
    rintro e w1 ⟨rfl, k, hw1⟩
    have R1 := Lib.hid (show PD w1 b vL vA s by rw [hw1]; exact HR.out.keep fun _ _ => rfl)
    have T1 := Lib.hid (show Touch (fpP b vL vA) w w1 by rw [hw1]; exact (Touch.refl _ w).drewN k)
    have Z1 := Lib.hid (show GoodC w1 zs p cap by rw [hw1]; exact HZ.out.blocks fun _ _ => rfl)
    clear hw1 HRF
    go_wp2_with fail
    refine (pstep_any 62 (enters_of Try.func62 (by kernel_rfl) rfl) _ _ b vL vA s (nextS s zs) w1 R1.out HS.out HO.out (by rw [HA.out.2.2]) (fun w2 hp ht => by rw [HA.out.2.2]; exact layN_do b vL vA s zs n p cap w1 w2 HN.out HM.out Z1.out HAP.out (by have h1 := HOK.out; rw [HA.out.2.2] at h1; exact h1) hp ht _)).mono ?_
    rintro e w2 ⟨rfl, fp2, hr2, ht2, hf2⟩
    have R2 := Lib.hid hr2
    have T2 := Lib.hid ht2
    have F2 := Lib.hid hf2
    have HTL := Lib.hid (show appE s n = told s by have := HA.out.1; rwa [HN.out] at this)
    clear hr2 ht2 hf2
    generalize told s = z at *
    go_wp2_with fail
    go_ret
    exact ⟨by rw [HTL.out]; rfl, fp2, R2.out, T1.out.trans T2.out (From.refl _ _), fun k hk => by rcases F2.out k hk with h' | h'; exact .inl h'; exact .inr (Nat.le_trans T1.out.size h')⟩
  · have HA := Lib.hid (app_out (s := s) (b := zs) (by rw [HN.out]; exact h0))
    have hq : (bad s n == 0) = false := by rw [beq_eq_false_iff_ne]; exact h0
    have HA1 := Lib.hid (show appE s n = bad s n by have := HA.out.1; rwa [HN.out] at this)
    generalize bad s n = z at *
    go_enter Try.func51, Try.ntmps51
    go_wp2_with fail
    refine HRF.out.mono ?_
    rintro e w1 ⟨rfl, k, hw1⟩
    have R1 := Lib.hid (show PD w1 b vL vA s by rw [hw1]; exact HR.out.keep fun _ _ => rfl)
    have T1 := Lib.hid (show Touch (fpP b vL vA) w w1 by rw [hw1]; exact (Touch.refl _ w).drewN k)
    clear hw1 HRF
    go_wp2_with fail
    go_ret
    exact ⟨by rw [HA1.out]; rfl, _, by rw [HA.out.2.2]; exact ⟨vL, vA, rfl, R1.out⟩, T1.out, From.refl _ _⟩
set_option maxRecDepth 100000 in
set_option maxHeartbeats 2000000 in
theorem psync_any (b : Nat) (fp : List Nat) (s : DState) (w : World) (h : ProgDisk w b fp s) (hs : s.steps ≤ 1000000000) :
    Calls Try.prog 30 #[optr b] w (ODone ProgDisk b fp (syncS s) (i64v (syncE s)) w) := by
  obtain ⟨vL, vA, rfl, h⟩ := h
  have HR := Lib.hid h
  have HS := Lib.hid hs
  by_cases ho : s.out = true
  · have HB := Lib.hid (pbarred_any b vL vA s w h 11 (show (11 : Int) = readE s from (if_pos ho).symm))
    have HE := Lib.hid (show syncE s = 11 from if_pos ho)
    have HSS := Lib.hid (show syncS s = s from if_pos ho)
    clear h ho hs
    go_enter Try.func30, Try.ntmps30
    go_wp2_with fail
    refine HB.out.mono ?_
    rintro e w1 ⟨rfl, rfl⟩
    go_wp2_with fail
    go_ret
    exact ⟨by rw [HE.out]; rfl, _, by rw [HSS.out]; exact ⟨vL, vA, rfl, HR.out⟩, Touch.refl _ _, From.refl _ _⟩
  · have HB := Lib.hid (pbarred_any b vL vA s w h 0 (show (0 : Int) = readE s from (if_neg ho).symm))
    have HO := Lib.hid (show s.out = false by simpa using ho)
    have HE := Lib.hid (show syncE s = told s from if_neg ho)
    have hss : syncS s = if (Dsk.step s).out = true then Dsk.step s else { Dsk.step s with firm := (Dsk.step s).log.length } := by
      unfold syncS
      rw [if_neg ho]
      by_cases hl : s.left = 0
      · rw [if_pos hl, if_pos (by unfold Dsk.step; simp [hl])]
      · rw [if_neg hl, if_neg (by unfold Dsk.step; simp [hl, HO.out])]
        try rfl
    have HSS := Lib.hid hss
    have HSO := Lib.hid (show (syncS s).out = (Dsk.step s).out by rw [hss]; split <;> rfl)
    clear h ho hs hss
    go_enter Try.func30, Try.ntmps30
    go_wp2_with fail
    refine HB.out.mono ?_
    rintro e w1 ⟨rfl, rfl⟩
    go_wp2_with fail
    refine (pstep_any 50 (enters_of Try.func50 (by kernel_rfl) rfl) _ _ b vL vA s (syncS s) w1 HR.out HS.out HO.out HSO.out (fun w2 hp ht => by have h1 := psync_do b vL vA (Dsk.step s) (Dsk.step s).out w2 hp rfl _ rfl; rw [HSS.out]; exact h1)).mono ?_
    rintro e w2 ⟨rfl, fp2, hr2, ht2, hf2⟩
    have R2 := Lib.hid hr2
    have T2 := Lib.hid ht2
    have F2 := Lib.hid hf2
    clear hr2 ht2 hf2
    generalize told s = z at *
    go_wp2_with fail
    go_ret
    exact ⟨by rw [HE.out]; rfl, fp2, R2.out, T2.out, F2.out⟩
set_option maxRecDepth 100000 in
set_option maxHeartbeats 2000000 in
theorem pswitch_any (b : Nat) (fp : List Nat) (s : DState) (w : World) (h : ProgDisk w b fp s) (hs : s.steps ≤ 1000000000) :
    Calls Try.prog 32 #[optr b] w (ODone ProgDisk b fp (swS s) (i64v (syncE s)) w) := by
  obtain ⟨vL, vA, rfl, h⟩ := h
  have HR := Lib.hid h
  have HS := Lib.hid hs
  by_cases ho : s.out = true
  · have HB := Lib.hid (pbarred_any b vL vA s w h 11 (show (11 : Int) = readE s from (if_pos ho).symm))
    have HE := Lib.hid (show syncE s = 11 from if_pos ho)
    have HSS := Lib.hid (show swS s = s from if_pos ho)
    clear h ho hs
    go_enter Try.func32, Try.ntmps32
    go_wp2_with fail
    refine HB.out.mono ?_
    rintro e w1 ⟨rfl, rfl⟩
    go_wp2_with fail
    go_ret
    exact ⟨by rw [HE.out]; rfl, _, by rw [HSS.out]; exact ⟨vL, vA, rfl, HR.out⟩, Touch.refl _ _, From.refl _ _⟩
  · have HB := Lib.hid (pbarred_any b vL vA s w h 0 (show (0 : Int) = readE s from (if_neg ho).symm))
    have HO := Lib.hid (show s.out = false by simpa using ho)
    have HE := Lib.hid (show syncE s = told s from if_neg ho)
    have hss : swS s = if (Dsk.step s).out = true then Dsk.step s else { Dsk.step s with log := (Dsk.step s).next, firm := (Dsk.step s).next.length, next := [] } := by
      unfold swS
      rw [if_neg ho]
      by_cases hl : s.left = 0
      · rw [if_pos hl, if_pos (by unfold Dsk.step; simp [hl])]
      · rw [if_neg hl, if_neg (by unfold Dsk.step; simp [hl, HO.out])]
        try rfl
    have HSS := Lib.hid hss
    have HSO := Lib.hid (show (swS s).out = (Dsk.step s).out by rw [hss]; split <;> rfl)
    clear h ho hs hss
    go_enter Try.func32, Try.ntmps32
    go_wp2_with fail
    refine HB.out.mono ?_
    rintro e w1 ⟨rfl, rfl⟩
    go_wp2_with fail
    refine (pstep_any 52 (enters_of Try.func52 (by kernel_rfl) rfl) _ _ b vL vA s (swS s) w1 HR.out HS.out HO.out HSO.out (fun w2 hp ht => by have h1 := pturn_do b vL vA (Dsk.step s) (Dsk.step s).out w2 hp rfl _ rfl; rw [HSS.out]; exact h1)).mono ?_
    rintro e w2 ⟨rfl, fp2, hr2, ht2, hf2⟩
    have R2 := Lib.hid hr2
    have T2 := Lib.hid ht2
    have F2 := Lib.hid hf2
    clear hr2 ht2 hf2
    generalize told s = z at *
    go_wp2_with fail
    go_ret
    exact ⟨by rw [HE.out]; rfl, fp2, R2.out, T2.out, F2.out⟩
end
section
set_option linter.unusedSimpArgs false
set_option linter.unusedVariables false
open Go.RowKit Sha Dsk
section
variable {P : Program} {o : Oper} {a : Act} {C : World → Prop} {K : Act → Prop}
theorem quiet_cutP (t : TypeId) (x : Operand) (lo hi mx : Option Operand) (ho : o.op = .slice t x lo hi mx) (V : Value) (hr : ∀ w, (Instr.sliceAt t (a.eval x) (lo.map a.eval) (hi.map a.eval) (mx.map a.eval)).run P w = .ok V w) (h : K (a.put o.dst V)) : o.quiet P a C K :=
  ⟨V, fun w _ => by
    unfold Oper.quietAt execOp
    simp only [ho, Sem.run_bind, hr, Result.andThen_ok, Sem.run_pure]
    exact ⟨rfl, rfl⟩, h⟩
end
theorem row_cutP {w : World} {B n : Nat} {e : TypeId} {v : Value} {xs : List Value} (h : w.ownsRow B e 1 v n xs) (k : Nat) (hk : k ≤ n) : ∃ p cL, v = .slice p n cL ∧ n ≤ cL ∧ w.ownsRow B e 1 (.slice p k cL) k (xs.take k) ∧ (Value.slice p k cL).ownBlock = v.ownBlock := by
  have hx := h.1
  rcases h.2 with ⟨rfl, rfl⟩ | ⟨g, cap, cur, rfl, hB, hh, h1, h2, h3, h4⟩
  · obtain rfl : k = 0 := by omega
    exact ⟨none, 0, rfl, Nat.le_refl _, World.ownsRow_nil _ _ _ _, rfl⟩
  · refine ⟨some ⟨g, 0, none⟩, cap, rfl, by omega, ⟨by rw [List.length_take]; omega, .inr ⟨g, cap, cur, rfl, hB, hh, by omega, h2, h3, ?_⟩⟩, rfl⟩
    rw [← h4, List.take_take, Nat.mul_one, Nat.mul_one, Nat.min_eq_left hk]
def KeepDone (b : Nat) (vL vA : Value) (s : DState) (k : Nat) (w : World) (e : Ending) (w' : World) : Prop :=
  e = .returned (.tuple #[]) ∧ ∃ vL', PD w' b vL' vA { s with log := cut s k, firm := (cut s k).length } ∧ Touch [b] w w' ∧ vL'.ownBlock = vL.ownBlock
set_option maxRecDepth 100000 in
set_option maxHeartbeats 2000000 in
theorem pkeep_any (b : Nat) (vL vA : Value) (s : DState) (k : Nat) (w : World) (h : PD w b vL vA s) (hk : k ≤ 9223372036854775807) :
    Calls Try.prog 43 #[.pointer (some ⟨b, 1, none⟩), i64v k] w (KeepDone b vL vA s k w) := by
  have HR := Lib.hid h
  have hfl := h.ok.firm
  have hsm : s.log.length ≤ 1000000 := by have := h.ok.small; omega
  have hcl := cut_len s k
  obtain ⟨m, hm⟩ : ∃ m, m = min k (s.log.length - s.firm) := ⟨_, rfl⟩
  have hcl2 : (cut s k).length = s.firm + m := by omega
  obtain ⟨p, cL, hv, hlc, hrow, hown⟩ := row_cutP h.log (s.firm + m) (by omega)
  rw [show (s.log.map v8).take (s.firm + m) = (cut s k).map v8 by unfold cut; rw [← List.map_take]; congr 1; rw [List.take_eq_take_iff]; omega] at hrow
  have c1 : w.cell? ⟨b, 1, none⟩ = some vL := h.blk.cell 1
  have c2 : w.cell? ⟨b, 2, none⟩ = some (i64v s.firm) := h.blk.cell 2
  have f2 : w.frozen? ⟨b, 2, none⟩ = false := h.blk.free 2
  rw [hv] at c1
  have HC := Lib.hid hcl2
  have HROW := Lib.hid hrow
  have HOWN := Lib.hid hown
  have HV := Lib.hid hv
  obtain ⟨l, hll⟩ : ∃ l, l = s.log.length := ⟨_, rfl⟩
  obtain ⟨f, hff⟩ : ∃ f, f = s.firm := ⟨_, rfl⟩
  rw [← hll] at hsm hfl hm c1 hlc
  rw [← hff] at hfl hm c2 HC HROW HOWN
  have HFF := Lib.hid hff
  have HLL := Lib.hid hll
  have hmin : ∀ ts t w, (Builtin.min_ ts t #[.int .i64 (k : Int), .int .i64 ((l : Int) - (f : Int))]).run Try.prog w = .ok (.int .i64 (m : Int)) w := fun ts t w => by
    rw [run_min_int2]
    congr 2
    split <;> omega
  have hcut : ∀ w, (Instr.sliceAt 22 (.slice p l cL) none (some (.int .i64 ((f : Int) + (m : Int)))) none).run Try.prog w = .ok (.slice p (f + m) cL) w := fun w => by
    rw [run_cut_h 22 5 p l cL Try.underlying22 kslice1 .i64 ((f : Int) + (m : Int)) (by omega) (by omega)]
    have e : ((f : Int) + (m : Int)).toNat = f + m := by omega
    rw [e]
    cases p <;> simp [cutV]
    intro _; rfl
  have HCUT := Lib.hid hcut
  have hmb : m ≤ l := by omega
  have hB2 := h.blk.drew.set 2 (i64v ((f : Int) + (m : Int)))
  have HB2 := Lib.hid hB2
  have i1 : IntKind.i64.wrap ((f : Int) + (m : Int)) = (f : Int) + (m : Int) := IntWalk.i64_in _ (by omega)
  clear h hcl hcl2 hrow hown hv hll hff hcut hB2 hm
  go_enter Try.func43, Try.ntmps43
  go_wp2_with fail
  refine region_tail 20 (by kernel_rfl) (by kernel_rfl) ?_
  simp only [List.take_succ_cons, List.take_zero, List.drop_succ_cons, List.drop_zero]
  repeat go_big_quiet_step (fail)
  refine wpQuiet_nil ?_
  have d2 : w.drew.cell? ⟨b, 2, none⟩ = some (i64v f) := c2
  have g2 : w.drew.frozen? ⟨b, 2, none⟩ = false := f2
  go_wp2_with fail
  obtain ⟨w2, hw2⟩ : ∃ x, x = (w.setCell ⟨b, 2, none⟩ (.int .i64 ((f : Int) + (m : Int)))).drew := ⟨_, rfl⟩
  have HB3 := Lib.hid (show Blk w2 b ((pcells b vL vA s).set 2 (i64v ((f : Int) + (m : Int)))) 45 by rw [hw2]; exact HB2.out)
  have HT3 := Lib.hid (show Touch [b] w w2 by rw [hw2]; exact ((Touch.refl _ w).drewN 1).setIn (by simp) _)
  have HK3 := Lib.hid (show ∀ k, k ≠ b → w2.heap[k]? = w.heap[k]? by rw [hw2]; exact fun k hk => Below.heap_setCell _ _ _ _ hk)
  have e1 : w2.cell? ⟨b, 1, none⟩ = some (.slice p l cL) := by
    have h1 : w2.cell? ⟨b, 1, none⟩ = some vL := HB3.out.cell 1
    rw [h1, HV.out, HLL.out]
  have e2 : w2.cell? ⟨b, 2, none⟩ = some (i64v ((f : Int) + (m : Int))) := HB3.out.cell 2
  have e1' : w2.drew.cell? ⟨b, 1, none⟩ = some (.slice p l cL) := e1
  have g1 : w2.drew.frozen? ⟨b, 1, none⟩ = false := HB3.out.free 1
  rw [← hw2]
  clear hw2 c1 c2 f2 d2 g2 HB2 hmin
  refine region_tail 14 (by kernel_rfl) (by kernel_rfl) ?_
  simp only [List.take_succ_cons, List.take_zero, List.drop_succ_cons, List.drop_zero]
  repeat (first
    | (go_big_quiet_want; refine quiet_cutP 22 _ _ _ _ rfl _ HCUT.out ?_; simp only [Act.put, List.setIfInBounds_toArray, List.set_cons_zero, List.set_cons_succ, List.getElem_toArray, List.getElem_cons_succ, List.getElem_cons_zero]; go_big_quiet_on)
    | go_big_quiet_step (fail))
  refine wpQuiet_nil ?_
  go_wp2_with fail
  go_end0
  have hB4 := HB3.out.drew.set 1 (.slice p (f + m) cL)
  have hne : (Value.slice p (f + m) cL).ownBlock ≠ some b := by rw [HOWN.out]; exact HR.out.nL
  have hk4 : ∀ k, k ≠ b → (w2.drew.setCell ⟨b, 1, none⟩ (.slice p (f + m) cL)).heap[k]? = w.heap[k]? := fun k hk => (Below.heap_setCell _ _ _ _ hk).trans (HK3.out k hk)
  have hcast : (((cut s k).length : Nat) : Int) = (f : Int) + (m : Int) := by rw [HC.out]; push_cast; rfl
  refine ⟨rfl, .slice p (f + m) cL, ⟨?_, ?_, ?_, ?_, hne, HR.out.nA, fun g hg => HR.out.ap g (by rw [← HOWN.out]; exact hg)⟩, (HT3.out.drewN 1).setIn (by simp) _, HOWN.out⟩
  · unfold pcells
    simp only [hcast]
    exact hB4
  · simp only
    rw [HC.out]
    exact row_blocks8 HROW.out fun g hg => hk4 g fun e => hne (by rw [hg, e])
  · exact row_blocks8 HR.out.next fun g hg => hk4 g fun e => HR.out.nA (by rw [hg, e])
  · have := HR.out.ok.small
    have h9 := cut_len s k
    exact ⟨Nat.le_refl _, by simp only; omega, HR.out.ok.room, HR.out.ok.left, fun x hx => HR.out.ok.log x (cut_mem hx), HR.out.ok.next⟩
set_option maxRecDepth 100000 in
set_option maxHeartbeats 1000000 in
/-- Up again, with nothing in the next area. -/
theorem prise_any (b : Nat) (vL vA : Value) (s : DState) (w : World) (h : PD w b vL vA s) :
    Calls Try.prog 44 #[optr b] w (ODone ProgDisk b (fpP b vL vA) { s with next := [], left := -1, out := false } (.tuple #[]) w) := by
  have HR := Lib.hid h
  have c3 : w.cell? ⟨b, 3, none⟩ = some vA := h.blk.cell 3
  have f3 : w.frozen? ⟨b, 3, none⟩ = false := h.blk.free 3
  have c5 : w.cell? ⟨b, 5, none⟩ = some (i64v s.left) := h.blk.cell 5
  have f5 : w.frozen? ⟨b, 5, none⟩ = false := h.blk.free 5
  have c7 : w.cell? ⟨b, 7, none⟩ = some (.bool s.out) := h.blk.cell 7
  have f7 : w.frozen? ⟨b, 7, none⟩ = false := h.blk.free 7
  clear h
  go_enter Try.func44, Try.ntmps44
  go_wp2_with fail
  go_end0
  have hB := ((HR.out.blk.set 3 (.slice none 0 0)).set 5 (i64v (-1))).set 7 (.bool false)
  have hk : ∀ k, k ≠ b → (((w.setCell ⟨b, 3, none⟩ (.slice none 0 0)).setCell ⟨b, 5, none⟩ (i64v (-1))).setCell ⟨b, 7, none⟩ (.bool false)).heap[k]? = w.heap[k]? := fun k hk => ((Below.heap_setCell _ _ _ _ hk).trans (Below.heap_setCell _ _ _ _ hk)).trans (Below.heap_setCell _ _ _ _ hk)
  have hT : Touch (fpP b vL vA) w _ := ((((Touch.refl _ w).setIn (g := b) (i := 3) (fpP_mem.2 (.inl rfl)) (.slice none 0 0)).setIn (g := b) (i := 5) (fpP_mem.2 (.inl rfl)) (i64v (-1))).setIn (g := b) (i := 7) (fpP_mem.2 (.inl rfl)) (.bool false))
  have := HR.out.ok.small
  refine ⟨rfl, fpP b vL (.slice none 0 0), ⟨vL, .slice none 0 0, rfl, hB, ?_, World.ownsRow_nil _ _ _ _, ⟨HR.out.ok.firm, by simp only [List.length_nil]; omega, HR.out.ok.room, by simp only; omega, HR.out.ok.log, by simp⟩, HR.out.nL, by simp [Value.ownBlock], by simp [Value.ownBlock]⟩, hT, fun k hk' => ?_⟩
  · exact row_blocks8 HR.out.log fun g hg => hk g fun e => HR.out.nL (by rw [hg, e])
  · rcases fpP_mem.1 hk' with rfl | h' | h'
    · exact .inl (fpP_mem.2 (.inl rfl))
    · exact .inl (fpP_mem.2 (.inr (.inl h')))
    · cases h'
set_option maxRecDepth 100000 in
set_option maxHeartbeats 1000000 in
theorem pcrash_any (b : Nat) (fp : List Nat) (s : DState) (n : Int) (w : World) (h : ProgDisk w b fp s) (hn : fit64 n) :
    Calls Try.prog 22 #[optr b, i64v n] w (ODone ProgDisk b fp (crashS s n) (i64v (crashE n)) w) := by
  obtain ⟨vL, vA, rfl, h⟩ := h
  obtain ⟨hn1, hn2⟩ := hn
  have HR := Lib.hid h
  have HC := Lib.hid (pdnone_any b vL vA s w h)
  by_cases h0 : n < 0
  · have HE := Lib.hid (show crashE n = 2 from if_pos h0)
    have HS := Lib.hid (show crashS s n = s from if_pos h0)
    clear h
    go_enter Try.func22, Try.ntmps22
    go_wp2_with fail
    refine HC.out.mono ?_
    rintro e w1 ⟨rfl, rfl⟩
    go_wp2_with fail
    go_ret
    exact ⟨by rw [HE.out]; rfl, _, by rw [HS.out]; exact ⟨vL, vA, rfl, HR.out⟩, Touch.refl _ _, From.refl _ _⟩
  · obtain ⟨k, rfl⟩ : ∃ k : Nat, n = k := ⟨n.toNat, by omega⟩
    have HE := Lib.hid (show crashE (k : Int) = 0 from if_neg h0)
    have HS := Lib.hid (show crashS s k = { s with log := cut s k, firm := (cut s k).length, next := [], left := -1, out := false } from if_neg h0)
    have HK := Lib.hid (pkeep_any b vL vA s k w h (by omega))
    clear h
    go_enter Try.func22, Try.ntmps22
    go_wp2_with fail
    refine HC.out.mono ?_
    rintro e w1 ⟨rfl, rfl⟩
    go_wp2_with fail
    refine HK.out.mono ?_
    rintro e w2 ⟨rfl, vL', hp, ht, ho⟩
    have HP := Lib.hid hp
    have HT := Lib.hid ht
    have HO := Lib.hid ho
    clear hp ht ho
    go_wp2_with fail
    refine (prise_any b vL' vA _ w2 HP.out).mono ?_
    rintro e w3 ⟨rfl, fp3, hr, ht, hf⟩
    have HR3 := Lib.hid hr
    have HT3 := Lib.hid ht
    have HF3 := Lib.hid hf
    clear hr ht hf
    go_wp2_with fail
    go_ret
    have hfp : ∀ k, k ∈ fpP b vL' vA → k ∈ fpP b vL vA := fun k hk => by
      rcases fpP_mem.1 hk with h' | h' | h'
      · exact fpP_mem.2 (.inl h')
      · exact fpP_mem.2 (.inr (.inl (by rw [← HO.out]; exact h')))
      · exact fpP_mem.2 (.inr (.inr h'))
    refine ⟨by rw [HE.out]; rfl, fp3, by rw [HS.out]; exact HR3.out, (Touch.of_blockP HT.out).trans HT3.out (fun k hk => .inl (hfp k hk)), fun k hk => ?_⟩
    rcases HF3.out k hk with h' | h'
    · exact .inl (hfp k h')
    · exact .inr (Nat.le_trans HT.out.size h')
end
end Go.Proofs.Ythopfpfmliookaa
