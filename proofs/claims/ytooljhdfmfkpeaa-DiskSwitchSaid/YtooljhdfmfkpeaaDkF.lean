/-
  The law package's reads, begun, awake, over what disks are asked to do; the law DiskKnown.
-/
import Derived.Test.YtooljhdfmfkpeaaDkA
import Derived.Test.YtooljhdfmfkpeaaAppAt
namespace Go.Proofs.Ytooljhdfmfkpeaa
set_option linter.unusedSimpArgs false
set_option linter.unusedVariables false
open Go.RowKit Sha Dsk
/-- A call on one object alone. -/
def SDone {S : Type} (R : ObjRep S) (w0 : World) (b : Nat) (s : S) (v : Value) (e : Ending) (w' : World) : Prop := e = .returned v ∧ ∃ fp', Solo R w0 w' b fp' s
theorem Solo.call {S : Type} {R : ObjRep S} {w0 w : World} {b : Nat} {fp : List Nat} {s s' : S} {P : Program} {f : Nat} {args : Array Value} {v : Value} (h : Solo R w0 w b fp s) (hc : Calls P f args w (ODone R b fp s' v w)) : Calls P f args w (SDone R w0 b s' v) :=
  hc.mono fun _ _ ⟨he, fp', hr, ht, hf⟩ => ⟨he, fp', h.step hr ht hf⟩
theorem Solo.see {S : Type} {R : ObjRep S} (K : Held R) {w0 w : World} {b : Nat} {fp : List Nat} {s : S} {P : Program} {f : Nat} {args : Array Value} {v : Value} (h : Solo R w0 w b fp s) (hc : Calls P f args w (QDone v w)) : Calls P f args w (SDone R w0 b s v) :=
  hc.mono fun _ _ ⟨he, k, hw⟩ => ⟨he, fp, by rw [hw]; exact h.on K (below_drewN (Below.refl _ _) k)⟩
theorem at_markC (w : World) (cs : List Value) (t : TypeId) : At (w.alloc (.cells cs.toArray t)) (some ⟨w.heap.size, 0, none⟩) cs := at_made w cs t
theorem good_litC (w : World) (zs : List Int) (cs : Array Value) (n : Nat) (hc : cs = (zs.map v8).toArray) (hn : zs.length = n) (hs : n ≤ 1000) (hb : ∀ x ∈ zs, IsByte x) : GoodC (w.alloc (.cells cs 5)) zs (some ⟨w.heap.size, 0, none⟩) n := by
  subst hc
  exact ⟨hb, at_made w (zs.map v8) 5, by omega, by omega, fun h => by cases h⟩
set_option maxHeartbeats 1000000 in
/-- What a disk reads as, compared. -/
theorem reads_any {R : DiskRep} (F : DisksOK R) (b : Nat) (fp : List Nat) (s : DState) (zs : List Int) (n : Nat) (p : Option Addr) (cap : Nat) (w : World) (h : R w b fp s) (hn : zs.length = n) (hz : GoodC w zs p cap) (ha : ApartC zs p fp) (hE : readE s = 0) (hV : readV s = zs) :
    Calls Try.prog 29 #[optr b, .slice p n cap] w (ODone R b fp s (.bool true) w) := by
  have GZ := Lib.hid hz
  have HN := Lib.hid hn
  have HA := Lib.hid ha
  have HRD := Lib.hid (show Calls Try.prog 16 #[optr b] w (fun e w' => ∃ q c fp', e = .returned (.tuple #[.slice q n c, i64v 0]) ∧ At w' q (zs.map v8) ∧ R w' b fp' s ∧ Touch fp w w' ∧ From fp fp' w) from (F.ok.read b fp s w h).mono (by
    rintro e w' ⟨v, fp', rfl, ho, hr, ht, hf, _⟩
    rw [hV, hn] at ho
    obtain ⟨q, c, rfl, _, _, hA, _, _⟩ := own_at ho.row
    rw [hE]
    exact ⟨q, c, fp', rfl, hA, hr, ht, hf⟩))
  clear h hn hz ha hE hV
  go_enter Try.func29, Try.ntmps29
  go_wp2_with fail
  refine HRD.out.mono ?_
  rintro e w1 ⟨q, c, fp1, rfl, hA, hr, ht, hf⟩
  have A1 := Lib.hid hA
  have R1 := Lib.hid hr
  have T1 := Lib.hid ht
  have F1 := Lib.hid hf
  clear hA hr ht hf HRD
  have HS := Lib.hid (same_true zs n n q p c cap w1 HN.out HN.out A1.out (GZ.out.at_.touchC T1.out HA.out) GZ.out.bytes)
  go_wp2_with fail
  refine HS.out.mono ?_
  rintro e w2 ⟨rfl, rfl⟩
  go_wp2_with fail
  go_ret
  exact ⟨rfl, fp1, R1.out, T1.out, F1.out⟩
section
variable {R : DiskRep} (F : DisksOK R) {w0 w : World} {b : Nat} {fp : List Nat} {s s' : DState}
include F
theorem app_lit (S : Solo R w0 w b fp s) (zs : List Int) (cs : Array Value) (n : Nat) (z : Int) (hc : cs = (zs.map v8).toArray) (hn : zs.length = n) (hs : n ≤ 1000) (hb : ∀ x ∈ zs, IsByte x) (hst : s.steps ≤ 1000) (h1 : appS s zs = s') (h2 : appE s n = z) :
    Calls Try.prog 21 #[optr b, .slice (some ⟨w.heap.size, 0, none⟩) n n] (w.alloc (.cells cs 5)) (SDone R w0 b s' (i64v z)) := by
  have S1 := S.on F.ok.held ((Below.refl w.heap.size w).alloc (Nat.le_refl _) (.cells cs 5))
  have h := F.ok.append b fp s zs n (some ⟨w.heap.size, 0, none⟩) n _ S1.one (by omega) hn (by omega) (good_litC w zs cs n hc hn hs hb) (fun _ a ha e => by cases ha; have := F.ok.held.low S.one _ e; exact Nat.lt_irrefl _ this)
  rw [h1, h2] at h
  exact S1.call h
theorem next_lit (S : Solo R w0 w b fp s) (zs : List Int) (cs : Array Value) (n : Nat) (z : Int) (hc : cs = (zs.map v8).toArray) (hn : zs.length = n) (hs : n ≤ 1000) (hb : ∀ x ∈ zs, IsByte x) (hst : s.steps ≤ 1000) (h1 : nextS s zs = s') (h2 : appE s n = z) :
    Calls Try.prog 23 #[optr b, .slice (some ⟨w.heap.size, 0, none⟩) n n] (w.alloc (.cells cs 5)) (SDone R w0 b s' (i64v z)) := by
  have S1 := S.on F.ok.held ((Below.refl w.heap.size w).alloc (Nat.le_refl _) (.cells cs 5))
  have h := F.ok.next b fp s zs n (some ⟨w.heap.size, 0, none⟩) n _ S1.one (by omega) hn (by omega) (good_litC w zs cs n hc hn hs hb) (fun _ a ha e => by cases ha; have := F.ok.held.low S.one _ e; exact Nat.lt_irrefl _ this)
  rw [h1, h2] at h
  exact S1.call h
theorem reads_lit (S : Solo R w0 w b fp s) (zs : List Int) (cs : Array Value) (n : Nat) (hc : cs = (zs.map v8).toArray) (hn : zs.length = n) (hs : n ≤ 1000) (hb : ∀ x ∈ zs, IsByte x) (h1 : readE s = 0) (h2 : readV s = zs) :
    Calls Try.prog 29 #[optr b, .slice (some ⟨w.heap.size, 0, none⟩) n n] (w.alloc (.cells cs 5)) (SDone R w0 b s (.bool true)) := by
  have S1 := S.on F.ok.held ((Below.refl w.heap.size w).alloc (Nat.le_refl _) (.cells cs 5))
  have h := reads_any F b fp s zs n (some ⟨w.heap.size, 0, none⟩) n _ S1.one hn (good_litC w zs cs n hc hn hs hb) (fun _ a ha e => by cases ha; have := F.ok.held.low S.one _ e; exact Nat.lt_irrefl _ this) h1 h2
  exact S1.call h
theorem sync_of (S : Solo R w0 w b fp s) (z : Int) (hst : s.steps ≤ 1000) (h1 : syncS s = s') (h2 : syncE s = z) : Calls Try.prog 22 #[optr b] w (SDone R w0 b s' (i64v z)) := by
  have h := F.ok.sync b fp s w S.one (by omega); rw [h1, h2] at h; exact S.call h
theorem sw_of (S : Solo R w0 w b fp s) (z : Int) (hst : s.steps ≤ 1000) (h1 : swS s = s') (h2 : syncE s = z) : Calls Try.prog 24 #[optr b] w (SDone R w0 b s' (i64v z)) := by
  have h := F.ok.switch b fp s w S.one (by omega); rw [h1, h2] at h; exact S.call h
theorem fuse_of (S : Solo R w0 w b fp s) (n z : Int) (hn : fit64 n) (h1 : fuseS s n = s') (h2 : fuseE n = z) : Calls Try.prog 26 #[optr b, i64v n] w (SDone R w0 b s' (i64v z)) := by
  have h := F.ok.fuse b fp s n w S.one hn; rw [h1, h2] at h; exact S.call h
theorem crash_of (S : Solo R w0 w b fp s) (n z : Int) (hn : fit64 n) (h1 : crashS s n = s') (h2 : crashE n = z) : Calls Try.prog 27 #[optr b, i64v n] w (SDone R w0 b s' (i64v z)) := by
  have h := F.ok.crash b fp s n w S.one hn; rw [h1, h2] at h; exact S.call h
theorem len_of (S : Solo R w0 w b fp s) (z : Int) (h1 : (s.log.length : Int) = z) : Calls Try.prog 17 #[optr b] w (SDone R w0 b s (i64v z)) := by
  have h := F.sees.len b fp s w S.one; rw [h1] at h; exact S.see F.ok.held h
theorem firm_of (S : Solo R w0 w b fp s) (z : Int) (h1 : (s.firm : Int) = z) : Calls Try.prog 18 #[optr b] w (SDone R w0 b s (i64v z)) := by
  have h := F.sees.firm b fp s w S.one; rw [h1] at h; exact S.see F.ok.held h
theorem up_of (S : Solo R w0 w b fp s) (z : Bool) (h1 : (!s.out) = z) : Calls Try.prog 20 #[optr b] w (SDone R w0 b s (.bool z)) := by
  have h := F.sees.up b fp s w S.one; rw [h1] at h; exact S.see F.ok.held h
theorem read_err (S : Solo R w0 w b fp s) (h1 : readE s = 11) (h2 : readV s = []) : Calls Try.prog 16 #[optr b] w (fun e w' => ∃ v fp', e = .returned (.tuple #[v, i64v 11]) ∧ Solo R w0 w' b fp' s) :=
  (F.ok.read b fp s w S.one).mono (by
    rintro e w' ⟨v, fp', rfl, _, hr, ht, hf, _⟩
    rw [h1]
    exact ⟨v, fp', rfl, S.step hr ht hf⟩)
end
theorem byte_lit {n : Int} (h : 0 ≤ n ∧ n ≤ 255) : IsByte n := h
theorem fit_litD {n : Int} (h : -1000000 ≤ n ∧ n ≤ 1000000) : fit64 n := ⟨by omega, by omega⟩
/-- The chapter's disk behind its first line. -/
def firstS : DState := ⟨[1, 2, 3, 4], 4, [], 10, 3, -1, false⟩
set_option maxRecDepth 100000 in
set_option maxHeartbeats 2000000 in
theorem begun_any {R : DiskRep} (F : DisksOK R) (w : World) : Calls Try.prog 28 #[] w fun e w' => ∃ b fp, e = .returned (optr b) ∧ Solo R w w' b fp firstS := by
  have K := Lib.hid F.ok.held
  go_enter Try.func28, Try.ntmps28
  go_wp2_with fail
  refine (F.ok.new 10 w (fit_litD (by omega))).mono ?_
  rintro e w1 ⟨hb1, ⟨_, b, fp, rfl, hr, hnew⟩ | ⟨hz, _⟩⟩
  · have S1 := Lib.hid (show Solo R w w1 b fp ⟨[], 0, [], 10, 0, -1, false⟩ from ⟨hr, hnew, hb1⟩)
    clear hb1 hr hnew
    go_wp2_with fail
    refine (app_lit F S1.out [1, 2] _ 2 0 rfl rfl (by omega) (by intro x hx; simp at hx; exact byte_lit (by omega)) (by simp) (s' := ⟨[1, 2], 0, [], 10, 1, -1, false⟩) rfl rfl).mono ?_
    rintro e w2 ⟨rfl, fp2, hs⟩
    have S2 := Lib.hid hs
    clear hs S1
    go_wp2_with fail
    refine (sync_of F S2.out 0 (by simp) (s' := ⟨[1, 2], 2, [], 10, 2, -1, false⟩) rfl rfl).mono ?_
    rintro e w3 ⟨rfl, fp3, hs⟩
    have S3 := Lib.hid hs
    clear hs S2
    go_wp2_with fail
    refine (app_lit F S3.out [3, 4, 5] _ 3 0 rfl rfl (by omega) (by intro x hx; simp at hx; exact byte_lit (by omega)) (by simp) (s' := ⟨[1, 2, 3, 4, 5], 2, [], 10, 3, -1, false⟩) rfl rfl).mono ?_
    rintro e w4 ⟨rfl, fp4, hs⟩
    have S4 := Lib.hid hs
    clear hs S3
    go_wp2_with fail
    refine (len_of F S4.out 5 rfl).mono ?_
    rintro e w5 ⟨rfl, fp5, hs⟩
    have S5 := Lib.hid hs
    clear hs S4
    go_wp2_with fail
    refine (firm_of F S5.out 2 rfl).mono ?_
    rintro e w6 ⟨rfl, fp6, hs⟩
    have S6 := Lib.hid hs
    clear hs S5
    go_wp2_with fail
    refine (crash_of F S6.out 2 0 (fit_litD (by omega)) (s' := firstS) rfl rfl).mono ?_
    rintro e w7 ⟨rfl, fp7, hs⟩
    have S7 := Lib.hid hs
    clear hs S6
    go_wp2_with fail
    refine (reads_lit F S7.out [1, 2, 3, 4] _ 4 rfl rfl (by omega) (by intro x hx; simp at hx; exact byte_lit (by omega)) rfl rfl).mono ?_
    rintro e w8 ⟨rfl, fp8, hs⟩
    have S8 := Lib.hid hs
    clear hs S7
    go_wp2_with fail
    go_ret
    exact ⟨b, fp8, rfl, S8.out⟩
  · exact absurd hz (by decide)
theorem awake_any {R : DiskRep} (F : DisksOK R) (w : World) : Calls Try.prog 11 #[] w fun e w' => e = .returned (.bool true) ∧ Below w.heap.size w w' := by
  go_enter Try.func11, Try.ntmps11
  go_wp2_with fail
  refine (begun_any F w).mono ?_
  rintro e w1 ⟨b, fp, rfl, hs⟩
  have B1 := Lib.hid hs.below
  clear hs
  go_wp2_with fail
  go_ret
  exact ⟨rfl, B1.out⟩
set_option maxRecDepth 100000 in
set_option maxHeartbeats 2000000 in
theorem known_any {R : DiskRep} (F : DisksOK R) (w : World) : Calls Try.prog 5 #[] w fun e w' => e = .returned (.bool true) ∧ Below w.heap.size w w' := by
  have K := Lib.hid F.ok.held
  go_enter Try.func5, Try.ntmps5
  go_wp2_with fail
  refine (begun_any F w).mono ?_
  rintro e w1 ⟨b, fp, rfl, hs⟩
  have S1 := Lib.hid hs
  clear hs
  go_wp2_with fail
  refine (next_lit F S1.out [9] _ 1 0 rfl rfl (by omega) (by intro x hx; simp at hx; exact byte_lit (by omega)) (by simp [firstS]) (s' := ⟨[1, 2, 3, 4], 4, [9], 10, 4, -1, false⟩) rfl rfl).mono ?_
  rintro e w2 ⟨rfl, fp2, hs⟩
  have S2 := Lib.hid hs
  clear hs S1
  go_wp2_with fail
  refine (app_lit F S2.out [7, 7, 7, 7, 7, 7] _ 6 8 rfl rfl (by omega) (by intro x hx; simp at hx; exact byte_lit (by omega)) (by simp) (s' := ⟨[1, 2, 3, 4], 4, [9], 10, 4, -1, false⟩) rfl rfl).mono ?_
  rintro e w3 ⟨rfl, fp3, hs⟩
  have S3 := Lib.hid hs
  clear hs S2
  go_wp2_with fail
  refine (sw_of F S3.out 0 (by simp) (s' := ⟨[9], 1, [], 10, 5, -1, false⟩) rfl rfl).mono ?_
  rintro e w4 ⟨rfl, fp4, hs⟩
  have S4 := Lib.hid hs
  clear hs S3
  go_wp2_with fail
  refine (reads_lit F S4.out [9] _ 1 rfl rfl (by omega) (by intro x hx; simp at hx; exact byte_lit (by omega)) rfl rfl).mono ?_
  rintro e w5 ⟨rfl, fp5, hs⟩
  have S5 := Lib.hid hs
  clear hs S4
  go_wp2_with fail
  refine (fuse_of F S5.out 1 0 (fit_litD (by omega)) (s' := ⟨[9], 1, [], 10, 5, 1, false⟩) rfl rfl).mono ?_
  rintro e w6 ⟨rfl, fp6, hs⟩
  have S6 := Lib.hid hs
  clear hs S5
  go_wp2_with fail
  refine (app_lit F S6.out [4] _ 1 0 rfl rfl (by omega) (by intro x hx; simp at hx; exact byte_lit (by omega)) (by simp) (s' := ⟨[9, 4], 1, [], 10, 6, 0, false⟩) rfl rfl).mono ?_
  rintro e w7 ⟨rfl, fp7, hs⟩
  have S7 := Lib.hid hs
  clear hs S6
  go_wp2_with fail
  refine (sync_of F S7.out 11 (by simp) (s' := ⟨[9, 4], 1, [], 10, 7, 0, true⟩) rfl rfl).mono ?_
  rintro e w8 ⟨rfl, fp8, hs⟩
  have S8 := Lib.hid hs
  clear hs S7
  go_wp2_with fail
  refine (up_of F S8.out false rfl).mono ?_
  rintro e w9 ⟨rfl, fp9, hs⟩
  have S9 := Lib.hid hs
  clear hs S8
  go_wp2_with fail
  refine (read_err F S9.out rfl rfl).mono ?_
  rintro e wa ⟨v, fpa, rfl, hs⟩
  have SA := Lib.hid hs
  clear hs S9
  go_wp2_with fail
  refine (crash_of F SA.out 0 0 (fit_litD (by omega)) (s' := ⟨[9], 1, [], 10, 7, -1, false⟩) rfl rfl).mono ?_
  rintro e wb ⟨rfl, fpb, hs⟩
  have SB := Lib.hid hs
  clear hs SA
  go_wp2_with fail
  refine (reads_lit F SB.out [9] _ 1 rfl rfl (by omega) (by intro x hx; simp at hx; exact byte_lit (by omega)) rfl rfl).mono ?_
  rintro e wc ⟨rfl, fpc, hs⟩
  have SC := Lib.hid hs
  clear hs SB
  go_wp2_with fail
  refine (fuse_of F SC.out (-1) 2 (fit_litD (by omega)) (s' := ⟨[9], 1, [], 10, 7, -1, false⟩) rfl rfl).mono ?_
  rintro e wd ⟨rfl, fpd, hs⟩
  have SD := Lib.hid hs
  clear hs SC
  go_wp2_with fail
  refine (crash_of F SD.out (-1) 2 (fit_litD (by omega)) (s' := ⟨[9], 1, [], 10, 7, -1, false⟩) rfl rfl).mono ?_
  rintro e we ⟨rfl, fpe, hs⟩
  have SE := Lib.hid hs
  clear hs SD
  go_wp2_with fail
  refine (F.ok.new (-1) we (fit_litD (by omega))).mono ?_
  rintro e wf ⟨hb, ⟨hz, _⟩ | ⟨_, rfl⟩⟩
  · exact absurd hz (by decide)
  have BF := Lib.hid (SE.out.below.trans (hb.mono SE.out.below.size))
  clear hb SE
  go_wp2_with fail
  go_ret
  exact ⟨rfl, BF.out⟩
end Go.Proofs.Ytooljhdfmfkpeaa
