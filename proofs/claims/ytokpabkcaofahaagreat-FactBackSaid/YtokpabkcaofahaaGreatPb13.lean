/-
  The law package's own small facts: a blob, a keep, a hint, a done, a vote.
  The chapter's examples of facts, plain. No program is named here.
  The kit's SameState (written by mkstate9.py).
  What the fact package is asked; what a state lies apart from.
  The law package of facts: counts, fails, awake.
-/
import Derived.Test.YtokpabkcaofahaaGreatPb12
import Derived.Test.YtokpabkcaofahaaGreatPb8
import Derived.Test.YtokpabkcaofahaaGreatPb6
import Derived.Deep.RegionLaw
import Derived.Deep.DeepCutAuto
import Derived.Deep.CutBlock
import Derived.Test.YtokpabkcaofahaaGreatPb7
import Derived.Laws.StructEq
import Derived.BigQuiet
import Derived.Deep.RegionHeld3
namespace Go.Proofs.YtokpabkcaofahaaGreat
section
set_option linter.unusedSimpArgs false
set_option linter.unusedVariables false
open Go.RowKit Sha Fct
attribute [local go_sem ↓] execOp_allocFact execOp_allocSte execOp_storeFact execOp_storeSte execOp_boxFact execOp_boxSte execOp_loadSte execOp_makeFact execOp_makeSte execOp_buildFacts execOp_loadFact
def FTold (x : Fac) (w : World) (e : Ending) (w' : World) : Prop := ∃ q c, e = .returned (.agg (fcells x q c).toArray) ∧ sF.Good w' x q c ∧ Below w.heap.size w w'
abbrev xid : List Int := Sha.sum [1, 2]
theorem fbytes_any (w : World) : Calls Tryz.prog 74 #[] w fun e w' => e = .returned (.slice (some ⟨w.heap.size, 0, none⟩) 2 2) ∧ w' = w.alloc (Obj.cells #[.int .u8 1, .int .u8 2] 5) := by
  go_enter Tryz.func74, Tryz.ntmps74
  go_wp2_with fail
  go_ret
  exact ⟨rfl, rfl⟩
def FBytes (w : World) (e : Ending) (w' : World) : Prop := ∃ g, e = .returned (.slice (some ⟨g, 0, none⟩) 2 2) ∧ At w' (some ⟨g, 0, none⟩) (([1, 2] : List Int).map v8) ∧ Below w.heap.size w w'
theorem fbytes_told (w : World) : Calls Tryz.prog 74 #[] w (FBytes w) := by
  refine (fbytes_any w).mono ?_
  rintro e w' ⟨rfl, rfl⟩
  have h := Blk.new w #[.int .u8 1, .int .u8 2] 5
  exact ⟨_, rfl, Or.inr ⟨_, 0, rfl, fun i v hi => by rw [Nat.zero_add, h.cell]; exact hi⟩, (Below.refl _ w).alloc (Nat.le_refl _) _⟩
theorem xsum_any (g : Nat) (w : World) (h : At w (some ⟨g, 0, none⟩) (([1, 2] : List Int).map v8)) :
    Calls Tryz.prog 73 #[.slice (some ⟨g, 0, none⟩) 2 2] w fun e w' => e = .returned (.agg (xid.map v8).toArray) ∧ Below w.heap.size w w' :=
  sum_any [1, 2] _ 2 w (by simp) h (by simp) (fun h => by cases h) (by omega)
theorem xid_len : xid.length = 32 := sum32 _
theorem fact_ok0 {k s h n o : Int} {D B : List Int} (hk : fit k) (hs : fit s) (hh : fit h) (hn : fit n) (ho : fit o) (hD : D.length = 32) (hD8 : ∀ n ∈ D, 0 ≤ n ∧ n ≤ 255) (hB : ∀ n ∈ B, 0 ≤ n ∧ n ≤ 255) : (⟨k, s, h, n, o, D, B⟩ : Fac).ok := by
  constructor <;> assumption
theorem fit_small {n : Int} (h : -1000000 ≤ n ∧ n ≤ 1000000) : fit n := by unfold fit; omega
theorem ftold_end {x : Fac} {q : Option Addr} {c : Nat} {w w1 : World} {g : Nat} (hb : Below w.heap.size w w1) (hg : w.heap.size ≤ g) (h : sF.Good w1 x q c) (ho : OutOf g x.B q) (hk : Blk w1 g (fcells fz none 0) 28) :
    Blk (w1.setRow g (fcells x q c).toArray) g (fcells x q c) 28 ∧ FTold x w (.returned (.agg (fcells x q c).toArray)) (w1.setRow g (fcells x q c).toArray) := by
  refine ⟨hk.row _, q, c, rfl, ⟨h.ok, ?_, h.le, h.max, h.nil⟩, Below.setRow hb hg _⟩
  by_cases e : x.B = []
  · have h2 : (sF.byt x).map v8 = [] := by show x.B.map v8 = []; rw [e]; rfl
    rw [h2]; exact At.nil _ _
  · rcases h.at_ with h0 | ⟨b, off, rfl, hc⟩
    · exact .inl h0
    · refine .inr ⟨b, off, rfl, fun i v hi => ?_⟩
      exact (cell_setRow_other w1 g _ ⟨b, off + i, none⟩ (show b ≠ g from ho e ⟨b, off, none⟩ rfl)).trans (hc i v hi)
set_option maxRecDepth 100000 in
set_option maxHeartbeats 1000000 in
theorem fblob_any (w : World) : Calls Tryz.prog 32 #[] w (FTold ⟨3, 0, 0, 0, 0, xid, [1, 2]⟩ w) := by
  have al := fun w => alloc_fact w
  go_enter Tryz.func32, Tryz.ntmps32
  go_wp2_with fail
  obtain ⟨w1, hw1⟩ : ∃ x, x = w.alloc (.cells (fcells fz none 0).toArray 28) := ⟨_, rfl⟩
  have K1 := Lib.hid (show Blk w1 w.heap.size (fcells fz none 0) 28 by rw [hw1]; exact Blk.new w _ _)
  have B1 := Lib.hid (show Below w.heap.size w w1 by rw [hw1]; exact (Below.refl _ w).alloc (Nat.le_refl _) _)
  rw [← hw1]
  clear hw1
  obtain ⟨g0, hg0⟩ : ∃ g, g = w.heap.size := ⟨_, rfl⟩
  rw [← hg0] at K1 ⊢
  have G0 := Lib.hid (show w.heap.size ≤ g0 by omega)
  clear hg0
  refine (fbytes_told w1).mono ?_
  rintro e w2 ⟨g2, rfl, ha2, hb2⟩
  have A2 := Lib.hid ha2
  have B2 := Lib.hid (B1.out.trans (hb2.mono B1.out.size))
  have K2 := Lib.hid (K1.out.below hb2 K1.out.lt)
  clear ha2 hb2 B1 K1
  go_wp2_with fail
  refine (xsum_any g2 w2 A2.out).mono ?_
  rintro e w3 ⟨rfl, hb3⟩
  have B3 := Lib.hid (B2.out.trans (hb3.mono B2.out.size))
  have K3 := Lib.hid (K2.out.below hb3 K2.out.lt)
  clear hb3 B2 K2
  go_wp2_with fail
  refine (fbytes_any w3).mono ?_
  rintro e w4 ⟨rfl, hw4⟩
  have B4 := Lib.hid (show Below w.heap.size w w4 by rw [hw4]; exact B3.out.trans (((Below.refl _ w3).alloc (Nat.le_refl _) _).mono B3.out.size))
  have K4 := Lib.hid (show Blk w4 g0 (fcells fz none 0) 28 by rw [hw4]; exact K3.out.old _)
  have A4 := Lib.hid (show At w4 (some ⟨w3.heap.size, 0, none⟩) (([1, 2] : List Int).map v8) by rw [hw4]; exact Or.inr ⟨_, 0, rfl, fun i v hi => by rw [Nat.zero_add, (Blk.new w3 #[.int .u8 1, .int .u8 2] 5).cell]; exact hi⟩)
  have O4 := Lib.hid (show w3.heap.size ≠ g0 from fun e => by have := K3.out.lt; omega)
  clear hw4 B3 K3
  generalize w3.heap.size = g4 at *
  have mk := run_makeOp w4 (built_blob 3 xid [1, 2] xid_len (some ⟨g4, 0, none⟩) 2 2 rfl)
  have st := store_fact (q := (some ⟨g4, 0, none⟩)) (c := 2) (x := ⟨3, 0, 0, 0, 0, xid, [1, 2]⟩) K4.out zlen xid_len
  go_wp2_with fail
  have hend := ftold_end (q := (some ⟨g4, 0, none⟩)) (c := 2) (x := ⟨3, 0, 0, 0, 0, xid, [1, 2]⟩) B4.out G0.out ⟨fact_ok0 (fit_small (by omega)) (fit_small (by omega)) (fit_small (by omega)) (fit_small (by omega)) (fit_small (by omega)) xid_len (sum8 _) (by simp), A4.out, by simp [sF], by omega, (fun h => by cases h)⟩ (fun _ a ha => by cases ha; exact O4.out) K4.out
  refine bodyPost_ret (v := .agg (fcells ⟨3, 0, 0, 0, 0, xid, [1, 2]⟩ (some ⟨g4, 0, none⟩) 2).toArray) (results_cell_row rfl _ _ _ _ _ _ _ rfl hend.1 (Tryz.underlying28) rfl (fact_sizeA xid_len _ _)) rfl hend.2
set_option maxRecDepth 100000 in
set_option maxHeartbeats 1000000 in
theorem fkeep_any (s : Int) (w : World) (hs : fit s) : Calls Tryz.prog 35 #[.int .i64 s] w (FTold ⟨4, s, 0, 0, 0, xid, []⟩ w) := by
  have al := fun w => alloc_fact w
  go_enter Tryz.func35, Tryz.ntmps35
  go_wp2_with fail
  obtain ⟨w1, hw1⟩ : ∃ x, x = w.alloc (.cells (fcells fz none 0).toArray 28) := ⟨_, rfl⟩
  have K1 := Lib.hid (show Blk w1 w.heap.size (fcells fz none 0) 28 by rw [hw1]; exact Blk.new w _ _)
  have B1 := Lib.hid (show Below w.heap.size w w1 by rw [hw1]; exact (Below.refl _ w).alloc (Nat.le_refl _) _)
  rw [← hw1]
  clear hw1
  obtain ⟨g0, hg0⟩ : ∃ g, g = w.heap.size := ⟨_, rfl⟩
  rw [← hg0] at K1 ⊢
  have G0 := Lib.hid (show w.heap.size ≤ g0 by omega)
  clear hg0
  refine (fbytes_told w1).mono ?_
  rintro e w2 ⟨g2, rfl, ha2, hb2⟩
  have A2 := Lib.hid ha2
  have B2 := Lib.hid (B1.out.trans (hb2.mono B1.out.size))
  have K2 := Lib.hid (K1.out.below hb2 K1.out.lt)
  clear ha2 hb2 B1 K1
  go_wp2_with fail
  refine (xsum_any g2 w2 A2.out).mono ?_
  rintro e w3 ⟨rfl, hb3⟩
  have B3 := Lib.hid (B2.out.trans (hb3.mono B2.out.size))
  have K3 := Lib.hid (K2.out.below hb3 K2.out.lt)
  clear hb3 B2 K2
  have mk := run_makeOp w3 (built_keep 4 s xid xid_len)
  have st := store_fact (q := none) (c := 0) (x := ⟨4, s, 0, 0, 0, xid, []⟩) K3.out zlen xid_len
  go_wp2_with fail
  have hend := ftold_end (q := none) (c := 0) (x := ⟨4, s, 0, 0, 0, xid, []⟩) B3.out G0.out ⟨fact_ok0 (fit_small (by omega)) hs (fit_small (by omega)) (fit_small (by omega)) (fit_small (by omega)) xid_len (sum8 _) (by simp), At.nil _ _, by simp [sF], by omega, (fun _ => rfl)⟩ (fun h => absurd rfl h) K3.out
  refine bodyPost_ret (v := .agg (fcells ⟨4, s, 0, 0, 0, xid, []⟩ none 0).toArray) (results_cell_row rfl _ _ _ _ _ _ _ rfl hend.1 (Tryz.underlying28) rfl (fact_sizeA xid_len _ _)) rfl hend.2
set_option maxRecDepth 100000 in
set_option maxHeartbeats 1000000 in
theorem fhint_any (h s : Int) (w : World) (hh : fit h) (hs : fit s) : Calls Tryz.prog 33 #[.int .i64 h, .int .i64 s] w (FTold ⟨5, s, h, 0, 0, xid, []⟩ w) := by
  have al := fun w => alloc_fact w
  go_enter Tryz.func33, Tryz.ntmps33
  go_wp2_with fail
  obtain ⟨w1, hw1⟩ : ∃ x, x = w.alloc (.cells (fcells fz none 0).toArray 28) := ⟨_, rfl⟩
  have K1 := Lib.hid (show Blk w1 w.heap.size (fcells fz none 0) 28 by rw [hw1]; exact Blk.new w _ _)
  have B1 := Lib.hid (show Below w.heap.size w w1 by rw [hw1]; exact (Below.refl _ w).alloc (Nat.le_refl _) _)
  rw [← hw1]
  clear hw1
  obtain ⟨g0, hg0⟩ : ∃ g, g = w.heap.size := ⟨_, rfl⟩
  rw [← hg0] at K1 ⊢
  have G0 := Lib.hid (show w.heap.size ≤ g0 by omega)
  clear hg0
  refine (fbytes_told w1).mono ?_
  rintro e w2 ⟨g2, rfl, ha2, hb2⟩
  have A2 := Lib.hid ha2
  have B2 := Lib.hid (B1.out.trans (hb2.mono B1.out.size))
  have K2 := Lib.hid (K1.out.below hb2 K1.out.lt)
  clear ha2 hb2 B1 K1
  go_wp2_with fail
  refine (xsum_any g2 w2 A2.out).mono ?_
  rintro e w3 ⟨rfl, hb3⟩
  have B3 := Lib.hid (B2.out.trans (hb3.mono B2.out.size))
  have K3 := Lib.hid (K2.out.below hb3 K2.out.lt)
  clear hb3 B2 K2
  have mk := run_makeOp w3 (built_hint 5 h s xid xid_len)
  have st := store_fact (q := none) (c := 0) (x := ⟨5, s, h, 0, 0, xid, []⟩) K3.out zlen xid_len
  go_wp2_with fail
  have hend := ftold_end (q := none) (c := 0) (x := ⟨5, s, h, 0, 0, xid, []⟩) B3.out G0.out ⟨fact_ok0 (fit_small (by omega)) hs hh (fit_small (by omega)) (fit_small (by omega)) xid_len (sum8 _) (by simp), At.nil _ _, by simp [sF], by omega, (fun _ => rfl)⟩ (fun h => absurd rfl h) K3.out
  refine bodyPost_ret (v := .agg (fcells ⟨5, s, h, 0, 0, xid, []⟩ none 0).toArray) (results_cell_row rfl _ _ _ _ _ _ _ rfl hend.1 (Tryz.underlying28) rfl (fact_sizeA xid_len _ _)) rfl hend.2
set_option maxRecDepth 100000 in
set_option maxHeartbeats 1000000 in
theorem fdone_any (h s : Int) (w : World) (hh : fit h) (hs : fit s) : Calls Tryz.prog 34 #[.int .i64 h, .int .i64 s] w (FTold ⟨6, s, h, 0, 0, xid, []⟩ w) := by
  have al := fun w => alloc_fact w
  go_enter Tryz.func34, Tryz.ntmps34
  go_wp2_with fail
  obtain ⟨w1, hw1⟩ : ∃ x, x = w.alloc (.cells (fcells fz none 0).toArray 28) := ⟨_, rfl⟩
  have K1 := Lib.hid (show Blk w1 w.heap.size (fcells fz none 0) 28 by rw [hw1]; exact Blk.new w _ _)
  have B1 := Lib.hid (show Below w.heap.size w w1 by rw [hw1]; exact (Below.refl _ w).alloc (Nat.le_refl _) _)
  rw [← hw1]
  clear hw1
  obtain ⟨g0, hg0⟩ : ∃ g, g = w.heap.size := ⟨_, rfl⟩
  rw [← hg0] at K1 ⊢
  have G0 := Lib.hid (show w.heap.size ≤ g0 by omega)
  clear hg0
  refine (fbytes_told w1).mono ?_
  rintro e w2 ⟨g2, rfl, ha2, hb2⟩
  have A2 := Lib.hid ha2
  have B2 := Lib.hid (B1.out.trans (hb2.mono B1.out.size))
  have K2 := Lib.hid (K1.out.below hb2 K1.out.lt)
  clear ha2 hb2 B1 K1
  go_wp2_with fail
  refine (xsum_any g2 w2 A2.out).mono ?_
  rintro e w3 ⟨rfl, hb3⟩
  have B3 := Lib.hid (B2.out.trans (hb3.mono B2.out.size))
  have K3 := Lib.hid (K2.out.below hb3 K2.out.lt)
  clear hb3 B2 K2
  have mk := run_makeOp w3 (built_hint 6 h s xid xid_len)
  have st := store_fact (q := none) (c := 0) (x := ⟨6, s, h, 0, 0, xid, []⟩) K3.out zlen xid_len
  go_wp2_with fail
  have hend := ftold_end (q := none) (c := 0) (x := ⟨6, s, h, 0, 0, xid, []⟩) B3.out G0.out ⟨fact_ok0 (fit_small (by omega)) hs hh (fit_small (by omega)) (fit_small (by omega)) xid_len (sum8 _) (by simp), At.nil _ _, by simp [sF], by omega, (fun _ => rfl)⟩ (fun h => absurd rfl h) K3.out
  refine bodyPost_ret (v := .agg (fcells ⟨6, s, h, 0, 0, xid, []⟩ none 0).toArray) (results_cell_row rfl _ _ _ _ _ _ _ rfl hend.1 (Tryz.underlying28) rfl (fact_sizeA xid_len _ _)) rfl hend.2
set_option maxRecDepth 100000 in
set_option maxHeartbeats 1000000 in
theorem fvote_any (k n o : Int) (B : List Int) (q : Option Addr) (m c : Nat) (w : World) (hkf : fit k) (hn : fit n) (ho : fit o) (hm : B.length = m) (hBB : ∀ n ∈ B, 0 ≤ n ∧ n ≤ 255) (hA : At w q (B.map v8)) (hc : m ≤ c) (hcm : c ≤ 9223372036854775807) (hq : q = none → c = 0) : Calls Tryz.prog 36 #[.int .i64 k, .int .i64 n, .int .i64 o, .slice q m c] w (FTold ⟨k, 3, 0, n, o, Fld.zero32, B⟩ w) := by
  have al := fun w => alloc_fact w
  go_enter Tryz.func36, Tryz.ntmps36
  have mk := fun w => run_makeOp w (built_vote k 3 n o B q m c hm)
  have st := fun w => store_fact1 w (q := q) (c := c) (x := ⟨k, 3, 0, n, o, Fld.zero32, B⟩) zlen
  go_wp2_with fail
  have hk := Blk.new w (fcells ⟨k, 3, 0, n, o, Fld.zero32, B⟩ q c).toArray 28
  have hB := (Below.refl w.heap.size w).alloc (Nat.le_refl _) (Obj.cells (fcells ⟨k, 3, 0, n, o, Fld.zero32, B⟩ q c).toArray 28)
  refine bodyPost_ret (v := .agg (fcells ⟨k, 3, 0, n, o, Fld.zero32, B⟩ q c).toArray) (results_cell_row rfl _ _ _ _ _ _ _ rfl hk (Tryz.underlying28) rfl (fact_sizeA zlen _ _)) rfl ?_
  exact ⟨q, c, rfl, ⟨fact_ok0 hkf (fit_small (by omega)) (fit_small (by omega)) hn ho zlen zero8 hBB, hA.alloc _, by show B.length ≤ c; omega, by omega, hq⟩, hB⟩
end
section
namespace Fct
open Fld (zero32)
abbrev xd : List Int := Sha.sum [1, 2]
abbrev eBlob : Fac := ⟨3, 0, 0, 0, 0, xd, [1, 2]⟩
abbrev eKeep (s : Int) : Fac := ⟨4, s, 0, 0, 0, xd, []⟩
abbrev eHint (h s : Int) : Fac := ⟨5, s, h, 0, 0, xd, []⟩
abbrev eDone (h s : Int) : Fac := ⟨6, s, h, 0, 0, xd, []⟩
abbrev eVote (k n o : Int) (b : List Int) : Fac := ⟨k, 3, 0, n, o, zero32, b⟩
abbrev eDrop (s : Int) : Fac := ⟨10, s, 0, 0, 0, zero32, []⟩
theorem e_put : put (eVote 7 5 2 []) = ([7, 3, 5, 2], 0) := by decide +kernel
theorem e_get : get [1] = (⟨1, 0, 0, 0, 0, zero32, []⟩, 0, 0) := by decide +kernel
theorem e_get11 : (get [11]).2 = (2, 0) := by decide +kernel
theorem e_get10 : (get [1, 0]).2 = (4, 1) := by decide +kernel
abbrev cnt (l : List Fac) (a b c : Nat) : Prop := (fold l).2 = 0 ∧ (fold l).1.blobs.length = a ∧ (fold l).1.keeps.length = b ∧ (fold l).1.hints.length = c
theorem e_f1 : cnt [eBlob, eKeep 4, eHint 2 4] 1 1 1 := by decide +kernel
theorem e_f2 : cnt [eBlob, eKeep 4, eHint 2 4, eDrop 4] 0 0 0 := by decide +kernel
theorem e_f3 : cnt [eBlob, eHint 2 4, eDone 2 4] 0 0 0 := by decide +kernel
theorem e_f4 : cnt [eBlob, eKeep 4, eHint 2 4, eDone 2 4] 1 1 0 := by decide +kernel
theorem e_f5 : cnt [eBlob, eHint 2 4, eDone 2 5] 1 0 1 := by decide +kernel
theorem e_v1 : (fold [eVote 7 5 2 [], eVote 8 5 1 [9]]).2 = 0 ∧ (fold [eVote 7 5 2 [], eVote 8 5 1 [9]]).1.votes.map (fun v => (v.AN, v.AO)) = [(0, 0)] := by decide +kernel
theorem e_v2 : (fold [eVote 7 5 2 [], eVote 8 6 1 [9], eVote 7 4 4 []]).2 = 0 ∧ (fold [eVote 7 5 2 [], eVote 8 6 1 [9], eVote 7 4 4 []]).1.votes.map (fun v => (v.PN, v.PO)) = [(6, 1)] := by decide +kernel
end Fct
end
section
set_option linter.unusedSimpArgs false
set_option linter.unusedVariables false
open Go.RowKit Sha Fct
theorem scells_2 (s : Ste) (h : Hds) : (scells s h)[2]? = some (.slice h.b.1 h.b.2.1 h.b.2.2) := by rw [scells_eq]; rfl
theorem scells_3 (s : Ste) (h : Hds) : (scells s h)[3]? = some (.slice h.k.1 h.k.2.1 h.k.2.2) := by rw [scells_eq]; rfl
theorem scells_4 (s : Ste) (h : Hds) : (scells s h)[4]? = some (.slice h.h.1 h.h.2.1 h.h.2.2) := by rw [scells_eq]; rfl
theorem scells_5 (s : Ste) (h : Hds) : (scells s h)[5]? = some (.slice h.v.1 h.v.2.1 h.v.2.2) := by rw [scells_eq]; rfl
/-- What the head compares. -/
def headS (s t : Ste) : Prop := s.born = t.born ∧ s.boot = t.boot ∧ s.blobs.length = t.blobs.length ∧ s.keeps.length = t.keeps.length ∧ s.hints.length = t.hints.length ∧ s.votes.length = t.votes.length ∧ s.decs.length = t.decs.length
instance (s t : Ste) : Decidable (headS s t) := by unfold headS; infer_instance
end
section
set_option linter.unusedSimpArgs false
set_option linter.unusedVariables false
open Go.RowKit Sha Fct
/-- What the fact package is asked. -/
structure FactsBytes : Prop where
  check : ∀ (x : Fac) q c w, sF.Good w x q c → x.B.length ≤ dataMost → Calls Tryz.prog 15 #[.agg (fcells x q c).toArray] w fun e w' => e = .returned (.int .i64 (Fct.check x)) ∧ Below w.heap.size w w'
  put : ∀ (x : Fac) q c w, sF.Good w x q c → x.B.length ≤ dataMost → Calls Tryz.prog 12 #[.agg (fcells x q c).toArray] w (FPut w (Fct.put x))
  get : ∀ (b : List Int) p n c w, b.length = n → (∀ m ∈ b, 0 ≤ m ∧ m ≤ 255) → At w p (b.map v8) → n ≤ c → c ≤ 9223372036854775807 → (p = none → c = 0) → n ≤ 1000000 → Calls Tryz.prog 37 #[.slice p n c] w (FGet w (Fct.get b))
structure FactsFold : Prop extends FactsBytes where
  fold : ∀ (l : List Fac) p n c w, sF.Told w p n c l → l.length ≤ 4 * listMost → (∀ x ∈ l, x.B.length ≤ dataMost) → Calls Tryz.prog 20 #[.slice p n c] w (FSte w (Fct.fold l))
end
section
set_option linter.unusedSimpArgs false
set_option linter.unusedVariables false
open Go.RowKit Sha Fct
attribute [local go_sem ↓] execOp_allocFact execOp_allocSte execOp_storeFact execOp_storeSte execOp_boxFact execOp_boxSte execOp_loadSte execOp_makeFact execOp_makeSte execOp_buildFacts execOp_loadFact
theorem fact_all2 : (Tryz.prog.info? 28).map (fun i => (i.zero, i.size)) = some (some (.agg (fcells fz none 0).toArray), 38) := by unfold fcells; kernel_rfl
theorem build_facts (w : World) (ys : List (Hd Fac)) (hok : ∀ y ∈ ys, y.1.D.length = 32) (hl : ys.length ≤ 100) :
    (buildOp 30 (ys.map sF.row).length ((ys.map sF.row).zipIdx.map fun c => (c.2, Value.agg c.1.toArray)).toArray).run Tryz.prog w = .ok (.value (.slice (some ⟨w.heap.size, 0, none⟩) (ys.map sF.row).length (ys.map sF.row).length)) (w.alloc (.cells (ys.map sF.row).flatten.toArray 28)) :=
  run_buildOp (run_build_items (P := Tryz.prog) w 30 28 38 _ (by omega) Tryz.underlying30 fact_all2 (ys.map sF.row) (by intro c hc; obtain ⟨y, hy, rfl⟩ := List.mem_map.1 hc; exact fcells_length (hok y hy) _ _) (by rw [List.length_map]; omega))
theorem told_facts (w : World) (ys : List (Hd Fac)) (h : ∀ y ∈ ys, sF.Good w y.1 y.2.1 y.2.2) (hl : ys.length ≤ 100) : sF.Told (w.alloc (.cells (ys.map sF.row).flatten.toArray 28)) (some ⟨w.heap.size, 0, none⟩) ys.length ys.length (ys.map (·.1)) := by
  refine ⟨by rw [List.length_map], Nat.le_refl _, by omega, (fun h => by cases h), ys, rfl, ?_, fun y hy => (h y hy).below ((Below.refl _ w).alloc (Nat.le_refl _) _)⟩
  rw [← List.flatMap_def] 
  exact at_made w _ _
set_option maxRecDepth 100000 in
set_option maxHeartbeats 1000000 in
theorem counts_any (F : FactsFold) (X Y Z : Int) (x y z : Nat) (l : List Fac) (p : Option Addr) (n c : Nat) (w : World) (h : sF.Told w p n c l) (hn : n ≤ 1000) (hB : ∀ x ∈ l, x.B.length ≤ dataMost) (he : cnt l x y z) (hX : X = x) (hY : Y = y) (hZ : Z = z) :
    Calls Tryz.prog 31 #[.int .i64 X, .int .i64 Y, .int .i64 Z, .slice p n c] w fun e w' => e = .returned (.bool true) ∧ Below w.heap.size w w' := by
  subst hX hY hZ
  have hlen := h.len
  have HF := Lib.hid (F.fold l p n c w h (by have : listMost = 2000000 := rfl; omega) hB)
  obtain ⟨⟨t, er⟩, ht⟩ : ∃ r, r = Fct.fold l := ⟨_, rfl⟩
  obtain ⟨h0, h1, h2, h3⟩ := he
  rw [← ht] at HF h0 h1 h2 h3
  simp only at h0 h1 h2 h3
  subst h0 h1 h2 h3
  unfold FSte at HF
  have al := fun w => alloc_ste w
  have st := fun w h => store_ste1 w t h
  clear h hB ht hlen
  go_enter Tryz.func31, Tryz.ntmps31
  go_wp2_with fail
  refine HF.out.mono ?_
  rintro e w1 ⟨hd, rfl, hg, hb⟩
  have l1 := hg.b.len
  have l2 := hg.k.len
  have l3 := hg.h.len
  have HB := Lib.hid hb
  have HK := Lib.hid (Blk.new w1 (scells t hd).toArray 47)
  have c2 : (w1.alloc (.cells (scells t hd).toArray 47)).cell? ⟨w1.heap.size, 2, none⟩ = some (.slice hd.b.1 t.blobs.length hd.b.2.2) := by rw [← l1]; exact (HK.out.cell 2).trans (scells_2 t hd)
  have c3 : (w1.alloc (.cells (scells t hd).toArray 47)).cell? ⟨w1.heap.size, 3, none⟩ = some (.slice hd.k.1 t.keeps.length hd.k.2.2) := by rw [← l2]; exact (HK.out.cell 3).trans (scells_3 t hd)
  have c4 : (w1.alloc (.cells (scells t hd).toArray 47)).cell? ⟨w1.heap.size, 4, none⟩ = some (.slice hd.h.1 t.hints.length hd.h.2.2) := by rw [← l3]; exact (HK.out.cell 4).trans (scells_4 t hd)
  clear hg hb HF l1 l2 l3
  go_wp2_with fail
  go_ret
  exact ⟨rfl, HB.out.trans (((Below.refl _ w1).alloc (Nat.le_refl _) _).mono HB.out.size)⟩
set_option maxRecDepth 100000 in
set_option maxHeartbeats 1000000 in
theorem fails_any (F : FactsFold) (er : Int) (at_ : Nat) (b : List Int) (p : Option Addr) (n c : Nat) (w : World) (hn : b.length = n) (hb : ∀ m ∈ b, 0 ≤ m ∧ m ≤ 255) (hA : At w p (b.map v8)) (hc : n ≤ c) (hcm : c ≤ 9223372036854775807) (hp : p = none → c = 0) (hs : n ≤ 1000) (he : (Fct.get b).2 = (er, at_)) (h0 : er ≠ 0) :
    Calls Tryz.prog 30 #[.int .i64 er, .int .i64 at_, .slice p n c] w fun e w' => e = .returned (.bool true) ∧ Below w.heap.size w w' := by
  have HG := Lib.hid (F.get b p n c w hn hb hA hc hcm hp (by omega))
  have hz := (get_err hb (by rw [he]; exact h0)).1
  obtain ⟨⟨f, r⟩, ht⟩ : ∃ r, r = Fct.get b := ⟨_, rfl⟩
  rw [← ht] at HG he hz
  simp only at he hz
  subst he hz
  unfold FGet at HG
  have al := fun w => alloc_fact w
  have st := fun w o q c => store_fact2 w o (x := Fct.none_) (q := q) (c := c) zlen
  clear hn hb hA hc hcm hp hs ht
  go_enter Tryz.func30, Tryz.ntmps30
  go_wp2_with fail
  refine HG.out.mono ?_
  rintro e w1 ⟨q, d, rfl, hg, hb⟩
  have HB := Lib.hid hb
  have c0 : ∀ o, ((w1.alloc (.cells (fcells Fct.none_ q d).toArray 28)).alloc o).cell? ⟨w1.heap.size, 0, none⟩ = some (.int .i64 0) := fun o => (((Blk.new w1 (fcells Fct.none_ q d).toArray 28).old o).cell 0).trans (fcells_K Fct.none_ q d)
  clear hg hb HG
  go_wp2_with fail
  go_ret
  exact ⟨rfl, HB.out.trans ((((Below.refl _ w1).alloc (Nat.le_refl _) _).alloc (by simp) _).mono HB.out.size)⟩
theorem drop_good {w : World} (s : Int) (h : fit s := by exact fit_small (by omega)) : sF.Good w (eDrop s) none 0 :=
  ⟨fact_ok0 (fit_small (by omega)) h (fit_small (by omega)) (fit_small (by omega)) (fit_small (by omega)) zlen zero8 (by simp), At.nil _ _, by simp [sF], by omega, fun _ => rfl⟩
set_option maxRecDepth 100000 in
set_option maxHeartbeats 4000000 in
theorem awake_any (F : FactsFold) (w : World) : Calls Tryz.prog 10 #[] w fun e w' => e = .returned (.bool true) ∧ Below w.heap.size w w' := by
  have al := fun w => alloc_fact w
  have HP := Lib.hid e_put
  have HGT := Lib.hid e_get
  go_enter Tryz.func10, Tryz.ntmps10
  go_wp2_with fail
  refine (fvote_any 7 5 2 [] none 0 0 w (fit_small (by omega)) (fit_small (by omega)) (fit_small (by omega)) rfl (by simp) (At.nil _ _) (by omega) (by omega) (fun _ => rfl)).mono ?_
  rintro e w1 ⟨q, d, rfl, hg, hb⟩
  have B1 := Lib.hid hb
  have G1 := Lib.hid hg
  clear hb hg
  go_wp2_with fail
  refine (F.put _ q d w1 G1.out (by simp)).mono ?_
  rintro e w2 ⟨v, he, ho, hb⟩
  rw [HP.out] at he ho
  subst he
  obtain ⟨p2, c2, rfl, hl2, hm2, hA2, _, hn2⟩ := own_at ho.row
  have A2 := Lib.hid hA2
  have B2 := Lib.hid (B1.out.trans (hb.mono B1.out.size))
  clear ho hb hA2 hn2 hl2 hm2 B1 G1
  go_wp2_with fail
  refine (F.get [1] _ 1 1 _ rfl (by simp) (at_made w2 [.int .u8 1] 5) (by omega) (by omega) (fun h => by cases h) (by omega)).mono ?_
  rintro e w4 ⟨q4, d4, he, hg4, hb4⟩
  rw [HGT.out] at he hg4
  subst he
  have hb24 : Below w2.heap.size w2 w4 := ((Below.refl w2.heap.size w2).alloc (Nat.le_refl _) _).trans (hb4.mono (by simp))
  have A4 := Lib.hid (A2.out.below hb24)
  have B4 := Lib.hid (B2.out.trans (hb24.mono B2.out.size))
  have st := fun o => store_fact2 w4 o (x := ⟨1, 0, 0, 0, 0, Fld.zero32, []⟩) (q := q4) (c := d4) zlen
  clear hg4 hb4 hb24 B2 A2
  go_wp2_with fail
  have K4 := Lib.hid (Blk.new w4 (fcells ⟨1, 0, 0, 0, 0, Fld.zero32, []⟩ q4 d4).toArray 28)
  obtain ⟨w5, hw5⟩ : ∃ x, x = (((w4.alloc (Obj.cells (fcells ⟨1, 0, 0, 0, 0, Fld.zero32, []⟩ q4 d4).toArray 28)).alloc (Obj.cells #[Value.int .i64 0, Value.int .i64 0] 64)).alloc (Obj.cells #[Value.int .u8 7, Value.int .u8 3, Value.int .u8 5, Value.int .u8 2] 5)) := ⟨_, rfl⟩
  have hz1 : (w4.alloc (Obj.cells (fcells ⟨1, 0, 0, 0, 0, Fld.zero32, []⟩ q4 d4).toArray 28)).heap.size = w4.heap.size + 1 := World.size_alloc ..
  have hz2 : ((w4.alloc (Obj.cells (fcells ⟨1, 0, 0, 0, 0, Fld.zero32, []⟩ q4 d4).toArray 28)).alloc (Obj.cells #[Value.int .i64 0, Value.int .i64 0] 64)).heap.size = w4.heap.size + 1 + 1 := by rw [World.size_alloc, hz1]
  have cK : w5.cell? ⟨w4.heap.size, 0, none⟩ = some (.int .i64 1) := by rw [hw5]; exact (((K4.out.old _).old _).cell 0).trans (fcells_K _ _ _)
  have cE : w5.cell? ⟨w4.heap.size + 1, 0, none⟩ = some (.int .i64 0) := by rw [hw5, ← hz1]; exact ((Blk.new _ #[Value.int .i64 0, Value.int .i64 0] 64).old _).cell 0
  have hb5 : Below w4.heap.size w4 w5 := by rw [hw5]; exact (((Below.refl w4.heap.size w4).alloc (Nat.le_refl _) _).alloc (by rw [hz1]; omega) _).alloc (by rw [hz2]; omega) _
  have A5 := Lib.hid (A4.out.below hb5)
  have L5 := Lib.hid (show At w5 (some ⟨w4.heap.size + 1 + 1, 0, none⟩) (([7, 3, 5, 2] : List Int).map v8) by rw [hw5, ← hz2]; exact at_made _ [.int .u8 7, .int .u8 3, .int .u8 5, .int .u8 2] _)
  have Bw5 := Lib.hid (B4.out.trans (hb5.mono B4.out.size))
  rw [← hw5]
  clear hw5 hz1 hz2 hb5 K4 A4 B4 st
  refine (same_true [7, 3, 5, 2] 4 4 p2 _ c2 4 w5 rfl rfl A5.out L5.out (by simp)).mono ?_
  rintro e w6 ⟨rfl, rfl⟩
  clear A5 L5
  go_wp2_with fail
  refine (fblob_any w5).mono ?_
  rintro e u1 ⟨q1, d1, rfl, hg, hb⟩
  have Bu1 := Lib.hid (Bw5.out.trans (hb.mono Bw5.out.size))
  have Gu1 := Lib.hid hg
  clear hg hb Bw5
  go_wp2_with fail
  refine (fkeep_any 4 u1 (fit_small (by omega))).mono ?_
  rintro e u2 ⟨q2, d2, rfl, hg, hb⟩
  have Bu2 := Lib.hid (Bu1.out.trans (hb.mono Bu1.out.size))
  have Gu1 := Lib.hid (Gu1.out.below hb)
  have Gu2 := Lib.hid hg
  clear hg hb Bu1
  go_wp2_with fail
  refine (fhint_any 2 4 u2 (fit_small (by omega)) (fit_small (by omega))).mono ?_
  rintro e u3 ⟨q3, d3, rfl, hg, hb⟩
  have Bu3 := Lib.hid (Bu2.out.trans (hb.mono Bu2.out.size))
  have Gu1 := Lib.hid (Gu1.out.below hb)
  have Gu2 := Lib.hid (Gu2.out.below hb)
  have Gu3 := Lib.hid hg
  clear hg hb Bu2
  have bf : (buildOp 30 3 #[(0, Value.agg (fcells (eBlob) q1 d1).toArray), (1, Value.agg (fcells (eKeep 4) q2 d2).toArray), (2, Value.agg (fcells (eHint 2 4) q3 d3).toArray)]).run Tryz.prog u3 = .ok (.value (.slice (some ⟨u3.heap.size, 0, none⟩) 3 3)) (u3.alloc (.cells (([(eBlob, q1, d1), (eKeep 4, q2, d2), (eHint 2 4, q3, d3)] : List (Hd Fac)).map sF.row).flatten.toArray 28)) := build_facts u3 [(eBlob, q1, d1), (eKeep 4, q2, d2), (eHint 2 4, q3, d3)] (by intro y hy; simp only [List.mem_cons, List.not_mem_nil, or_false] at hy; rcases hy with rfl | rfl | rfl <;> first | exact sum32 _ | exact zlen) (by simp)
  have tf := told_facts u3 [(eBlob, q1, d1), (eKeep 4, q2, d2), (eHint 2 4, q3, d3)] (by intro y hy; simp only [List.mem_cons, List.not_mem_nil, or_false] at hy; rcases hy with rfl | rfl | rfl <;> first | exact Gu1.out | exact Gu2.out | exact Gu3.out | exact drop_good _) (by simp)
  have hb := (Below.refl u3.heap.size u3).alloc (Nat.le_refl _) (.cells (([(eBlob, q1, d1), (eKeep 4, q2, d2), (eHint 2 4, q3, d3)] : List (Hd Fac)).map sF.row).flatten.toArray 28)
  obtain ⟨u4, hnw⟩ : ∃ x, x = u3.alloc (.cells (([(eBlob, q1, d1), (eKeep 4, q2, d2), (eHint 2 4, q3, d3)] : List (Hd Fac)).map sF.row).flatten.toArray 28) := ⟨_, rfl⟩
  rw [← hnw] at bf tf hb
  have Tu4 := Lib.hid tf
  have Bu4 := Lib.hid (Bu3.out.trans (hb.mono Bu3.out.size))
  clear tf hb hnw Gu1 Gu2 Gu3 Bu3
  go_wp2_with fail
  refine (counts_any F _ _ _ 1 1 1 [eBlob, eKeep 4, eHint 2 4] _ 3 3 u4 Tu4.out (by omega) (by simp [show 2 ≤ dataMost from by decide]) e_f1 rfl rfl rfl).mono ?_
  rintro e u5 ⟨rfl, hb⟩
  have Bu5 := Lib.hid (Bu4.out.trans (hb.mono Bu4.out.size))
  clear hb bf Tu4 Bu4
  go_wp2_with fail
  refine (fblob_any u5).mono ?_
  rintro e u6 ⟨q6, d6, rfl, hg, hb⟩
  have Bu6 := Lib.hid (Bu5.out.trans (hb.mono Bu5.out.size))
  have Gu6 := Lib.hid hg
  clear hg hb Bu5
  go_wp2_with fail
  refine (fkeep_any 4 u6 (fit_small (by omega))).mono ?_
  rintro e u7 ⟨q7, d7, rfl, hg, hb⟩
  have Bu7 := Lib.hid (Bu6.out.trans (hb.mono Bu6.out.size))
  have Gu6 := Lib.hid (Gu6.out.below hb)
  have Gu7 := Lib.hid hg
  clear hg hb Bu6
  go_wp2_with fail
  refine (fhint_any 2 4 u7 (fit_small (by omega)) (fit_small (by omega))).mono ?_
  rintro e u8 ⟨q8, d8, rfl, hg, hb⟩
  have Bu8 := Lib.hid (Bu7.out.trans (hb.mono Bu7.out.size))
  have Gu6 := Lib.hid (Gu6.out.below hb)
  have Gu7 := Lib.hid (Gu7.out.below hb)
  have Gu8 := Lib.hid hg
  clear hg hb Bu7
  have bf : (buildOp 30 4 #[(0, Value.agg (fcells (eBlob) q6 d6).toArray), (1, Value.agg (fcells (eKeep 4) q7 d7).toArray), (2, Value.agg (fcells (eHint 2 4) q8 d8).toArray), (3, Value.agg (fcells (eDrop 4) none 0).toArray)]).run Tryz.prog u8 = .ok (.value (.slice (some ⟨u8.heap.size, 0, none⟩) 4 4)) (u8.alloc (.cells (([(eBlob, q6, d6), (eKeep 4, q7, d7), (eHint 2 4, q8, d8), (eDrop 4, none, 0)] : List (Hd Fac)).map sF.row).flatten.toArray 28)) := build_facts u8 [(eBlob, q6, d6), (eKeep 4, q7, d7), (eHint 2 4, q8, d8), (eDrop 4, none, 0)] (by intro y hy; simp only [List.mem_cons, List.not_mem_nil, or_false] at hy; rcases hy with rfl | rfl | rfl | rfl <;> first | exact sum32 _ | exact zlen) (by simp)
  have tf := told_facts u8 [(eBlob, q6, d6), (eKeep 4, q7, d7), (eHint 2 4, q8, d8), (eDrop 4, none, 0)] (by intro y hy; simp only [List.mem_cons, List.not_mem_nil, or_false] at hy; rcases hy with rfl | rfl | rfl | rfl <;> first | exact Gu6.out | exact Gu7.out | exact Gu8.out | exact drop_good _) (by simp)
  have hb := (Below.refl u8.heap.size u8).alloc (Nat.le_refl _) (.cells (([(eBlob, q6, d6), (eKeep 4, q7, d7), (eHint 2 4, q8, d8), (eDrop 4, none, 0)] : List (Hd Fac)).map sF.row).flatten.toArray 28)
  obtain ⟨u10, hnw⟩ : ∃ x, x = u8.alloc (.cells (([(eBlob, q6, d6), (eKeep 4, q7, d7), (eHint 2 4, q8, d8), (eDrop 4, none, 0)] : List (Hd Fac)).map sF.row).flatten.toArray 28) := ⟨_, rfl⟩
  rw [← hnw] at bf tf hb
  have Tu10 := Lib.hid tf
  have Bu10 := Lib.hid (Bu8.out.trans (hb.mono Bu8.out.size))
  have mk := fun w => run_makeOp (P := Tryz.prog) w (parts := #[(0, .int .i64 10), (1, .int .i64 4)]) (built_set 10 4)
  clear tf hb hnw Gu6 Gu7 Gu8 Bu8
  go_wp2_with fail
  refine (counts_any F _ _ _ 0 0 0 [eBlob, eKeep 4, eHint 2 4, eDrop 4] _ 4 4 u10 Tu10.out (by omega) (by simp [show 2 ≤ dataMost from by decide]) e_f2 rfl rfl rfl).mono ?_
  rintro e u11 ⟨rfl, hb⟩
  have Bu11 := Lib.hid (Bu10.out.trans (hb.mono Bu10.out.size))
  clear hb bf Tu10 Bu10 mk
  go_wp2_with fail
  go_ret
  exact ⟨rfl, Bu11.out⟩
end
end Go.Proofs.YtokpabkcaofahaaGreat
