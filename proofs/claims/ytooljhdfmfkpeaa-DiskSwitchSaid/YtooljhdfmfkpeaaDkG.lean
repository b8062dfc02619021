/-
  An act of a disk of the program's and of the reference's, side by side. (Made by scripts/mkdoes7.py.)
-/
import Derived.Test.YtooljhdfmfkpeaaDkE
import Derived.Test.YtooljhdfmfkpeaaDkF
import Derived.Test.YtooljhdfmfkpeaaActD
import Derived.Test.YtooljhdfmfkpeaaLent
import Derived.Deep.RegionLaw
namespace Go.Proofs.Ytooljhdfmfkpeaa
set_option linter.unusedSimpArgs false
set_option linter.unusedVariables false
open Go.RowKit Sha Dsk
abbrev TwoD (R : DiskRep) (w0 w : World) (b1 : Nat) (f1 : List Nat) (b2 : Nat) (f2 : List Nat) (s : DState) : Prop := Pair R RefDisk w0 w b1 f1 s b2 f2 s
/-- A call aside leaves the two as they were. -/
theorem Pair.asideD {S1 S2 : Type} {R1 : ObjRep S1} {R2 : ObjRep S2} (K1 : Held R1) (K2 : Held R2) {w0 w w' : World} {b1 b2 : Nat} {f1 f2 fp : List Nat} {s1 : S1} {s2 : S2} (h : Pair R1 R2 w0 w b1 f1 s1 b2 f2 s2) (ht : Touch fp w w') (h1 : Apart fp f1) (h2 : Apart fp f2) (hn : ∀ k ∈ fp, w0.heap.size ≤ k) : Pair R1 R2 w0 w' b1 f1 s1 b2 f2 s2 :=
  ⟨K1.touch h.one ht h1, K2.touch h.two ht h2, h.apart, h.new1, h.new2, h.below.trans (ht.below hn h.below.size)⟩
/-- Two disks, the act's box, the bytes lent. -/
structure Sc (R : DiskRep) (w0 w : World) (b1 : Nat) (f1 : List Nat) (s1 : DState) (b2 : Nat) (f2 : List Nat) (s2 : DState) (g : Nat) (cs : List Value) (g2 : Nat) (cs2 : List Value) : Prop where
  pair : Pair R RefDisk w0 w b1 f1 s1 b2 f2 s2
  box : Blk w g cs 34
  lent : Blk w g2 cs2 5
  o1 : g ∉ f1
  o2 : g ∉ f2
  l1 : g2 ∉ f1
  l2 : g2 ∉ f2
section
variable {R : DiskRep} {w0 w w' : World} {b1 b2 g g2 : Nat} {f1 f2 f' : List Nat} {s1 s2 s' : DState} {cs cs2 : List Value}
theorem Sc.step1 (h : Sc R w0 w b1 f1 s1 b2 f2 s2 g cs g2 cs2) (hr : R w' b1 f' s') (ht : Touch f1 w w') (hf : From f1 f' w) : Sc R w0 w' b1 f' s' b2 f2 s2 g cs g2 cs2 :=
  ⟨h.pair.step1 refHeldD hr ht hf, (ht.block g h.box.lt h.o1).trans h.box, (ht.block g2 h.lent.lt h.l1).trans h.lent, fun e => by rcases hf g e with h' | h'; exact h.o1 h'; have := h.box.lt; omega, h.o2, fun e => by rcases hf g2 e with h' | h'; exact h.l1 h'; have := h.lent.lt; omega, h.l2⟩
theorem Sc.step2 (K : Held R) (h : Sc R w0 w b1 f1 s1 b2 f2 s2 g cs g2 cs2) (hr : RefDisk w' b2 f' s') (ht : Touch f2 w w') (hf : From f2 f' w) : Sc R w0 w' b1 f1 s1 b2 f' s' g cs g2 cs2 :=
  ⟨h.pair.step2 K hr ht hf, (ht.block g h.box.lt h.o2).trans h.box, (ht.block g2 h.lent.lt h.l2).trans h.lent, h.o1, fun e => by rcases hf g e with h' | h'; exact h.o2 h'; have := h.box.lt; omega, h.l1, fun e => by rcases hf g2 e with h' | h'; exact h.l2 h'; have := h.lent.lt; omega⟩
theorem Sc.on (K : Held R) (h : Sc R w0 w b1 f1 s1 b2 f2 s2 g cs g2 cs2) (hb : Below w.heap.size w w') : Sc R w0 w' b1 f1 s1 b2 f2 s2 g cs g2 cs2 :=
  ⟨h.pair.on K refHeldD hb, h.box.below hb h.box.lt, h.lent.below hb h.lent.lt, h.o1, h.o2, h.l1, h.l2⟩
end
def DoesDone (R : DiskRep) (w0 : World) (b1 b2 : Nat) (m : Nat) (e : Ending) (w' : World) : Prop := e = .returned (.bool true) ∧ ∃ f1 f2 s', TwoD R w0 w' b1 f1 b2 f2 s' ∧ s'.steps ≤ m
set_option maxRecDepth 100000 in
set_option maxHeartbeats 8000000 in
theorem does_any {R : DiskRep} (F : DisksOK R) (w0 w : World) (b1 : Nat) (f1 : List Nat) (b2 : Nat) (f2 : List Nat) (s : DState) (kd x : Int) (zs : List Int) (n : Nat) (p : Option Addr) (c : Nat) (h : TwoD R w0 w b1 f1 b2 f2 s) (hx : fit64 x) (hn : zs.length = n) (hm : n ≤ 200) (hz : GoodC w0 zs p c) (hst : s.steps ≤ 1000) :
    Calls Try.prog 14 #[optr b1, optr b2, .agg #[i64v kd, i64v x, .slice p n c]] w (DoesDone R w0 b1 b2 (s.steps + 1)) := by
  have K := Lib.hid F.ok.held
  have HX := Lib.hid hx
  have GZ := Lib.hid hz
  have HN := Lib.hid hn
  have HST := Lib.hid hst
  have hc1 := hz.le
  have hc2 := hz.max
  rw [hn] at hc1
  have HP := Lib.hid h
  have HBX := Lib.hid (Blk.new w #[i64v kd, i64v x, .slice p n c] 34)
  have HW1 := Lib.hid ((Below.refl w.heap.size w).alloc (Nat.le_refl _) (.cells #[i64v kd, i64v x, .slice p n c] 34))
  have HSZ := Lib.hid (World.size_alloc w (.cells #[i64v kd, i64v x, .slice p n c] 34))
  clear h hx hz hn hst
  go_enter Try.func14, Try.ntmps14
  generalize hg : w.heap.size = g at *
  obtain ⟨w1, hw1⟩ : ∃ W, W = w.alloc (.cells #[i64v kd, i64v x, .slice p n c] 34) := ⟨_, rfl⟩
  rw [← hw1] at HBX HW1 HSZ
  have c2 : w1.cell? ⟨g, 2, none⟩ = some (.slice p n c) := HBX.out.cell 2
  go_wp2_with (refine wpList_box_arr rfl 34 _ rfl _ rfl ?_; rw [hg, ← hw1]; clear hw1)
  have HB1 := Lib.hid (show Below w.heap.size w w1 by rw [hg]; exact HW1.out)
  have P1 := Lib.hid (HP.out.on K.out refHeldD HB1.out)
  have G1 := Lib.hid (GZ.out.below P1.out.below)
  refine (lent8_any zs n p c w1 HN.out G1.out.at_ hc1 G1.out.nil (by omega)).mono ?_
  rintro e w2 ⟨g2, rest, rfl, hbk, hbi, hg2, hb2⟩
  have S2 := Lib.hid (show Sc R w0 w2 b1 f1 s b2 f2 s g [i64v kd, i64v x, .slice p n c] g2 ((zs ++ markList).map v8 ++ rest) from ⟨P1.out.on K.out refHeldD hb2, HBX.out.below hb2 HBX.out.lt, hbk, fun e => by have := K.out.low HP.out.one g e; omega, fun e => by have := refHeldD.low HP.out.two g e; omega, fun e => by have := K.out.low P1.out.one g2 e; omega, fun e => by have := refHeldD.low P1.out.two g2 e; omega⟩)
  have HBI := Lib.hid hbi
  have HG2 := Lib.hid (show w0.heap.size ≤ g2 from Nat.le_trans P1.out.below.size hg2)
  have HAZ := Lib.hid (fun W (hb : Below w0.heap.size w0 W) => (GZ.out.below hb).at_)
  have HGI := Lib.hid (show GoodC w2 zs (some ⟨g2, 0, none⟩) (n + 4) from ⟨GZ.out.bytes, by rw [List.map_append, List.append_assoc] at hbk; exact (show At w2 (some ⟨g2, 0, none⟩) (zs.map v8 ++ (markList.map v8 ++ rest)) from .inr ⟨g2, 0, rfl, fun i v hi => by rw [Nat.zero_add, hbk.cell]; exact hi⟩).front, by rw [HN.out]; omega, by omega, fun h => by cases h⟩)
  have HKP := Lib.hid (fun W (f1 f2 : List Nat) (s1 s2 : DState) (h : Sc R w0 W b1 f1 s1 b2 f2 s2 g [i64v kd, i64v x, .slice p n c] g2 ((zs ++ markList).map v8 ++ rest)) => show Calls Try.prog 48 #[.slice (some ⟨g2, 0, none⟩) n (n + 4), .slice p n c] W (fun e w' => e = .returned (.bool true) ∧ Below W.heap.size W w') from kept_any zs n g2 p c W HN.out GZ.out.bytes ((show At W (some ⟨g2, 0, none⟩) ((zs ++ markList).map v8 ++ rest) from .inr ⟨g2, 0, rfl, fun i v hi => by rw [Nat.zero_add, h.lent.cell]; exact hi⟩).front) (HAZ.out W h.pair.below) (by omega))
  have HOV := Lib.hid (fun W (f1 f2 : List Nat) (s1 : DState) (h : Sc R w0 W b1 f1 s1 b2 f2 s1 g [i64v kd, i64v x, .slice p n c] g2 ((zs ++ markList).map v8 ++ rest)) => show Calls Try.prog 49 #[.slice (some ⟨g2, 0, none⟩) n (n + 4)] W (fun e w' => e = .returned (.tuple #[]) ∧ TwoD R w0 w' b1 f1 b2 f2 s1) from (overB_any g2 n (n + 4) _ W h.lent (by rw [List.length_append, List.length_map, List.length_append, HN.out, markList_length]; omega) (by omega) (by omega) HBI.out).mono (by
    rintro e w' ⟨rfl, ht⟩
    exact ⟨rfl, h.pair.asideD K.out refHeldD ht (fun k hk h' => by simp at hk; subst hk; exact h.l1 h') (fun k hk h' => by simp at hk; subst hk; exact h.l2 h') (fun k hk => by simp at hk; subst hk; exact HG2.out)⟩))
  have e0 : w2.cell? ⟨g, 0, none⟩ = some (i64v kd) := S2.out.box.cell 0
  have e1 : w2.cell? ⟨g, 1, none⟩ = some (i64v x) := S2.out.box.cell 1
  have e2 : w2.cell? ⟨g, 2, none⟩ = some (.slice p n c) := S2.out.box.cell 2
  clear hbk hbi hg2 hb2 HBX HW1 HSZ HB1 P1 G1 HP c2 hg
  generalize hcs : ((zs ++ markList).map v8 ++ rest) = cs2 at *
  clear hcs
  have HIN := Lib.hid (fun W (f1 f2 : List Nat) (s1 s2 : DState) (h : Sc R w0 W b1 f1 s1 b2 f2 s2 g [i64v kd, i64v x, .slice p n c] g2 cs2) => show At W (some ⟨g2, 0, none⟩) (zs.map v8) from HGI.out.at_.blocks fun a ha => by cases ha; exact h.lent.trans S2.out.lent.symm)
  by_cases k0 : kd = 0
  · subst k0
    have HPX := Lib.hid (fun W (f1 f2 : List Nat) (s2 s1 : DState) (h : Sc R w0 W b1 f1 s b2 f2 s2 g [i64v 0, i64v x, .slice p n c] g2 cs2) => show Calls Try.prog 21 #[optr b1, .slice (some ⟨g2, 0, none⟩) n (n + 4)] W (ODone R b1 f1 (appS s zs) (i64v (appE s n)) W) from F.ok.append b1 f1 s zs n (some ⟨g2, 0, none⟩) (n + 4) W h.pair.one (by have := HST.out; omega) HN.out (by omega) ⟨GZ.out.bytes, HIN.out W f1 f2 s s2 h, by rw [HN.out]; omega, by omega, fun h => by cases h⟩ (fun _ a ha => by cases ha; exact h.l1))
    have HPR := Lib.hid (fun W (f1 f2 : List Nat) (s1 : DState) (h : Sc R w0 W b1 f1 s1 b2 f2 s g [i64v 0, i64v x, .slice p n c] g2 cs2) => show Calls Try.prog 40 #[optr b2, .slice p n c] W (ODone RefDisk b2 f2 (appS s zs) (i64v (appE s n)) W) from refDiskOK.append b2 f2 s zs n p c W h.pair.two (by have := HST.out; omega) HN.out (by omega) (GZ.out.below h.pair.below) (fun hne a ha e => by have h1 := GZ.out.block_lt hne a ha; have h2 := h.pair.new2 _ e; omega))
    have HSP := Lib.hid (show (appS s zs).steps ≤ s.steps + 1 from steps_app s zs)
    obtain ⟨s', hs'⟩ : ∃ y, y = (appS s zs) := ⟨_, rfl⟩
    obtain ⟨z, hz⟩ : ∃ y, y = (appE s n) := ⟨_, rfl⟩
    rw [← hs', ← hz] at HPX HPR
    rw [← hs'] at HSP
    clear hs' hz HIN
    have SD := Lib.hid (S2.out.on K.out (show Below w2.heap.size w2 w2.drew from below_drewN (Below.refl _ _) 1))
    have ed : w2.drew.cell? ⟨g, 2, none⟩ = some (.slice p n c) := SD.out.box.cell 2
    go_wp2_with fail
    go_region_law (first | (have _t := tkR; go_simp; go_at_call 21; clear tkR _t; refine (HPX.out w5 _ _ _ _ T5.out).mono ?_; rintro e w6 ⟨rfl, f6, hr, ht, hf⟩; have T6 := Lib.hid (T5.out.step1 hr ht hf); have c6 : w6.cell? ⟨g, 2, none⟩ = some (.slice p n c) := T6.out.box.cell 2; clear hr ht hf) | (have _t := tkP; go_simp; go_at_call 40; clear tkP _t; refine (HPR.out w5 _ _ _ T5.out).mono ?_; rintro e w6 ⟨rfl, f6, hr, ht, hf⟩; have T6 := Lib.hid (T5.out.step2 K.out hr ht hf); have c6 : w6.cell? ⟨g, 2, none⟩ = some (.slice p n c) := T6.out.box.cell 2; clear hr ht hf) | (go_simp; go_at_call 21; refine (HPX.out _ _ _ _ s SD.out).mono ?_; rintro e w5 ⟨rfl, f5, hr, ht, hf⟩; have T5 := Lib.hid (SD.out.step1 hr ht hf); have c5 : w5.cell? ⟨g, 2, none⟩ = some (.slice p n c) := T5.out.box.cell 2; have tkP : True := trivial; clear hr ht hf) | (go_simp; go_at_call 40; refine (HPR.out _ _ _ _ SD.out).mono ?_; rintro e w5 ⟨rfl, f5, hr, ht, hf⟩; have T5 := Lib.hid (SD.out.step2 K.out hr ht hf); have c5 : w5.cell? ⟨g, 2, none⟩ = some (.slice p n c) := T5.out.box.cell 2; have tkR : True := trivial; clear hr ht hf))
    all_goals have c7 := T6.out.box.cell 2
    all_goals
      go_wp2_with fail
      refine (HKP.out _ _ _ _ _ T6.out).mono ?_
      rintro e wk ⟨rfl, hbk⟩
      have SK := Lib.hid (T6.out.on K.out hbk)
      clear hbk T6
      go_wp2_with fail
      refine (HOV.out _ _ _ _ SK.out).mono ?_
      rintro e wo ⟨rfl, hp⟩
      have PO := Lib.hid hp
      clear hp SK
      go_wp2_with fail
      go_ret
      exact ⟨rfl, _, _, _, PO.out, HSP.out⟩
  have z0 : (kd == 0) = false := by rw [beq_eq_false_iff_ne]; exact k0
  clear k0
  by_cases k1 : kd = 1
  · subst k1
    have HPX := Lib.hid (fun W (f1 f2 : List Nat) (s2 s1 : DState) (h : Sc R w0 W b1 f1 s b2 f2 s2 g [i64v 1, i64v x, .slice p n c] g2 cs2) => show Calls Try.prog 21 #[optr b1, .slice (some ⟨g2, 0, none⟩) n (n + 4)] W (ODone R b1 f1 (appS s zs) (i64v (appE s n)) W) from F.ok.append b1 f1 s zs n (some ⟨g2, 0, none⟩) (n + 4) W h.pair.one (by have := HST.out; omega) HN.out (by omega) ⟨GZ.out.bytes, HIN.out W f1 f2 s s2 h, by rw [HN.out]; omega, by omega, fun h => by cases h⟩ (fun _ a ha => by cases ha; exact h.l1))
    have HPR := Lib.hid (fun W (f1 f2 : List Nat) (s1 : DState) (h : Sc R w0 W b1 f1 s1 b2 f2 s g [i64v 1, i64v x, .slice p n c] g2 cs2) => show Calls Try.prog 40 #[optr b2, .slice p n c] W (ODone RefDisk b2 f2 (appS s zs) (i64v (appE s n)) W) from refDiskOK.append b2 f2 s zs n p c W h.pair.two (by have := HST.out; omega) HN.out (by omega) (GZ.out.below h.pair.below) (fun hne a ha e => by have h1 := GZ.out.block_lt hne a ha; have h2 := h.pair.new2 _ e; omega))
    have HSP := Lib.hid (show (appS s zs).steps ≤ s.steps + 1 from steps_app s zs)
    obtain ⟨s', hs'⟩ : ∃ y, y = (appS s zs) := ⟨_, rfl⟩
    obtain ⟨z, hz⟩ : ∃ y, y = (appE s n) := ⟨_, rfl⟩
    rw [← hs', ← hz] at HPX HPR
    rw [← hs'] at HSP
    clear hs' hz HIN
    have SD := Lib.hid (S2.out.on K.out (show Below w2.heap.size w2 w2.drew from below_drewN (Below.refl _ _) 1))
    have ed : w2.drew.cell? ⟨g, 2, none⟩ = some (.slice p n c) := SD.out.box.cell 2
    go_wp2_with fail
    go_region_law (first | (have _t := tkR; go_simp; go_at_call 21; clear tkR _t; refine (HPX.out w5 _ _ _ _ T5.out).mono ?_; rintro e w6 ⟨rfl, f6, hr, ht, hf⟩; have T6 := Lib.hid (T5.out.step1 hr ht hf); have c6 : w6.cell? ⟨g, 2, none⟩ = some (.slice p n c) := T6.out.box.cell 2; clear hr ht hf) | (have _t := tkP; go_simp; go_at_call 40; clear tkP _t; refine (HPR.out w5 _ _ _ T5.out).mono ?_; rintro e w6 ⟨rfl, f6, hr, ht, hf⟩; have T6 := Lib.hid (T5.out.step2 K.out hr ht hf); have c6 : w6.cell? ⟨g, 2, none⟩ = some (.slice p n c) := T6.out.box.cell 2; clear hr ht hf) | (go_simp; go_at_call 21; refine (HPX.out _ _ _ _ s SD.out).mono ?_; rintro e w5 ⟨rfl, f5, hr, ht, hf⟩; have T5 := Lib.hid (SD.out.step1 hr ht hf); have c5 : w5.cell? ⟨g, 2, none⟩ = some (.slice p n c) := T5.out.box.cell 2; have tkP : True := trivial; clear hr ht hf) | (go_simp; go_at_call 40; refine (HPR.out _ _ _ _ SD.out).mono ?_; rintro e w5 ⟨rfl, f5, hr, ht, hf⟩; have T5 := Lib.hid (SD.out.step2 K.out hr ht hf); have c5 : w5.cell? ⟨g, 2, none⟩ = some (.slice p n c) := T5.out.box.cell 2; have tkR : True := trivial; clear hr ht hf))
    all_goals have c7 := T6.out.box.cell 2
    all_goals
      go_wp2_with fail
      refine (HKP.out _ _ _ _ _ T6.out).mono ?_
      rintro e wk ⟨rfl, hbk⟩
      have SK := Lib.hid (T6.out.on K.out hbk)
      clear hbk T6
      go_wp2_with fail
      refine (HOV.out _ _ _ _ SK.out).mono ?_
      rintro e wo ⟨rfl, hp⟩
      have PO := Lib.hid hp
      clear hp SK
      go_wp2_with fail
      go_ret
      exact ⟨rfl, _, _, _, PO.out, HSP.out⟩
  have z1 : (kd == 1) = false := by rw [beq_eq_false_iff_ne]; exact k1
  clear k1
  by_cases k2 : kd = 2
  · subst k2
    have HSP := Lib.hid (show (syncS s).steps ≤ s.steps + 1 from steps_sync s)
    have HPX := Lib.hid (show Calls Try.prog 22 #[optr b1] w2 (ODone R b1 f1 (syncS s) (i64v (syncE s)) w2) from F.ok.sync b1 f1 s w2 S2.out.pair.one (by have := HST.out; omega))
    have HPR := Lib.hid (fun W (f1 f2 : List Nat) (s1 : DState) (h : Sc R w0 W b1 f1 s1 b2 f2 s g [i64v 2, i64v x, .slice p n c] g2 cs2) => show Calls Try.prog 41 #[optr b2] W (ODone RefDisk b2 f2 (syncS s) (i64v (syncE s)) W) from refDiskOK.sync b2 f2 s W h.pair.two (by have := HST.out; omega))
    obtain ⟨s', hs'⟩ : ∃ y, y = (syncS s) := ⟨_, rfl⟩
    obtain ⟨z, hz⟩ : ∃ y : Int, y = (syncE s) := ⟨_, rfl⟩
    rw [← hs', ← hz] at HPX HPR
    rw [← hs'] at HSP
    clear hs' hz HIN
    go_wp2_with fail
    refine HPX.out.mono ?_
    rintro e w5 ⟨rfl, f5, hr, ht, hf⟩
    have T5 := Lib.hid (S2.out.step1 hr ht hf)
    clear hr ht hf
    go_wp2_with fail
    refine (HPR.out _ _ _ _ T5.out).mono ?_
    rintro e w6 ⟨rfl, f6, hr, ht, hf⟩
    have T6 := Lib.hid (T5.out.step2 K.out hr ht hf)
    have c6 : w6.cell? ⟨g, 2, none⟩ = some (.slice p n c) := T6.out.box.cell 2
    clear hr ht hf T5 HPX HPR
    go_wp2_with fail
    refine (HKP.out _ _ _ _ _ T6.out).mono ?_
    rintro e wk ⟨rfl, hbk⟩
    have SK := Lib.hid (T6.out.on K.out hbk)
    clear hbk T6
    go_wp2_with fail
    refine (HOV.out _ _ _ _ SK.out).mono ?_
    rintro e wo ⟨rfl, hp⟩
    have PO := Lib.hid hp
    clear hp SK
    go_wp2_with fail
    go_ret
    exact ⟨rfl, _, _, _, PO.out, HSP.out⟩
  have z2 : (kd == 2) = false := by rw [beq_eq_false_iff_ne]; exact k2
  clear k2
  by_cases k3 : kd = 3
  · subst k3
    have HPX := Lib.hid (fun W (f1 f2 : List Nat) (s2 s1 : DState) (h : Sc R w0 W b1 f1 s b2 f2 s2 g [i64v 3, i64v x, .slice p n c] g2 cs2) => show Calls Try.prog 23 #[optr b1, .slice (some ⟨g2, 0, none⟩) n (n + 4)] W (ODone R b1 f1 (nextS s zs) (i64v (appE s n)) W) from F.ok.next b1 f1 s zs n (some ⟨g2, 0, none⟩) (n + 4) W h.pair.one (by have := HST.out; omega) HN.out (by omega) ⟨GZ.out.bytes, HIN.out W f1 f2 s s2 h, by rw [HN.out]; omega, by omega, fun h => by cases h⟩ (fun _ a ha => by cases ha; exact h.l1))
    have HPR := Lib.hid (fun W (f1 f2 : List Nat) (s1 : DState) (h : Sc R w0 W b1 f1 s1 b2 f2 s g [i64v 3, i64v x, .slice p n c] g2 cs2) => show Calls Try.prog 42 #[optr b2, .slice p n c] W (ODone RefDisk b2 f2 (nextS s zs) (i64v (appE s n)) W) from refDiskOK.next b2 f2 s zs n p c W h.pair.two (by have := HST.out; omega) HN.out (by omega) (GZ.out.below h.pair.below) (fun hne a ha e => by have h1 := GZ.out.block_lt hne a ha; have h2 := h.pair.new2 _ e; omega))
    have HSP := Lib.hid (show (nextS s zs).steps ≤ s.steps + 1 from steps_next s zs)
    obtain ⟨s', hs'⟩ : ∃ y, y = (nextS s zs) := ⟨_, rfl⟩
    obtain ⟨z, hz⟩ : ∃ y, y = (appE s n) := ⟨_, rfl⟩
    rw [← hs', ← hz] at HPX HPR
    rw [← hs'] at HSP
    clear hs' hz HIN
    have SD := Lib.hid (S2.out.on K.out (show Below w2.heap.size w2 w2.drew from below_drewN (Below.refl _ _) 1))
    have ed : w2.drew.cell? ⟨g, 2, none⟩ = some (.slice p n c) := SD.out.box.cell 2
    go_wp2_with fail
    go_region_law (first | (have _t := tkR; go_simp; go_at_call 23; clear tkR _t; refine (HPX.out w5 _ _ _ _ T5.out).mono ?_; rintro e w6 ⟨rfl, f6, hr, ht, hf⟩; have T6 := Lib.hid (T5.out.step1 hr ht hf); have c6 : w6.cell? ⟨g, 2, none⟩ = some (.slice p n c) := T6.out.box.cell 2; clear hr ht hf) | (have _t := tkP; go_simp; go_at_call 42; clear tkP _t; refine (HPR.out w5 _ _ _ T5.out).mono ?_; rintro e w6 ⟨rfl, f6, hr, ht, hf⟩; have T6 := Lib.hid (T5.out.step2 K.out hr ht hf); have c6 : w6.cell? ⟨g, 2, none⟩ = some (.slice p n c) := T6.out.box.cell 2; clear hr ht hf) | (go_simp; go_at_call 23; refine (HPX.out _ _ _ _ s SD.out).mono ?_; rintro e w5 ⟨rfl, f5, hr, ht, hf⟩; have T5 := Lib.hid (SD.out.step1 hr ht hf); have c5 : w5.cell? ⟨g, 2, none⟩ = some (.slice p n c) := T5.out.box.cell 2; have tkP : True := trivial; clear hr ht hf) | (go_simp; go_at_call 42; refine (HPR.out _ _ _ _ SD.out).mono ?_; rintro e w5 ⟨rfl, f5, hr, ht, hf⟩; have T5 := Lib.hid (SD.out.step2 K.out hr ht hf); have c5 : w5.cell? ⟨g, 2, none⟩ = some (.slice p n c) := T5.out.box.cell 2; have tkR : True := trivial; clear hr ht hf))
    all_goals have c7 := T6.out.box.cell 2
    all_goals
      go_wp2_with fail
      refine (HKP.out _ _ _ _ _ T6.out).mono ?_
      rintro e wk ⟨rfl, hbk⟩
      have SK := Lib.hid (T6.out.on K.out hbk)
      clear hbk T6
      go_wp2_with fail
      refine (HOV.out _ _ _ _ SK.out).mono ?_
      rintro e wo ⟨rfl, hp⟩
      have PO := Lib.hid hp
      clear hp SK
      go_wp2_with fail
      go_ret
      exact ⟨rfl, _, _, _, PO.out, HSP.out⟩
  have z3 : (kd == 3) = false := by rw [beq_eq_false_iff_ne]; exact k3
  clear k3
  by_cases k4 : kd = 4
  · subst k4
    have HSP := Lib.hid (show (swS s).steps ≤ s.steps + 1 from steps_sw s)
    have HPX := Lib.hid (show Calls Try.prog 24 #[optr b1] w2 (ODone R b1 f1 (swS s) (i64v (syncE s)) w2) from F.ok.switch b1 f1 s w2 S2.out.pair.one (by have := HST.out; omega))
    have HPR := Lib.hid (fun W (f1 f2 : List Nat) (s1 : DState) (h : Sc R w0 W b1 f1 s1 b2 f2 s g [i64v 4, i64v x, .slice p n c] g2 cs2) => show Calls Try.prog 43 #[optr b2] W (ODone RefDisk b2 f2 (swS s) (i64v (syncE s)) W) from refDiskOK.switch b2 f2 s W h.pair.two (by have := HST.out; omega))
    obtain ⟨s', hs'⟩ : ∃ y, y = (swS s) := ⟨_, rfl⟩
    obtain ⟨z, hz⟩ : ∃ y : Int, y = (syncE s) := ⟨_, rfl⟩
    rw [← hs', ← hz] at HPX HPR
    rw [← hs'] at HSP
    clear hs' hz HIN
    go_wp2_with fail
    refine HPX.out.mono ?_
    rintro e w5 ⟨rfl, f5, hr, ht, hf⟩
    have T5 := Lib.hid (S2.out.step1 hr ht hf)
    clear hr ht hf
    go_wp2_with fail
    refine (HPR.out _ _ _ _ T5.out).mono ?_
    rintro e w6 ⟨rfl, f6, hr, ht, hf⟩
    have T6 := Lib.hid (T5.out.step2 K.out hr ht hf)
    have c6 : w6.cell? ⟨g, 2, none⟩ = some (.slice p n c) := T6.out.box.cell 2
    clear hr ht hf T5 HPX HPR
    go_wp2_with fail
    refine (HKP.out _ _ _ _ _ T6.out).mono ?_
    rintro e wk ⟨rfl, hbk⟩
    have SK := Lib.hid (T6.out.on K.out hbk)
    clear hbk T6
    go_wp2_with fail
    refine (HOV.out _ _ _ _ SK.out).mono ?_
    rintro e wo ⟨rfl, hp⟩
    have PO := Lib.hid hp
    clear hp SK
    go_wp2_with fail
    go_ret
    exact ⟨rfl, _, _, _, PO.out, HSP.out⟩
  have z4 : (kd == 4) = false := by rw [beq_eq_false_iff_ne]; exact k4
  clear k4
  by_cases k5 : kd = 5
  · subst k5
    have HPX := Lib.hid (fun W (f1 f2 : List Nat) (s2 s1 : DState) (h : Sc R w0 W b1 f1 s b2 f2 s2 g [i64v 5, i64v x, .slice p n c] g2 cs2) => show Calls Try.prog 25 #[optr b1, i64v x] W (ODone R b1 f1 (roomS s x) (i64v (roomE x)) W) from F.ok.room b1 f1 s x W h.pair.one HX.out)
    have HPR := Lib.hid (fun W (f1 f2 : List Nat) (s1 : DState) (h : Sc R w0 W b1 f1 s1 b2 f2 s g [i64v 5, i64v x, .slice p n c] g2 cs2) => show Calls Try.prog 44 #[optr b2, i64v x] W (ODone RefDisk b2 f2 (roomS s x) (i64v (roomE x)) W) from refDiskOK.room b2 f2 s x W h.pair.two HX.out)
    have HSP := Lib.hid (show (roomS s x).steps ≤ s.steps + 1 from by rw [steps_room]; omega)
    obtain ⟨s', hs'⟩ : ∃ y, y = (roomS s x) := ⟨_, rfl⟩
    obtain ⟨z, hz⟩ : ∃ y, y = (roomE x) := ⟨_, rfl⟩
    rw [← hs', ← hz] at HPX HPR
    rw [← hs'] at HSP
    clear hs' hz HIN
    have SD := Lib.hid (S2.out.on K.out (show Below w2.heap.size w2 w2.drew from below_drewN (Below.refl _ _) 1))
    have ed : w2.drew.cell? ⟨g, 1, none⟩ = some (i64v x) := SD.out.box.cell 1
    go_wp2_with fail
    go_region_law (first | (have _t := tkR; go_simp; go_at_call 25; clear tkR _t; refine (HPX.out w5 _ _ _ _ T5.out).mono ?_; rintro e w6 ⟨rfl, f6, hr, ht, hf⟩; have T6 := Lib.hid (T5.out.step1 hr ht hf); have c6 : w6.cell? ⟨g, 1, none⟩ = some (i64v x) := T6.out.box.cell 1; clear hr ht hf) | (have _t := tkP; go_simp; go_at_call 44; clear tkP _t; refine (HPR.out w5 _ _ _ T5.out).mono ?_; rintro e w6 ⟨rfl, f6, hr, ht, hf⟩; have T6 := Lib.hid (T5.out.step2 K.out hr ht hf); have c6 : w6.cell? ⟨g, 1, none⟩ = some (i64v x) := T6.out.box.cell 1; clear hr ht hf) | (go_simp; go_at_call 25; refine (HPX.out _ _ _ _ s SD.out).mono ?_; rintro e w5 ⟨rfl, f5, hr, ht, hf⟩; have T5 := Lib.hid (SD.out.step1 hr ht hf); have c5 : w5.cell? ⟨g, 1, none⟩ = some (i64v x) := T5.out.box.cell 1; have tkP : True := trivial; clear hr ht hf) | (go_simp; go_at_call 44; refine (HPR.out _ _ _ _ SD.out).mono ?_; rintro e w5 ⟨rfl, f5, hr, ht, hf⟩; have T5 := Lib.hid (SD.out.step2 K.out hr ht hf); have c5 : w5.cell? ⟨g, 1, none⟩ = some (i64v x) := T5.out.box.cell 1; have tkR : True := trivial; clear hr ht hf))
    all_goals have c7 := T6.out.box.cell 2
    all_goals
      go_wp2_with fail
      refine (HKP.out _ _ _ _ _ T6.out).mono ?_
      rintro e wk ⟨rfl, hbk⟩
      have SK := Lib.hid (T6.out.on K.out hbk)
      clear hbk T6
      go_wp2_with fail
      refine (HOV.out _ _ _ _ SK.out).mono ?_
      rintro e wo ⟨rfl, hp⟩
      have PO := Lib.hid hp
      clear hp SK
      go_wp2_with fail
      go_ret
      exact ⟨rfl, _, _, _, PO.out, HSP.out⟩
  have z5 : (kd == 5) = false := by rw [beq_eq_false_iff_ne]; exact k5
  clear k5
  by_cases k6 : kd = 6
  · subst k6
    have HPX := Lib.hid (fun W (f1 f2 : List Nat) (s2 s1 : DState) (h : Sc R w0 W b1 f1 s b2 f2 s2 g [i64v 6, i64v x, .slice p n c] g2 cs2) => show Calls Try.prog 26 #[optr b1, i64v x] W (ODone R b1 f1 (fuseS s x) (i64v (fuseE x)) W) from F.ok.fuse b1 f1 s x W h.pair.one HX.out)
    have HPR := Lib.hid (fun W (f1 f2 : List Nat) (s1 : DState) (h : Sc R w0 W b1 f1 s1 b2 f2 s g [i64v 6, i64v x, .slice p n c] g2 cs2) => show Calls Try.prog 45 #[optr b2, i64v x] W (ODone RefDisk b2 f2 (fuseS s x) (i64v (fuseE x)) W) from refDiskOK.fuse b2 f2 s x W h.pair.two HX.out)
    have HSP := Lib.hid (show (fuseS s x).steps ≤ s.steps + 1 from by rw [steps_fuse]; omega)
    obtain ⟨s', hs'⟩ : ∃ y, y = (fuseS s x) := ⟨_, rfl⟩
    obtain ⟨z, hz⟩ : ∃ y, y = (fuseE x) := ⟨_, rfl⟩
    rw [← hs', ← hz] at HPX HPR
    rw [← hs'] at HSP
    clear hs' hz HIN
    have SD := Lib.hid (S2.out.on K.out (show Below w2.heap.size w2 w2.drew from below_drewN (Below.refl _ _) 1))
    have ed : w2.drew.cell? ⟨g, 1, none⟩ = some (i64v x) := SD.out.box.cell 1
    go_wp2_with fail
    go_region_law (first | (have _t := tkR; go_simp; go_at_call 26; clear tkR _t; refine (HPX.out w5 _ _ _ _ T5.out).mono ?_; rintro e w6 ⟨rfl, f6, hr, ht, hf⟩; have T6 := Lib.hid (T5.out.step1 hr ht hf); have c6 : w6.cell? ⟨g, 1, none⟩ = some (i64v x) := T6.out.box.cell 1; clear hr ht hf) | (have _t := tkP; go_simp; go_at_call 45; clear tkP _t; refine (HPR.out w5 _ _ _ T5.out).mono ?_; rintro e w6 ⟨rfl, f6, hr, ht, hf⟩; have T6 := Lib.hid (T5.out.step2 K.out hr ht hf); have c6 : w6.cell? ⟨g, 1, none⟩ = some (i64v x) := T6.out.box.cell 1; clear hr ht hf) | (go_simp; go_at_call 26; refine (HPX.out _ _ _ _ s SD.out).mono ?_; rintro e w5 ⟨rfl, f5, hr, ht, hf⟩; have T5 := Lib.hid (SD.out.step1 hr ht hf); have c5 : w5.cell? ⟨g, 1, none⟩ = some (i64v x) := T5.out.box.cell 1; have tkP : True := trivial; clear hr ht hf) | (go_simp; go_at_call 45; refine (HPR.out _ _ _ _ SD.out).mono ?_; rintro e w5 ⟨rfl, f5, hr, ht, hf⟩; have T5 := Lib.hid (SD.out.step2 K.out hr ht hf); have c5 : w5.cell? ⟨g, 1, none⟩ = some (i64v x) := T5.out.box.cell 1; have tkR : True := trivial; clear hr ht hf))
    all_goals have c7 := T6.out.box.cell 2
    all_goals
      go_wp2_with fail
      refine (HKP.out _ _ _ _ _ T6.out).mono ?_
      rintro e wk ⟨rfl, hbk⟩
      have SK := Lib.hid (T6.out.on K.out hbk)
      clear hbk T6
      go_wp2_with fail
      refine (HOV.out _ _ _ _ SK.out).mono ?_
      rintro e wo ⟨rfl, hp⟩
      have PO := Lib.hid hp
      clear hp SK
      go_wp2_with fail
      go_ret
      exact ⟨rfl, _, _, _, PO.out, HSP.out⟩
  have z6 : (kd == 6) = false := by rw [beq_eq_false_iff_ne]; exact k6
  clear k6
  by_cases k7 : kd = 7
  · subst k7
    have HPX := Lib.hid (fun W (f1 f2 : List Nat) (s2 s1 : DState) (h : Sc R w0 W b1 f1 s b2 f2 s2 g [i64v 7, i64v x, .slice p n c] g2 cs2) => show Calls Try.prog 27 #[optr b1, i64v x] W (ODone R b1 f1 (crashS s x) (i64v (crashE x)) W) from F.ok.crash b1 f1 s x W h.pair.one HX.out)
    have HPR := Lib.hid (fun W (f1 f2 : List Nat) (s1 : DState) (h : Sc R w0 W b1 f1 s1 b2 f2 s g [i64v 7, i64v x, .slice p n c] g2 cs2) => show Calls Try.prog 46 #[optr b2, i64v x] W (ODone RefDisk b2 f2 (crashS s x) (i64v (crashE x)) W) from refDiskOK.crash b2 f2 s x W h.pair.two HX.out)
    have HSP := Lib.hid (show (crashS s x).steps ≤ s.steps + 1 from by rw [steps_crash]; omega)
    obtain ⟨s', hs'⟩ : ∃ y, y = (crashS s x) := ⟨_, rfl⟩
    obtain ⟨z, hz⟩ : ∃ y, y = (crashE x) := ⟨_, rfl⟩
    rw [← hs', ← hz] at HPX HPR
    rw [← hs'] at HSP
    clear hs' hz HIN
    have SD := Lib.hid (S2.out.on K.out (show Below w2.heap.size w2 w2.drew from below_drewN (Below.refl _ _) 1))
    have ed : w2.drew.cell? ⟨g, 1, none⟩ = some (i64v x) := SD.out.box.cell 1
    go_wp2_with fail
    go_region_law (first | (have _t := tkR; go_simp; go_at_call 27; clear tkR _t; refine (HPX.out w5 _ _ _ _ T5.out).mono ?_; rintro e w6 ⟨rfl, f6, hr, ht, hf⟩; have T6 := Lib.hid (T5.out.step1 hr ht hf); have c6 : w6.cell? ⟨g, 1, none⟩ = some (i64v x) := T6.out.box.cell 1; clear hr ht hf) | (have _t := tkP; go_simp; go_at_call 46; clear tkP _t; refine (HPR.out w5 _ _ _ T5.out).mono ?_; rintro e w6 ⟨rfl, f6, hr, ht, hf⟩; have T6 := Lib.hid (T5.out.step2 K.out hr ht hf); have c6 : w6.cell? ⟨g, 1, none⟩ = some (i64v x) := T6.out.box.cell 1; clear hr ht hf) | (go_simp; go_at_call 27; refine (HPX.out _ _ _ _ s SD.out).mono ?_; rintro e w5 ⟨rfl, f5, hr, ht, hf⟩; have T5 := Lib.hid (SD.out.step1 hr ht hf); have c5 : w5.cell? ⟨g, 1, none⟩ = some (i64v x) := T5.out.box.cell 1; have tkP : True := trivial; clear hr ht hf) | (go_simp; go_at_call 46; refine (HPR.out _ _ _ _ SD.out).mono ?_; rintro e w5 ⟨rfl, f5, hr, ht, hf⟩; have T5 := Lib.hid (SD.out.step2 K.out hr ht hf); have c5 : w5.cell? ⟨g, 1, none⟩ = some (i64v x) := T5.out.box.cell 1; have tkR : True := trivial; clear hr ht hf))
    all_goals have c7 := T6.out.box.cell 2
    all_goals
      go_wp2_with fail
      refine (HKP.out _ _ _ _ _ T6.out).mono ?_
      rintro e wk ⟨rfl, hbk⟩
      have SK := Lib.hid (T6.out.on K.out hbk)
      clear hbk T6
      go_wp2_with fail
      refine (HOV.out _ _ _ _ SK.out).mono ?_
      rintro e wo ⟨rfl, hp⟩
      have PO := Lib.hid hp
      clear hp SK
      go_wp2_with fail
      go_ret
      exact ⟨rfl, _, _, _, PO.out, HSP.out⟩
  have z7 : (kd == 7) = false := by rw [beq_eq_false_iff_ne]; exact k7
  clear k7
  by_cases k8 : kd = 8
  · subst k8
    have HSP := Lib.hid (show (wipeS s).steps ≤ s.steps + 1 from by show s.steps ≤ s.steps + 1; omega)
    have HPX := Lib.hid (show Calls Try.prog 13 #[optr b1] w2 (ODone R b1 f1 (wipeS s) (i64v 0) w2) from F.ok.wipe b1 f1 s w2 S2.out.pair.one)
    have HPR := Lib.hid (fun W (f1 f2 : List Nat) (s1 : DState) (h : Sc R w0 W b1 f1 s1 b2 f2 s g [i64v 8, i64v x, .slice p n c] g2 cs2) => show Calls Try.prog 47 #[optr b2] W (ODone RefDisk b2 f2 (wipeS s) (i64v 0) W) from refDiskOK.wipe b2 f2 s W h.pair.two)
    obtain ⟨s', hs'⟩ : ∃ y, y = (wipeS s) := ⟨_, rfl⟩
    obtain ⟨z, hz⟩ : ∃ y : Int, y = 0 := ⟨_, rfl⟩
    rw [← hs', ← hz] at HPX HPR
    rw [← hs'] at HSP
    clear hs' hz HIN
    go_wp2_with fail
    refine HPX.out.mono ?_
    rintro e w5 ⟨rfl, f5, hr, ht, hf⟩
    have T5 := Lib.hid (S2.out.step1 hr ht hf)
    clear hr ht hf
    go_wp2_with fail
    refine (HPR.out _ _ _ _ T5.out).mono ?_
    rintro e w6 ⟨rfl, f6, hr, ht, hf⟩
    have T6 := Lib.hid (T5.out.step2 K.out hr ht hf)
    have c6 : w6.cell? ⟨g, 2, none⟩ = some (.slice p n c) := T6.out.box.cell 2
    clear hr ht hf T5 HPX HPR
    go_wp2_with fail
    refine (HKP.out _ _ _ _ _ T6.out).mono ?_
    rintro e wk ⟨rfl, hbk⟩
    have SK := Lib.hid (T6.out.on K.out hbk)
    clear hbk T6
    go_wp2_with fail
    refine (HOV.out _ _ _ _ SK.out).mono ?_
    rintro e wo ⟨rfl, hp⟩
    have PO := Lib.hid hp
    clear hp SK
    go_wp2_with fail
    go_ret
    exact ⟨rfl, _, _, _, PO.out, HSP.out⟩
  have z8 : (kd == 8) = false := by rw [beq_eq_false_iff_ne]; exact k8
  clear k8
  clear HIN HST
  go_wp2_with fail
  refine (HKP.out _ _ _ _ _ S2.out).mono ?_
  rintro e wk ⟨rfl, hbk⟩
  have SK := Lib.hid (S2.out.on K.out hbk)
  clear hbk S2
  go_wp2_with fail
  refine (HOV.out _ _ _ _ SK.out).mono ?_
  rintro e wo ⟨rfl, hp⟩
  have PO := Lib.hid hp
  clear hp SK
  go_wp2_with fail
  go_ret
  exact ⟨rfl, _, _, _, PO.out, Nat.le_succ _⟩
end Go.Proofs.Ytooljhdfmfkpeaa
