/-
  How many there are; bytes into what has room for them.
-/
import Derived.Test.YtgakmkglejddeaaFldR
import Derived.Test.YtgakmkglejddeaaApp
import Derived.Laws.CopyOwn
namespace Go.Proofs.Ytgakmkglejddeaa
set_option linter.unusedSimpArgs false
set_option linter.unusedVariables false
open Go.RowKit Sha
open Fld (Itm)
/-- What a reader reads: bytes that were there from the first. -/
structure RIn (w0 : World) (ga : Nat) (bs : List Int) (p : Option Addr) (n c : Nat) : Prop where
  len : bs.length = n
  bd : ∀ x ∈ bs, 0 ≤ x ∧ x ≤ 255
  at_ : At w0 p (bs.map v8)
  base : w0.heap.size ≤ ga
  le : n ≤ c
  max : c ≤ 9223372036854775807
  nil : p = none → c = 0
theorem rd_ten (bs : List Int) : ∀ i acc, (Fld.rd i acc bs).1 = 10 → (Fld.rd i acc bs).2.2 = 0 := by
  induction bs with
  | nil => intro i acc h; simp [Fld.rd] at h
  | cons x r ih =>
    intro i acc
    unfold Fld.rd
    split
    · simp
    · split
      · exact ih _ _
      · split <;> simp
theorem rd_four (bs : List Int) : ∀ i acc, (Fld.rd i acc bs).1 = 4 → (Fld.rd i acc bs).2.2 = i + bs.length := by
  induction bs with
  | nil => intro i acc h; simp [Fld.rd]
  | cons x r ih =>
    intro i acc
    unfold Fld.rd
    split
    · simp
    · split
      · intro h; rw [ih _ _ h]; simp; omega
      · split <;> simp
theorem rdTop_gt {l : List Int} (h : 4000 < (Fld.rd 0 0 l).2.1) : Fld.rdTop l = (3, 0, 0) := by unfold Fld.rdTop; rw [if_pos h]
theorem rdTop_le {l : List Int} (h : ¬ 4000 < (Fld.rd 0 0 l).2.1) : Fld.rdTop l = Fld.rd 0 0 l := by unfold Fld.rdTop; rw [if_neg h]
set_option maxRecDepth 100000 in
set_option maxHeartbeats 2000000 in
theorem count_any (w0 : World) (ga : Nat) (bs : List Int) (p : Option Addr) (n c : Nat) (hin : RIn w0 ga bs p n c) (v : Value) (at_ : Nat) (w : World) (hB : Below w0.heap.size w0 w) (hat : at_ ≤ n) (hK : Blk w ga [.slice p n c, .int .i64 at_, v] 65) :
    Calls Try.prog 42 #[.pointer (some ⟨ga, 0, none⟩), .int .i64 4000] w (NDone ga (.slice p n c) v (Fld.rdTop (bs.drop at_)) at_ w) := by
  have HI := Lib.hid hin
  have HB := Lib.hid hB
  have HK := Lib.hid hK
  have e1 : w.cell? ⟨ga, 1, none⟩ = some (.int .i64 at_) := hK.cell 1
  obtain ⟨r, hr⟩ : ∃ r, r = Fld.rd 0 0 (bs.drop at_) := ⟨_, rfl⟩
  have HR := Lib.hid hr
  have hx := HI.out.max
  clear hin hB hK
  by_cases h4 : 4000 < r.2.1
  · have HT := Lib.hid (rdTop_gt (by rw [← hr]; exact h4))
    clear hr
    go_enter Try.func42, Try.ntmps42
    go_wp2_with (go_at_call 43; refine (rnum_any w0 ga bs p n c v at_ w HI.out.len HI.out.bd HI.out.at_ HB.out HI.out.base HI.out.le HI.out.max hat HK.out).mono ?_; rw [← HR.out]; rintro e w1 ⟨rfl, hk1, ho1⟩; have c1 : w1.cell? ⟨ga, 1, none⟩ = some (.int .i64 ((at_ + r.2.2 : Nat) : Int)) := hk1.cell 1; have f1 : w1.frozen? ⟨ga, 1, none⟩ = false := hk1.free 1; have HK1 := Lib.hid hk1; have HO1 := Lib.hid ho1; clear hk1 ho1)
    go_ret2
    exact ⟨by rw [HT.out]; rfl, by rw [HT.out]; exact HK1.out.set 1 _, only_set HO1.out 1 _⟩
  · have HT := Lib.hid ((rdTop_le (by rw [← hr]; exact h4)).trans hr.symm)
    clear hr
    go_enter Try.func42, Try.ntmps42
    go_wp2_with (go_at_call 43; refine (rnum_any w0 ga bs p n c v at_ w HI.out.len HI.out.bd HI.out.at_ HB.out HI.out.base HI.out.le HI.out.max hat HK.out).mono ?_; rw [← HR.out]; rintro e w1 ⟨rfl, hk1, ho1⟩; have HK1 := Lib.hid hk1; have HO1 := Lib.hid ho1; clear hk1 ho1)
    go_ret2
    exact ⟨by rw [HT.out]; rfl, by rw [HT.out]; exact HK1.out, HO1.out⟩
/-- Where bytes are filled in: block gr, new behind all else, its cells 'cur', from off on k of them. -/
def FDone (ga gr off k : Nat) (bv v : Value) (cur : List Value) (t : TypeId) (bs : List Int) (at_ n : Nat) (w : World) (e : Ending) (w' : World) : Prop :=
  if n - at_ < k then e = .returned (.int .i64 4) ∧ Blk w' ga [bv, .int .i64 n, v] 65 ∧ Blk w' gr cur t ∧ w.grownBy w' (some ga)
  else e = .returned (.int .i64 0) ∧ Blk w' ga [bv, .int .i64 ((at_ + k : Nat) : Int), v] 65 ∧ Blk w' gr (splice cur off (((bs.drop at_).take k).map v8)) t ∧ ∃ w1, Below gr w w1 ∧ w1.grownBy w' (some ga)
set_option maxRecDepth 100000 in
set_option maxHeartbeats 2000000 in
theorem fill_no (w0 : World) (ga gr off k cr : Nat) (bs : List Int) (p : Option Addr) (n c : Nat) (hin : RIn w0 ga bs p n c) (v : Value) (at_ : Nat) (w : World) (hB : Below w0.heap.size w0 w) (hat : at_ ≤ n) (hK : Blk w ga [.slice p n c, .int .i64 at_, v] 65)
    (cur : List Value) (t : TypeId) (hG : Blk w gr cur t) (hlt : ga < gr) (hk : n - at_ < k) (hkm : k ≤ 4000) :
    Calls Try.prog 41 #[.pointer (some ⟨ga, 0, none⟩), .slice (some ⟨gr, off, none⟩) k cr] w (FDone ga gr off k (.slice p n c) v cur t bs at_ n w) := by
  have HI := Lib.hid hin
  have HK := Lib.hid hK
  have HG := Lib.hid hG
  have e0 : w.cell? ⟨ga, 0, none⟩ = some (.slice p n c) := hK.cell 0
  have e1 : w.cell? ⟨ga, 1, none⟩ = some (.int .i64 at_) := hK.cell 1
  have f1 : w.frozen? ⟨ga, 1, none⟩ = false := hK.free 1
  have hx := HI.out.max
  have hle := HI.out.le
  have d1 : IntKind.i64.wrap ((n : Int) - (at_ : Int)) = (n : Int) - (at_ : Int) := IntWalk.i64_in _ (by omega)
  have d2 : (n : Int) - (at_ : Int) < (k : Int) := by omega
  clear hin hK hG hB
  go_enter Try.func41, Try.ntmps41
  go_wp2_with fail
  go_quiet (fail)
  clear d1
  go_wp2_with fail
  go_ret
  unfold FDone
  rw [if_pos hk]
  have hne : gr ≠ ga := by omega
  exact ⟨rfl, (HK.out.drewN _).set 1 _, (HG.out.drewN _).setOther _ _ hne, only_set (only_drewN (only_refl w ga) _) 1 _⟩
theorem sl_cut (p : Option Addr) (n c at_ : Nat) (h : at_ ≤ n) : ∃ sp, ∀ w, (Instr.sliceAt 26 (.slice p n c) (some (.int .i64 (at_ : Int))) none none).run Try.prog w = .ok (.slice sp (n - at_) (c - at_)) w ∧ sp = (if c = at_ then p else p.map (·.add at_)) := by
  refine ⟨_, fun w => ⟨?_, rfl⟩⟩
  have := run_cut_l (P := Try.prog) 26 5 p n c Try.underlying26 kslice1 .i64 (at_ : Int) (by omega) (by omega) w
  rw [Int.toNat_natCast] at this
  rw [this]; rfl
/-- Where the bytes to be copied lie. -/
theorem src_at {w0 w : World} {bs : List Int} {p sp : Option Addr} {n c at_ k : Nat} (hA : At w0 p (bs.map v8)) (hB : Below w0.heap.size w0 w) (hl : bs.length = n) (hc : n ≤ c) (hsp : sp = (if c = at_ then p else p.map (·.add at_))) :
    0 < (((bs.drop at_).take k).map v8).length → ∃ ad, sp = some ad ∧ ∀ j u, (((bs.drop at_).take k).map v8)[j]? = some u → w.cell? (ad.add j) = some u := by
  intro h0
  have h1 := (hA.below hB).sub at_ n c (by rw [List.length_map]; omega)
  rw [← hsp] at h1
  have e : ((bs.map v8).take n).drop at_ = (bs.drop at_).map v8 := by
    rw [List.take_of_length_le (by rw [List.length_map]; omega), List.map_drop]
  rw [e] at h1
  obtain ⟨b, off, hs, hcell⟩ := h1.addr (by simp at h0 ⊢; omega)
  refine ⟨_, hs, fun j u hj => ?_⟩
  rw [Addr.add_mid]
  refine hcell j u ?_
  rw [List.map_take, List.getElem?_take] at hj
  split at hj
  · exact hj
  · cases hj
set_option maxRecDepth 100000 in
set_option maxHeartbeats 2000000 in
theorem fill_yes (w0 : World) (ga gr off k cr : Nat) (bs : List Int) (p : Option Addr) (n c : Nat) (hin : RIn w0 ga bs p n c) (v : Value) (at_ : Nat) (w : World) (hB : Below w0.heap.size w0 w) (hat : at_ ≤ n) (hK : Blk w ga [.slice p n c, .int .i64 at_, v] 65)
    (cur : List Value) (t : TypeId) (hG : Blk w gr cur t) (hlt : ga < gr) (hk : ¬ n - at_ < k) (hkm : k ≤ 4000) (hfit : off + k ≤ cur.length) :
    Calls Try.prog 41 #[.pointer (some ⟨ga, 0, none⟩), .slice (some ⟨gr, off, none⟩) k cr] w (FDone ga gr off k (.slice p n c) v cur t bs at_ n w) := by
  have HI := Lib.hid hin
  have HK := Lib.hid hK
  have HG := Lib.hid hG
  have e0 : w.cell? ⟨ga, 0, none⟩ = some (.slice p n c) := hK.cell 0
  have e1 : w.cell? ⟨ga, 1, none⟩ = some (.int .i64 at_) := hK.cell 1
  have f1 : w.frozen? ⟨ga, 1, none⟩ = false := hK.free 1
  have hx := HI.out.max
  have hle := HI.out.le
  have d1 : IntKind.i64.wrap ((n : Int) - (at_ : Int)) = (n : Int) - (at_ : Int) := IntWalk.i64_in _ (by omega)
  have d2 : decide ((n : Int) - (at_ : Int) < (k : Int)) = false := by simp; omega
  obtain ⟨sp, hsp⟩ := sl_cut p n c at_ hat
  have hcut := fun w => (hsp w).1
  obtain ⟨cs, hcs⟩ : ∃ cs, cs = ((bs.drop at_).take k).map v8 := ⟨_, rfl⟩
  have hcl : cs.length = k := by rw [hcs]; simp [HI.out.len]; omega
  have HS := Lib.hid (fun (w' : World) (hb : Below w0.heap.size w0 w') => src_at (k := k) HI.out.at_ hb HI.out.len HI.out.le (hsp w').2)
  have HB := Lib.hid hB
  have HC := Lib.hid hcs
  have HF := Lib.hid hfit
  have H1 := Lib.hid (show ∀ u ∈ cs, u.oneCell' = true by rw [hcs]; exact kone8 _)
  clear hin hK hG hB hsp hcs hfit
  go_enter Try.func41, Try.ntmps41
  go_wp2_with fail
  go_quiet (fail)
  clear d1 d2
  go_wp2_with fail
  have q0 : (w.drewN nq).cell? ⟨ga, 0, none⟩ = some (.slice p n c) := e0
  have q1 : (w.drewN nq).cell? ⟨ga, 1, none⟩ = some (.int .i64 at_) := e1
  have q2 : (w.drewN nq).frozen? ⟨ga, 1, none⟩ = false := f1
  have HKq := Lib.hid (HK.out.drewN nq)
  have HGq := Lib.hid (HG.out.drewN nq)
  have HBq := Lib.hid (below_drewN HB.out nq)
  have HWq := Lib.hid (below_drewN (Below.refl gr w) nq)
  clear e0 e1 f1 HK HG HB
  generalize w.drewN nq = wq at *
  have hks : Nat.min (n - at_) k = k := Nat.min_eq_right (by omega)
  have HKS := Lib.hid hks
  clear hks
  go_region_law ((refine step_copy_splice (by rfl) (.tmp 30) (.tmp 39) 26 26 (by rfl) 5 Try.underlying26 kslice1 (some ⟨gr, off, none⟩) sp k cr (n - at_) (c - at_) (by rfl) (by rfl) gr off cur t HGq.out.drew cs (by rw [HKS.out]; exact hcl) (by intro h0; refine ⟨rfl, ?_⟩; rw [HC.out] at h0 ⊢; exact HS.out wq.drew HBq.out.drew h0) (by rw [hcl]; exact HF.out) H1.out gr wq ((Below.refl gr wq).drew) (Nat.le_refl _) ?_; intro w4 hg4 hb4; have r1 : w4.cell? ⟨ga, 1, none⟩ = some (.int .i64 at_) := (hb4.cell hlt).trans q1; have r2 : w4.frozen? ⟨ga, 1, none⟩ = false := (hb4.frozen hlt).trans q2; have HB4 := Lib.hid hb4; have HG4 := hg4; clear hb4 hg4))
  all_goals
    go_wp2_with fail
    go_ret
    unfold FDone
    rw [if_neg hk]
    have hne : gr ≠ ga := by omega
    have hk4 : Blk w4 ga [.slice p n c, .int .i64 at_, v] 65 := HKq.out.below HB4.out hlt
    have hg5 : Blk w4 gr (splice cur off (((bs.drop at_).take k).map v8)) t := by rw [← HC.out]; exact HG4.out
    exact ⟨rfl, by rw [show ((at_ + k : Nat) : Int) = IntKind.i64.wrap ((at_ : Int) + (k : Int)) by rw [IntWalk.i64_in _ (by omega)]; omega]; exact hk4.set 1 _, hg5.setOther _ _ hne, w4, HWq.out.trans HB4.out, only_set (only_refl w4 ga) 1 _⟩
theorem fill_any (w0 : World) (ga gr off k cr : Nat) (bs : List Int) (p : Option Addr) (n c : Nat) (hin : RIn w0 ga bs p n c) (v : Value) (at_ : Nat) (w : World) (hB : Below w0.heap.size w0 w) (hat : at_ ≤ n) (hK : Blk w ga [.slice p n c, .int .i64 at_, v] 65)
    (cur : List Value) (t : TypeId) (hG : Blk w gr cur t) (hlt : ga < gr) (hkm : k ≤ 4000) (hfit : off + k ≤ cur.length) :
    Calls Try.prog 41 #[.pointer (some ⟨ga, 0, none⟩), .slice (some ⟨gr, off, none⟩) k cr] w (FDone ga gr off k (.slice p n c) v cur t bs at_ n w) := by
  by_cases hk : n - at_ < k
  · exact fill_no w0 ga gr off k cr bs p n c hin v at_ w hB hat hK cur t hG hlt hk hkm
  · exact fill_yes w0 ga gr off k cr bs p n c hin v at_ w hB hat hK cur t hG hlt hk hkm hfit
end Go.Proofs.Ytgakmkglejddeaa
