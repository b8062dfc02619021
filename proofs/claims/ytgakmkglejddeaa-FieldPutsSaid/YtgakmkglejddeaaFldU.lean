/-
  Bytes are read.
-/
import Derived.Test.YtgakmkglejddeaaFldS
import Derived.Deep.OwnRows
namespace Go.Proofs.Ytgakmkglejddeaa
set_option linter.unusedSimpArgs false
set_option linter.unusedVariables false
open Go.RowKit Sha
open Fld (Itm)
theorem only_fill {w wA w1 w2 : World} {ga gr : Nat} (h : w.grownBy wA (some ga)) (hr : w.heap.size ≤ gr) (h1 : Below gr wA w1) (h2 : w1.grownBy w2 (some ga)) : w.grownBy w2 (some ga) :=
  ⟨h2.os.trans (h1.os.trans h.os), h2.tape.trans (h1.tape.trans h.tape), h2.output.trans (h1.output.trans h.output), Nat.le_trans h.size (Nat.le_trans h1.size h2.size), fun i hi hn =>
    (h2.block i (Nat.lt_of_lt_of_le hi (Nat.le_trans h.size h1.size)) hn).trans ((h1.block i (by omega)).trans (h.block i hi hn))⟩
theorem only_alloc {a w : World} {row : Option Nat} (h : a.grownBy w row) (o : Obj) : a.grownBy (w.alloc o) row :=
  ⟨h.os, h.tape, h.output, Nat.le_trans h.size (by simp), fun i hi hne => (Below.heap_alloc w o i (Nat.lt_of_lt_of_le hi h.size)).trans (h.block i hi hne)⟩
/-- What reading bytes leaves: the error and the place as getS says; if all is well, bytes in a block of their own. -/
def BDone (ga : Nat) (bv v : Value) (bs : List Int) (at_ n : Nat) (w : World) (e : Ending) (w' : World) : Prop :=
  ∃ (qq : Option Addr) (mm cc : Nat) (er : Int) (at2 : Nat), e = .returned (.tuple #[.slice qq mm cc, .int .i64 er]) ∧ Blk w' ga [bv, .int .i64 (at2 : Int), v] 65 ∧ w.grownBy w' (some ga) ∧
    ((er ≠ 0 ∧ at_ ≤ at2 ∧ at2 ≤ n ∧ ∀ acc, Fld.getS bs 98 (at_, acc) = ((at2, acc), 0, er)) ∨
     (er = 0 ∧ ∃ (m k g : Nat), (∀ acc, Fld.getS bs 98 (at_, acc) = ((at2, acc ++ [⟨0, (bs.drop (at_ + k)).take m, Fld.zero32⟩]), 0, 0)) ∧ m = ((bs.drop (at_ + k)).take m).length ∧ m ≤ 4000 ∧ at_ < at2 ∧ at2 ≤ n ∧ qq = some ⟨g, 0, none⟩ ∧ mm = m ∧ cc = m ∧ Blk w' g (((bs.drop (at_ + k)).take m).map v8) 5 ∧ w.heap.size ≤ g))
theorem rdTop_err (l : List Int) : (Fld.rdTop l).1 = 0 ∨ ((Fld.rdTop l).1 = 3 ∨ (Fld.rdTop l).1 = 4 ∨ (Fld.rdTop l).1 = 10) := by
  unfold Fld.rdTop
  split
  · simp
  · rcases Fld.rd_err l 0 0 with h | ⟨h | h, _⟩
    · exact Or.inl h
    · exact Or.inr (Or.inr (Or.inl h))
    · exact Or.inr (Or.inr (Or.inr h))
theorem rdTop_at (l : List Int) (a : Nat) (h : (Fld.rdTop l).1 ≠ 0) : a + (Fld.rdTop l).2.2 = if (Fld.rdTop l).1 = 4 then a + l.length else a := by
  unfold Fld.rdTop at *
  split
  · simp
  · rename_i h4
    rw [if_neg h4] at h
    rcases Fld.rd_err l 0 0 with h1 | ⟨h1 | h1, _⟩
    · exact absurd h1 h
    · rw [if_pos h1, rd_four l 0 0 h1, Nat.zero_add]
    · rw [if_neg (by omega), rd_ten l 0 0 h1, Nat.add_zero]
theorem rd_at (l : List Int) (a : Nat) (h : (Fld.rd 0 0 l).1 ≠ 0) : a + (Fld.rd 0 0 l).2.2 = if (Fld.rd 0 0 l).1 = 4 then a + l.length else a := by
  rcases Fld.rd_err l 0 0 with h1 | ⟨h1 | h1, _⟩
  · exact absurd h1 h
  · rw [if_pos h1, rd_four l 0 0 h1, Nat.zero_add]
  · rw [if_neg (by omega), rd_ten l 0 0 h1, Nat.add_zero]
theorem getS_b_err {bs : List Int} {at_ : Nat} (ha : at_ ≤ bs.length) {r : Int × Int × Nat} (hr : r = Fld.rdTop (bs.drop at_)) (h : r.1 ≠ 0) (acc : List Itm) : Fld.getS bs 98 (at_, acc) = ((at_ + r.2.2, acc), 0, r.1) := by
  subst hr
  unfold Fld.getS
  rw [if_pos rfl]
  simp only
  rw [if_neg h, rdTop_at _ at_ h, List.length_drop, show at_ + (bs.length - at_) = bs.length by omega]
theorem getS_b_short {bs : List Int} {at_ m k : Nat} (hr : Fld.rdTop (bs.drop at_) = (0, (m : Int), k)) (hk : at_ + k ≤ bs.length) (h : bs.length - (at_ + k) < m) (acc : List Itm) : Fld.getS bs 98 (at_, acc) = ((bs.length, acc), 0, 4) := by
  unfold Fld.getS
  rw [if_pos rfl]
  simp only [hr, if_true]
  rw [if_pos (by omega)]
theorem getS_b_ok {bs : List Int} {at_ m k : Nat} (hr : Fld.rdTop (bs.drop at_) = (0, (m : Int), k)) (hk : at_ + k ≤ bs.length) (h : ¬ bs.length - (at_ + k) < m) (acc : List Itm) : Fld.getS bs 98 (at_, acc) = ((at_ + k + m, acc ++ [⟨0, (bs.drop (at_ + k)).take m, Fld.zero32⟩]), 0, 0) := by
  unfold Fld.getS
  rw [if_pos rfl]
  simp only [hr, if_true]
  rw [if_neg (by omega)]
  simp
theorem splice_all (cur cs : List Value) (h : cur.length = cs.length) : splice cur 0 cs = cs := by
  unfold splice; simp [h]
set_option maxRecDepth 100000 in
set_option maxHeartbeats 2000000 in
theorem bytes_any (w0 : World) (ga : Nat) (bs : List Int) (p : Option Addr) (n c : Nat) (hin : RIn w0 ga bs p n c) (v : Value) (at_ : Nat) (w : World) (hB : Below w0.heap.size w0 w) (hat : at_ ≤ n) (hK : Blk w ga [.slice p n c, .int .i64 at_, v] 65) :
    Calls Try.prog 40 #[.pointer (some ⟨ga, 0, none⟩)] w (BDone ga (.slice p n c) v bs at_ n w) := by
  have HI := Lib.hid hin
  have HB := Lib.hid hB
  have HK := Lib.hid hK
  obtain ⟨r, hr⟩ : ∃ r, r = Fld.rdTop (bs.drop at_) := ⟨_, rfl⟩
  have HR := Lib.hid hr
  have hab : at_ ≤ bs.length := by rw [HI.out.len]; exact hat
  clear hin hB hK
  by_cases h0 : r.1 = 0
  · have h0' : (r.1 == 0) = true := by simpa using h0
    obtain ⟨m, e1, e2, e3, e4, e5⟩ := Fld.rdTop_back (bs.drop at_) r.2.1 r.2.2 (fun x hx => HI.out.bd x (List.mem_of_mem_drop hx)) (by rw [← hr, ← h0])
    obtain ⟨k, hk⟩ : ∃ k, k = r.2.2 := ⟨_, rfl⟩
    have hkn : at_ + k ≤ n := by rw [hk, e3]; rw [List.length_drop, HI.out.len] at e4; omega
    have hk0 : 0 < k := by rw [hk, e3]; exact Fld.num_pos m
    have HRR := Lib.hid (show Fld.rdTop (bs.drop at_) = (0, (m : Int), k) by rw [← hr]; exact Prod.ext h0 (Prod.ext e1 hk.symm))
    have hr2 : r = (0, (m : Int), k) := Prod.ext h0 (Prod.ext e1 hk.symm)
    clear e1 e3 e4 e5 hk h0 hr
    subst hr2
    have hmk := run_make_row' (P := Try.prog) 26 5 (.int .u8 0) 1 Try.underlying26 kbyte_info rfl .i64 .i64 m (by omega) (by omega)
    go_enter Try.func40, Try.ntmps40
    go_wp2_with (go_at_call 42; refine (count_any w0 ga bs p n c HI.out v at_ w HB.out hat HK.out).mono ?_; rw [HRR.out]; rintro e w1 ⟨rfl, hk1, ho1⟩; have HK1 := Lib.hid hk1; have HO1 := Lib.hid ho1; clear hk1 ho1)
    have hks := HI.out.base
    have hg1 := HO1.out.size
    have hgl : ga < w1.heap.size := HK1.out.lt
    have HKA := Lib.hid (HK1.out.old (Obj.cells (madeCells #[Value.int IntKind.u8 0] m) 5))
    have HGA := Lib.hid (Blk.new w1 (madeCells #[Value.int IntKind.u8 0] m) 5)
    have HOA := Lib.hid (only_alloc HO1.out (Obj.cells (madeCells #[Value.int IntKind.u8 0] m) 5))
    have HBA := Lib.hid (below_only HB.out HOA.out hks HB.out.size)
    have HCL := Lib.hid (show (madeCells #[Value.int IntKind.u8 0] m).toList.length = m by rw [Array.length_toList, size_madeCells])
    clear hmk HK1 HO1 HB HK
    generalize w1.alloc (Obj.cells (madeCells #[Value.int IntKind.u8 0] m) 5) = wA at *
    generalize w1.heap.size = gr at *
    generalize (madeCells #[Value.int IntKind.u8 0] m).toList = cur at *
    refine (fill_any w0 ga gr 0 m m bs p n c HI.out v (at_ + k) wA HBA.out hkn HKA.out cur 5 HGA.out hgl e2 (by rw [HCL.out]; omega)).mono ?_
    rintro e w2 hf
    unfold FDone at hf
    by_cases hsh : n - (at_ + k) < m
    · rw [if_pos hsh] at hf
      obtain ⟨rfl, hk2, _, ho2⟩ := hf
      have HK2 := Lib.hid hk2
      have HO2 := Lib.hid (only_trans HOA.out ho2)
      have HS := Lib.hid hsh
      clear hk2 ho2 hsh
      go_wp2_with fail
      go_ret2
      exact ⟨some ⟨gr, 0, none⟩, m, m, 4, n, rfl, HK2.out, HO2.out, Or.inl ⟨by decide, hat, Nat.le_refl _, fun acc => by rw [getS_b_short HRR.out (by rw [HI.out.len]; exact hkn) (by rw [HI.out.len]; exact HS.out), HI.out.len]⟩⟩
    · rw [if_neg hsh] at hf
      obtain ⟨rfl, hk2, hg2, w3, hb3, ho3⟩ := hf
      have HK2 := Lib.hid hk2
      have HO2 := Lib.hid (only_fill HOA.out hg1 hb3 ho3)
      have HTL := Lib.hid (show ((bs.drop (at_ + k)).take m).length = m by rw [List.length_take, List.length_drop, HI.out.len]; omega)
      have HG2 := Lib.hid (show Blk w2 gr (((bs.drop (at_ + k)).take m).map v8) 5 by rwa [splice_all cur _ (by rw [HCL.out, List.length_map, HTL.out])] at hg2)
      have HS := Lib.hid hsh
      clear hk2 hg2 hb3 ho3 hsh
      go_wp2_with fail
      go_ret2
      exact ⟨some ⟨gr, 0, none⟩, m, m, 0, at_ + k + m, rfl, HK2.out, HO2.out, Or.inr ⟨rfl, m, k, gr, fun acc => getS_b_ok HRR.out (by rw [HI.out.len]; exact hkn) (by rw [HI.out.len]; exact HS.out) acc, HTL.out.symm, e2, by omega, by have := HS.out; omega, rfl, rfl, rfl, HG2.out, hg1⟩⟩
  · have h0' : (r.1 == 0) = false := by simpa using h0
    have HE := Lib.hid (fun acc => getS_b_err hab hr h0 acc)
    have HN0 := Lib.hid h0
    have HLE := Lib.hid (show at_ + r.2.2 ≤ n by have h1 := rdTop_at (bs.drop at_) at_ (by rw [← hr]; exact h0); rw [← hr, List.length_drop, HI.out.len] at h1; split at h1 <;> omega)
    clear h0 hr
    go_enter Try.func40, Try.ntmps40
    go_wp2_with (go_at_call 42; refine (count_any w0 ga bs p n c HI.out v at_ w HB.out hat HK.out).mono ?_; rw [← HR.out]; rintro e w1 ⟨rfl, hk1, ho1⟩; have HK1 := Lib.hid hk1; have HO1 := Lib.hid ho1; clear hk1 ho1)
    go_ret2
    exact ⟨none, 0, 0, r.1, at_ + r.2.2, rfl, HK1.out, HO1.out, Or.inl ⟨HN0.out, by omega, HLE.out, HE.out⟩⟩
end Go.Proofs.Ytgakmkglejddeaa
