/-
  Bytes are read.
  A reader under way; the last part of get: the item is appended.
  A number is read as an item.
-/
import Derived.Test.YteepaoklibflpaaR42
import Derived.Deep.OwnRows
import Derived.Test.YteepaoklibflpaaR26
import Derived.Test.YteepaoklibflpaaR9
import Derived.Test.YteepaoklibflpaaR10
namespace Go.Proofs.Yteepaoklibflpaa
section
set_option linter.unusedSimpArgs false
set_option linter.unusedVariables false
open Go.RowKit Sha
open Fld (Itm)
theorem only_fill {w wA w1 w2 : World} {ga gr : Nat} (h : w.grownBy wA (some ga)) (hr : w.heap.size ≤ gr) (h1 : Below gr wA w1) (h2 : w1.grownBy w2 (some ga)) : w.grownBy w2 (some ga) :=
  ⟨h2.os.trans (h1.os.trans h.os), h2.tape.trans (h1.tape.trans h.tape), h2.output.trans (h1.output.trans h.output), Nat.le_trans h.size (Nat.le_trans h1.size h2.size), fun i hi hn =>
    (h2.block i (Nat.lt_of_lt_of_le hi (Nat.le_trans h.size h1.size)) hn).trans ((h1.block i (by omega)).trans (h.block i hi hn))⟩
theorem only_alloc {a w : World} {row : Option Nat} (h : a.grownBy w row) (o : Obj) : a.grownBy (w.alloc o) row :=
  ⟨h.os, h.tape, h.output, Nat.le_trans h.size (by simp), fun i hi hne => (Below.heap_alloc w o i (Nat.lt_of_lt_of_le hi h.size)).trans (h.block i hi hne)⟩
/-- What reading bytes leaves: the error and the place as getS says; if all is well, bytes in a block of their own. -/
def BDone (ga : Nat) (bv v : Value) (bs : List Int) (at_ n : Nat) (w : World) (e : Ending) (w' : World) : Prop :=
  ∃ (qq : Option Addr) (mm cc : Nat) (er : Int) (at2 : Nat), e = .returned (.tuple #[.slice qq mm cc, .int .i64 er]) ∧ Blk w' ga [bv, .int .i64 (at2 : Int), v] 77 ∧ w.grownBy w' (some ga) ∧
    ((er ≠ 0 ∧ at_ ≤ at2 ∧ at2 ≤ n ∧ ∀ acc, Fld.getS bs 98 (at_, acc) = ((at2, acc), 0, er)) ∨
     (er = 0 ∧ ∃ (m k g : Nat), (∀ acc, Fld.getS bs 98 (at_, acc) = ((at2, acc ++ [⟨0, (bs.drop (at_ + k)).take m, Fld.zero32⟩]), 0, 0)) ∧ m = ((bs.drop (at_ + k)).take m).length ∧ m ≤ 4000 ∧ at_ < at2 ∧ at2 ≤ n ∧ qq = some ⟨g, 0, none⟩ ∧ mm = m ∧ cc = m ∧ Blk w' g (((bs.drop (at_ + k)).take m).map v8) 5 ∧ w.heap.size ≤ g))
theorem rdTop_err (l : List Int) : (Fld.rdTop l).1 = 0 ∨ ((Fld.rdTop l).1 = 3 ∨ (Fld.rdTop l).1 = 4 ∨ (Fld.rdTop l).1 = 10) := by
  unfold Fld.rdTop
  split
  · simp
  · rcases Fld.rd_err l 0 0 with h | ⟨h | h, _⟩
    · exact Or.inl h
    · exact Or.inr (Or.inr (Or.inl h))
    · exact Or.inr (Or.inr (Or.inr h))
theorem rdTop_at (l : List Int) (a : Nat) (h : (Fld.rdTop l).1 ≠ 0) : a + (Fld.rdTop l).2.2 = if (Fld.rdTop l).1 = 4 then a + l.length else a := by
  unfold Fld.rdTop at *
  split
  · simp
  · rename_i h4
    rw [if_neg h4] at h
    rcases Fld.rd_err l 0 0 with h1 | ⟨h1 | h1, _⟩
    · exact absurd h1 h
    · rw [if_pos h1, rd_four l 0 0 h1, Nat.zero_add]
    · rw [if_neg (by omega), rd_ten l 0 0 h1, Nat.add_zero]
theorem rd_at (l : List Int) (a : Nat) (h : (Fld.rd 0 0 l).1 ≠ 0) : a + (Fld.rd 0 0 l).2.2 = if (Fld.rd 0 0 l).1 = 4 then a + l.length else a := by
  rcases Fld.rd_err l 0 0 with h1 | ⟨h1 | h1, _⟩
  · exact absurd h1 h
  · rw [if_pos h1, rd_four l 0 0 h1, Nat.zero_add]
  · rw [if_neg (by omega), rd_ten l 0 0 h1, Nat.add_zero]
theorem getS_b_err {bs : List Int} {at_ : Nat} (ha : at_ ≤ bs.length) {r : Int × Int × Nat} (hr : r = Fld.rdTop (bs.drop at_)) (h : r.1 ≠ 0) (acc : List Itm) : Fld.getS bs 98 (at_, acc) = ((at_ + r.2.2, acc), 0, r.1) := by
  subst hr
  unfold Fld.getS
  rw [if_pos rfl]
  simp only
  rw [if_neg h, rdTop_at _ at_ h, List.length_drop, show at_ + (bs.length - at_) = bs.length by omega]
theorem getS_b_short {bs : List Int} {at_ m k : Nat} (hr : Fld.rdTop (bs.drop at_) = (0, (m : Int), k)) (hk : at_ + k ≤ bs.length) (h : bs.length - (at_ + k) < m) (acc : List Itm) : Fld.getS bs 98 (at_, acc) = ((bs.length, acc), 0, 4) := by
  unfold Fld.getS
  rw [if_pos rfl]
  simp only [hr, if_true]
  rw [if_pos (by omega)]
theorem getS_b_ok {bs : List Int} {at_ m k : Nat} (hr : Fld.rdTop (bs.drop at_) = (0, (m : Int), k)) (hk : at_ + k ≤ bs.length) (h : ¬ bs.length - (at_ + k) < m) (acc : List Itm) : Fld.getS bs 98 (at_, acc) = ((at_ + k + m, acc ++ [⟨0, (bs.drop (at_ + k)).take m, Fld.zero32⟩]), 0, 0) := by
  unfold Fld.getS
  rw [if_pos rfl]
  simp only [hr, if_true]
  rw [if_neg (by omega)]
  simp
theorem splice_all (cur cs : List Value) (h : cur.length = cs.length) : splice cur 0 cs = cs := by
  unfold splice; simp [h]
set_option maxRecDepth 100000 in
set_option maxHeartbeats 2000000 in
theorem bytes_any (w0 : World) (ga : Nat) (bs : List Int) (p : Option Addr) (n c : Nat) (hin : RIn w0 ga bs p n c) (v : Value) (at_ : Nat) (w : World) (hB : Below w0.heap.size w0 w) (hat : at_ ≤ n) (hK : Blk w ga [.slice p n c, .int .i64 at_, v] 77) :
    Calls Try.prog 48 #[.pointer (some ⟨ga, 0, none⟩)] w (BDone ga (.slice p n c) v bs at_ n w) := by
  have HI := Lib.hid hin
  have HB := Lib.hid hB
  have HK := Lib.hid hK
  obtain ⟨r, hr⟩ : ∃ r, r = Fld.rdTop (bs.drop at_) := ⟨_, rfl⟩
  have HR := Lib.hid hr
  have hab : at_ ≤ bs.length := by rw [HI.out.len]; exact hat
  clear hin hB hK
  by_cases h0 : r.1 = 0
  · have h0' : (r.1 == 0) = true := by simpa using h0
    obtain ⟨m, e1, e2, e3, e4, e5⟩ := Fld.rdTop_back (bs.drop at_) r.2.1 r.2.2 (fun x hx => HI.out.bd x (List.mem_of_mem_drop hx)) (by rw [← hr, ← h0])
    obtain ⟨k, hk⟩ : ∃ k, k = r.2.2 := ⟨_, rfl⟩
    have hkn : at_ + k ≤ n := by rw [hk, e3]; rw [List.length_drop, HI.out.len] at e4; omega
    have hk0 : 0 < k := by rw [hk, e3]; exact Fld.num_pos m
    have HRR := Lib.hid (show Fld.rdTop (bs.drop at_) = (0, (m : Int), k) by rw [← hr]; exact Prod.ext h0 (Prod.ext e1 hk.symm))
    have hr2 : r = (0, (m : Int), k) := Prod.ext h0 (Prod.ext e1 hk.symm)
    clear e1 e3 e4 e5 hk h0 hr
    subst hr2
    have hmk := run_make_row' (P := Try.prog) 28 5 (.int .u8 0) 1 Try.underlying28 kbyte_info rfl .i64 .i64 m (by omega) (by omega)
    go_enter Try.func48, Try.ntmps48
    go_wp2_with (go_at_call 50; refine (count_any w0 ga bs p n c HI.out v at_ w HB.out hat HK.out).mono ?_; rw [HRR.out]; rintro e w1 ⟨rfl, hk1, ho1⟩; have HK1 := Lib.hid hk1; have HO1 := Lib.hid ho1; clear hk1 ho1)
    have hks := HI.out.base
    have hg1 := HO1.out.size
    have hgl : ga < w1.heap.size := HK1.out.lt
    have HKA := Lib.hid (HK1.out.old (Obj.cells (madeCells #[Value.int IntKind.u8 0] m) 5))
    have HGA := Lib.hid (Blk.new w1 (madeCells #[Value.int IntKind.u8 0] m) 5)
    have HOA := Lib.hid (only_alloc HO1.out (Obj.cells (madeCells #[Value.int IntKind.u8 0] m) 5))
    have HBA := Lib.hid (below_only HB.out HOA.out hks HB.out.size)
    have HCL := Lib.hid (show (madeCells #[Value.int IntKind.u8 0] m).toList.length = m by rw [Array.length_toList, size_madeCells])
    clear hmk HK1 HO1 HB HK
    generalize w1.alloc (Obj.cells (madeCells #[Value.int IntKind.u8 0] m) 5) = wA at *
    generalize w1.heap.size = gr at *
    generalize (madeCells #[Value.int IntKind.u8 0] m).toList = cur at *
    refine (fill_any w0 ga gr 0 m m bs p n c HI.out v (at_ + k) wA HBA.out hkn HKA.out cur 5 HGA.out hgl e2 (by rw [HCL.out]; omega)).mono ?_
    rintro e w2 hf
    unfold FlsDone at hf
    by_cases hsh : n - (at_ + k) < m
    · rw [if_pos hsh] at hf
      obtain ⟨rfl, hk2, _, ho2⟩ := hf
      have HK2 := Lib.hid hk2
      have HO2 := Lib.hid (only_trans HOA.out ho2)
      have HS := Lib.hid hsh
      clear hk2 ho2 hsh
      go_wp2_with fail
      go_ret2
      exact ⟨some ⟨gr, 0, none⟩, m, m, 4, n, rfl, HK2.out, HO2.out, Or.inl ⟨by decide, hat, Nat.le_refl _, fun acc => by rw [getS_b_short HRR.out (by rw [HI.out.len]; exact hkn) (by rw [HI.out.len]; exact HS.out), HI.out.len]⟩⟩
    · rw [if_neg hsh] at hf
      obtain ⟨rfl, hk2, hg2, w3, hb3, ho3⟩ := hf
      have HK2 := Lib.hid hk2
      have HO2 := Lib.hid (only_fill HOA.out hg1 hb3 ho3)
      have HTL := Lib.hid (show ((bs.drop (at_ + k)).take m).length = m by rw [List.length_take, List.length_drop, HI.out.len]; omega)
      have HG2 := Lib.hid (show Blk w2 gr (((bs.drop (at_ + k)).take m).map v8) 5 by rwa [splice_all cur _ (by rw [HCL.out, List.length_map, HTL.out])] at hg2)
      have HS := Lib.hid hsh
      clear hk2 hg2 hb3 ho3 hsh
      go_wp2_with fail
      go_ret2
      exact ⟨some ⟨gr, 0, none⟩, m, m, 0, at_ + k + m, rfl, HK2.out, HO2.out, Or.inr ⟨rfl, m, k, gr, fun acc => getS_b_ok HRR.out (by rw [HI.out.len]; exact hkn) (by rw [HI.out.len]; exact HS.out) acc, HTL.out.symm, e2, by omega, by have := HS.out; omega, rfl, rfl, rfl, HG2.out, hg1⟩⟩
  · have h0' : (r.1 == 0) = false := by simpa using h0
    have HE := Lib.hid (fun acc => getS_b_err hab hr h0 acc)
    have HN0 := Lib.hid h0
    have HLE := Lib.hid (show at_ + r.2.2 ≤ n by have h1 := rdTop_at (bs.drop at_) at_ (by rw [← hr]; exact h0); rw [← hr, List.length_drop, HI.out.len] at h1; split at h1 <;> omega)
    clear h0 hr
    go_enter Try.func48, Try.ntmps48
    go_wp2_with (go_at_call 50; refine (count_any w0 ga bs p n c HI.out v at_ w HB.out hat HK.out).mono ?_; rw [← HR.out]; rintro e w1 ⟨rfl, hk1, ho1⟩; have HK1 := Lib.hid hk1; have HO1 := Lib.hid ho1; clear hk1 ho1)
    go_ret2
    exact ⟨none, 0, 0, r.1, at_ + r.2.2, rfl, HK1.out, HO1.out, Or.inl ⟨HN0.out, by omega, HLE.out, HE.out⟩⟩
end
section
set_option linter.unusedSimpArgs false
set_option linter.unusedVariables false
open Go.RowKit Sha
open Fld (Itm)
/-! ### The reader's state -/
structure GoodR (B : Nat) (w : World) (x : Itm) (q : Option Addr) (c : Nat) : Prop where
  ok : x.ok
  len : c = x.B.length
  max : c ≤ 4000
  at_ : (x.B = [] ∧ q = none) ∨ ∃ g, q = some ⟨g, 0, none⟩ ∧ B ≤ g ∧ Blk w g (x.B.map v8) 5
theorem GoodR.good {B : Nat} {w : World} {x : Itm} {q : Option Addr} {c : Nat} (h : GoodR B w x q c) : GoodI w x q c := by
  refine ⟨h.ok, ?_, by rw [h.len]; exact Nat.le_refl _, by have := h.max; omega, ?_⟩
  · rcases h.at_ with ⟨h1, h2⟩ | ⟨g, h1, _, h2⟩
    · rw [h1]; exact At.nil _ _
    · exact Or.inr ⟨g, 0, h1, h2.range⟩
  · intro hq
    rcases h.at_ with ⟨h1, h2⟩ | ⟨g, h1, _, h2⟩
    · rw [h.len, h1]; rfl
    · rw [h1] at hq; cases hq
theorem GoodR.carry {B : Nat} {w w' : World} {x : Itm} {q : Option Addr} {c : Nat} (h : GoodR B w x q c) (hc : ∀ g cs, Blk w g cs 5 → Blk w' g cs 5) : GoodR B w' x q c :=
  ⟨h.ok, h.len, h.max, h.at_.imp id fun ⟨g, h1, h0, h2⟩ => ⟨g, h1, h0, hc _ _ h2⟩⟩
theorem GoodR.mono {B B' : Nat} {w : World} {x : Itm} {q : Option Addr} {c : Nat} (h : GoodR B w x q c) (hb : B' ≤ B) : GoodR B' w x q c := ⟨h.ok, h.len, h.max, h.at_.imp id fun ⟨g, h1, h0, h2⟩ => ⟨g, h1, Nat.le_trans hb h0, h2⟩⟩
theorem ri_ne : (98 : TypeId) ≠ 77 := by decide
theorem ur_ne : (5 : TypeId) ≠ 77 := by decide
theorem iu_ne : (5 : TypeId) ≠ 98 := by decide
theorem blk_ne {w : World} {g g' : Nat} {cs cs' : List Value} {t t' : TypeId} (h : Blk w g cs t) (h' : Blk w g' cs' t') (hne : t ≠ t') : g ≠ g' := by
  rintro rfl
  unfold Blk at h h'
  rw [h] at h'
  injection h' with h'
  injection h' with _ ht
  exact hne ht
structure RSt (w0 : World) (ga : Nat) (bs : List Int) (p : Option Addr) (n c : Nat) (st : Nat × List Itm) (v : Value) (ys : List Hdr) (w : World) : Prop where
  blk : Blk w ga [.slice p n c, .int .i64 (st.1 : Int), v] 77
  own : w.ownsRow w0.heap.size 98 34 v st.2.length (ys.flatMap cellsI)
  items : ys.map (·.1) = st.2
  good : ∀ y ∈ ys, GoodR w0.heap.size w y.1 y.2.1 y.2.2
  at_ : st.1 ≤ n
  few : st.2.length ≤ st.1
  below : Below w0.heap.size w0 w
def RAt (w0 : World) (ga : Nat) (bs : List Int) (p : Option Addr) (n c : Nat) (st : Nat × List Itm) (w : World) : Prop := ∃ v ys, RSt w0 ga bs p n c st v ys w
def GDone (w0 : World) (ga : Nat) (bs : List Int) (p : Option Addr) (n c : Nat) (l : Int) (st : Nat × List Itm) (w : World) (e : Ending) (w' : World) : Prop :=
  e = .returned (.tuple #[.int .i64 (Fld.getS bs l st).2.1, .int .i64 (Fld.getS bs l st).2.2]) ∧ RAt w0 ga bs p n c (Fld.getS bs l st).1 w' ∧ ItersKept w w'
theorem only_setNew {a w : World} {ga g : Nat} (h : a.grownBy w (some ga)) (hg : a.heap.size ≤ g) (i : Nat) (u : Value) : a.grownBy (w.setCell ⟨g, i, none⟩ u) (some ga) :=
  ⟨h.os, h.tape, h.output, by simpa [World.setCell] using h.size, fun k hk hne => (Below.heap_setCell w _ u k (by show k ≠ g; omega)).trans (h.block k hk hne)⟩
/-- What is there when the item is read, ahead of the append. -/
structure GStep (w0 w : World) (ga gx : Nat) (bs : List Int) (p : Option Addr) (n c : Nat) (st : Nat × List Itm) (v : Value) (ys : List Hdr) (at2 : Nat) (x : Itm) (q : Option Addr) (qc : Nat) (w2 : World) : Prop where
  blk : Blk w2 ga [.slice p n c, .int .i64 (at2 : Int), v] 77
  item : Blk w2 gx (icells x q qc) 98
  own : w2.ownsRow w0.heap.size 98 34 v st.2.length (ys.flatMap cellsI)
  items : ys.map (·.1) = st.2
  good : ∀ y ∈ ys, GoodR w0.heap.size w2 y.1 y.2.1 y.2.2
  goodx : GoodR w0.heap.size w2 x q qc
  below : Below w0.heap.size w0 w2
  size : w0.heap.size ≤ w2.heap.size
  iters : ItersKept w w2
  apart : v.ownBlock ≠ some gx
theorem RSt.step {w0 w : World} {ga gx : Nat} {bs : List Int} {p : Option Addr} {n c : Nat} {st : Nat × List Itm} {v : Value} {ys : List Hdr} {at2 : Nat} {x : Itm} {q : Option Addr} {qc : Nat} {w2 : World} (h : RSt w0 ga bs p n c st v ys w) (hb : w0.heap.size ≤ ga)
    (ho : w.grownBy w2 (some ga)) (hk : Blk w2 ga [.slice p n c, .int .i64 (at2 : Int), v] 77) (hi : Blk w2 gx (icells x q qc) 98) (hx : GoodR w0.heap.size w2 x q qc) (hgx : w.heap.size ≤ gx) : GStep w0 w ga gx bs p n c st v ys at2 x q qc w2 :=
  ⟨hk, hi, h.own.kept ho (Or.inr (own_ne h.own h.blk ri_ne)), h.items, fun y hy => (h.good y hy).carry fun g cs hg => hg.grow ho (fun e => blk_ne hg h.blk ur_ne (Option.some.inj e).symm), hx,
    below_only h.below ho hb h.below.size, Nat.le_trans h.below.size ho.size, iters_of (others_only ho 5) ⟨_, _, h.blk⟩, fun e => by have := (h.own.lt gx e).2; omega⟩
/-- .. an error is told: nothing is appended. -/
theorem RSt.err {w0 w : World} {ga : Nat} {bs : List Int} {p : Option Addr} {n c : Nat} {st : Nat × List Itm} {v : Value} {ys : List Hdr} {at2 : Nat} {w2 : World} (h : RSt w0 ga bs p n c st v ys w) (hb : w0.heap.size ≤ ga)
    (ho : w.grownBy w2 (some ga)) (hk : Blk w2 ga [.slice p n c, .int .i64 (at2 : Int), v] 77) (ha : at2 ≤ n) (hf : st.2.length ≤ at2) : RAt w0 ga bs p n c (at2, st.2) w2 :=
  ⟨v, ys, hk, h.own.kept ho (Or.inr (own_ne h.own h.blk ri_ne)), h.items, fun y hy => (h.good y hy).carry fun g cs hg => hg.grow ho (fun e => blk_ne hg h.blk ur_ne (Option.some.inj e).symm), ha, hf, below_only h.below ho hb h.below.size⟩
theorem GStep.drew {w0 w : World} {ga gx : Nat} {bs : List Int} {p : Option Addr} {n c : Nat} {st : Nat × List Itm} {v : Value} {ys : List Hdr} {at2 : Nat} {x : Itm} {q : Option Addr} {qc : Nat} {w2 : World} (h : GStep w0 w ga gx bs p n c st v ys at2 x q qc w2) (k : Nat) : GStep w0 w ga gx bs p n c st v ys at2 x q qc (w2.drewN k) :=
  ⟨h.blk, h.item, h.own, h.items, fun y hy => (h.good y hy).carry fun _ _ h => h, h.goodx.carry fun _ _ h => h, below_drewN h.below k, h.size, h.iters, h.apart⟩
/-- Behind the append and the store. -/
theorem GStep.done {w0 w : World} {ga gx : Nat} {bs : List Int} {p : Option Addr} {n c : Nat} {st : Nat × List Itm} {v v' : Value} {ys : List Hdr} {at2 : Nat} {x : Itm} {q : Option Addr} {qc : Nat} {w2 w5 : World} (h : GStep w0 w ga gx bs p n c st v ys at2 x q qc w2) (hb : w0.heap.size ≤ ga) (o : Obj)
    (hg : (w2.alloc o).grownBy w5 v.ownBlock) (hown : w5.ownsRow w0.heap.size 98 34 v' (st.2.length + 1) (ys.flatMap cellsI ++ icells x q qc)) (ha : at2 ≤ n) (hf : st.2.length + 1 ≤ at2) :
    RAt w0 ga bs p n c (at2, st.2 ++ [x]) (w5.setCell ⟨ga, 2, none⟩ v') ∧ ItersKept w (w5.setCell ⟨ga, 2, none⟩ v') ∧ Blk w5 ga [.slice p n c, .int .i64 (at2 : Int), v] 77 ∧ Blk w5 gx (icells x q qc) 98 := by
  have hoA := h.own.alloc o
  have hkA := h.blk.old o
  have hk5 := hkA.grow hg (own_ne hoA hkA ri_ne)
  have hu : ∀ g cs, Blk w2 g cs 5 → Blk (w5.setCell ⟨ga, 2, none⟩ v') g cs 5 := fun g cs hgb => by
    have h1 := hgb.old o
    exact (h1.grow hg (own_ne hoA h1 (fun e => iu_ne e.symm))).setOther _ _ (blk_ne hgb h.blk ur_ne)
  have hi5 : Blk w5 gx (icells x q qc) 98 := (h.item.old o).grow hg h.apart
  have hO : Lib.OthersKept 98 (some ga) w2 w5 := ((Lib.OthersKept.refl _ _ _).alloc o).grown hg (own_kind hoA)
  refine ⟨⟨v', ys ++ [(x, q, qc)], hk5.set 2 v', ?_, by simp [h.items], fun y hy => ?_, ha, by simpa using hf, ?_⟩, ?_, hk5, hi5⟩
  · have := own_set hown hk5 ri_ne 2 v'
    simpa [cellsI] using this
  · rcases List.mem_append.1 hy with hy | hy
    · exact (h.good y hy).carry hu
    · simp at hy; subst hy; exact h.goodx.carry hu
  · exact ((h.below.alloc h.size o).grown hg (by simp; have := h.size; omega) (fun k hk => (hoA.lt k hk).1)).setCell hb _
  · exact h.iters.trans (iters_of (others_set hO 2 v') ⟨_, _, h.blk⟩)
end
section
set_option linter.unusedSimpArgs false
set_option linter.unusedVariables false
open Go.RowKit Sha
open Fld (Itm)
theorem item0_ok' : Itm.ok ⟨0, [], Fld.zero32⟩ := ⟨by simp, by simp, by simp, by unfold Fld.zero32; intro n hn; have := List.eq_of_mem_replicate hn; omega, Fld.zero32_length⟩
theorem getS_n_err {bs : List Int} {at_ : Nat} {acc : List Itm} (ha : at_ ≤ bs.length) {r : Int × Int × Nat} (hr : r = Fld.rd 0 0 (bs.drop at_)) (h : r.1 ≠ 0) : Fld.getS bs 110 (at_, acc) = ((at_ + r.2.2, acc), 0, r.1) := by
  subst hr
  unfold Fld.getS
  rw [if_neg (by omega), if_neg (by omega)]
  simp only [show ¬ ((110 : Int) = 40) by omega, if_false]
  rw [if_neg h, rd_at _ at_ h, List.length_drop, show at_ + (bs.length - at_) = bs.length by omega]
theorem getS_n_ok {bs : List Int} {at_ : Nat} {acc : List Itm} {r : Int × Int × Nat} (hr : r = Fld.rd 0 0 (bs.drop at_)) (h : r.1 = 0) : Fld.getS bs 110 (at_, acc) = ((at_ + r.2.2, acc ++ [⟨r.2.1, [], Fld.zero32⟩]), r.2.1, 0) := by
  subst hr
  unfold Fld.getS
  rw [if_neg (by omega), if_neg (by omega)]
  simp only [show ¬ ((110 : Int) = 40) by omega, if_false]
  rw [if_pos h]
theorem getS_o_err {bs : List Int} {at_ : Nat} {acc : List Itm} (ha : at_ ≤ bs.length) {r : Int × Int × Nat} (hr : r = Fld.rdTop (bs.drop at_)) (h : r.1 ≠ 0) : Fld.getS bs 40 (at_, acc) = ((at_ + r.2.2, acc), 0, r.1) := by
  subst hr
  unfold Fld.getS
  rw [if_neg (by omega), if_neg (by omega)]
  simp only [if_true]
  rw [if_neg h, rdTop_at _ at_ h, List.length_drop, show at_ + (bs.length - at_) = bs.length by omega]
theorem getS_o_ok {bs : List Int} {at_ : Nat} {acc : List Itm} {r : Int × Int × Nat} (hr : r = Fld.rdTop (bs.drop at_)) (h : r.1 = 0) : Fld.getS bs 40 (at_, acc) = ((at_ + r.2.2, acc ++ [⟨r.2.1, [], Fld.zero32⟩]), r.2.1, 0) := by
  subst hr
  unfold Fld.getS
  rw [if_neg (by omega), if_neg (by omega)]
  simp only [if_true]
  rw [if_pos h]
attribute [local go_sem ↓] execOp_loadItem execOp_buildItems
set_option maxRecDepth 100000 in
set_option maxHeartbeats 2000000 in
theorem get_n (w0 : World) (ga : Nat) (bs : List Int) (p : Option Addr) (n c : Nat) (hin : RIn w0 ga bs p n c) (hn : n ≤ 1000000) (at_ : Nat) (l : List Itm) (w : World) (h : RAt w0 ga bs p n c (at_, l) w) :
    Calls Try.prog 35 #[.pointer (some ⟨ga, 0, none⟩), .int .i32 110] w (GDone w0 ga bs p n c 110 (at_, l) w) := by
  obtain ⟨v, ys, hs⟩ := h
  have HI := Lib.hid hin
  have HS := Lib.hid hs
  have hat : at_ ≤ n := hs.at_
  obtain ⟨r, hr⟩ : ∃ r, r = Fld.rd 0 0 (bs.drop at_) := ⟨_, rfl⟩
  have HR := Lib.hid hr
  clear hin hs
  by_cases h0 : r.1 = 0
  · have h0' : (r.1 == 0) = true := by simpa using h0
    obtain ⟨m, e1, e2, e3, e4, e5⟩ := Fld.rd_back0 (bs.drop at_) r.2.1 r.2.2 (fun x hx => HI.out.bd x (List.mem_of_mem_drop hx)) (by rw [← hr, ← h0])
    have HG := Lib.hid (getS_n_ok (bs := bs) (at_ := at_) (acc := l) hr h0)
    have hpos := Fld.num_pos m
    rw [List.length_drop, HI.out.len] at e4
    have hk1 : at_ + r.2.2 ≤ n := by omega
    have hk2 : at_ + 1 ≤ at_ + r.2.2 := by omega
    have HOKX := Lib.hid (show Itm.ok ⟨r.2.1, [], Fld.zero32⟩ from ⟨by simp only []; omega, by simp only []; omega, by simp, item0_ok'.D, Fld.zero32_length⟩)
    clear e1 e2 e3 e4 e5 h0 hr hpos
    go_enter Try.func35, Try.ntmps35
    go_wp2_with (first
      | (refine wpList_alloc_arr rfl 98 rfl _ item_info ?_; have hkA := HS.out.blk.old (Obj.cells (icells ⟨0, [], Fld.zero32⟩ none 0).toArray 98); have hiA := Blk.new w (icells ⟨0, [], Fld.zero32⟩ none 0).toArray 98; have hoA := only_alloc (only_refl w ga) (Obj.cells (icells ⟨0, [], Fld.zero32⟩ none 0).toArray 98); rw [List.toList_toArray] at hiA; have hBA := below_only HS.out.below hoA HI.out.base HS.out.below.size; have hgx : w.heap.size ≤ w.heap.size := Nat.le_refl _; have hlt : ga < w.heap.size := HS.out.blk.lt; have hgne : w.heap.size ≠ ga := (by omega); generalize w.alloc (Obj.cells (icells ⟨0, [], Fld.zero32⟩ none 0).toArray 98) = wA at *; generalize hgxe : w.heap.size = gx at *; have HGX := Lib.hid hgxe.symm; clear hgxe; have HKA := Lib.hid hkA; have HIA := Lib.hid hiA; have HOA := Lib.hid hoA; have HBA := Lib.hid hBA; clear hkA hiA hoA hBA hgx)
      | (go_at_call 51; refine (rnum_any w0 ga bs p n c v at_ wA HI.out.len HI.out.bd HI.out.at_ HBA.out HI.out.base HI.out.le HI.out.max hat HKA.out).mono ?_; rw [← HR.out]; rintro e w1 ⟨rfl, hk1, ho1⟩; have hi1 := HIA.out.grow ho1 (fun e => hgne (Option.some.inj e).symm); have d0 : w1.cell? ⟨gx, 0, none⟩ = some (.int .i64 0) := (hi1.cell 0).trans (icells_0 _ _ _); have d1 : w1.frozen? ⟨gx, 0, none⟩ = false := hi1.free 0; have HK1 := Lib.hid hk1; have HO1 := Lib.hid (only_trans HOA.out ho1); have HI1 := Lib.hid hi1; clear hk1 ho1 hi1))
    have ho2 := only_setNew HO1.out (Nat.le_of_eq HGX.out.symm) 0 (.int .i64 r.2.1)
    have hk3 := HK1.out.setOther (⟨gx, 0, none⟩ : Addr) (.int .i64 r.2.1) (Ne.symm hgne)
    have hi2 : Blk (w1.setCell ⟨gx, 0, none⟩ (.int .i64 r.2.1)) gx (icells ⟨r.2.1, [], Fld.zero32⟩ none 0) 98 := by have := HI1.out.set 0 (.int .i64 r.2.1); rwa [icells_set0] at this
    have hgs := HS.out.step HI.out.base ho2 hk3 hi2 ⟨HOKX.out, rfl, by simp, Or.inl ⟨rfl, rfl⟩⟩ (Nat.le_of_eq HGX.out.symm)
    have HLL := Lib.hid (show l.length + 1 ≤ at_ + r.2.2 by have h2 := HS.out.few; simp only at h2; omega)
    obtain ⟨x, hxx⟩ : ∃ x : Itm, x = ⟨r.2.1, [], Fld.zero32⟩ := ⟨_, rfl⟩
    have HXN := Lib.hid (show x.N = r.2.1 by rw [hxx])
    clear ho2 hk3 hi2 d0 d1
    generalize w1.setCell ⟨gx, 0, none⟩ (.int .i64 r.2.1) = w2 at *
    have GS := Lib.hid hgs
    clear hgs
    obtain ⟨at2, hat2⟩ : ∃ a, a = at_ + r.2.2 := ⟨_, rfl⟩
    rw [← hat2] at GS HG HLL hk1 hk2
    clear hat2 HK1 HI1 HO1
    rw [← hxx] at GS HG
    clear hxx HOKX
    obtain ⟨q, hq⟩ : ∃ q : Option Addr, q = none := ⟨_, rfl⟩
    obtain ⟨qc, hqc⟩ : ∃ qc : Nat, qc = 0 := ⟨_, rfl⟩
    rw [← hq, ← hqc] at GS
    clear hq hqc
    have c2 : w2.cell? ⟨ga, 2, none⟩ = some v := GS.out.blk.cell 2
    have g0 : w2.cell? ⟨gx, 0, none⟩ = some (.int .i64 x.N) := (GS.out.item.cell 0).trans (icells_0 _ _ _)
    have c2' : (w2.alloc (Obj.cells (icells x q qc).toArray 98)).cell? ⟨ga, 2, none⟩ = some v := (GS.out.blk.old _).cell 2
    have ld := load_item GS.out.goodx.ok GS.out.item.drew
    have bd := fun w => build_item w (q := q) (c := qc) GS.out.goodx.ok
    have hll := HLL.out
    obtain ⟨i0, hi0, hz0, hz1, hz2⟩ := info_parts item_all3
    have HI0 := Lib.hid hi0
    have HZ0 := Lib.hid hz0
    have HZ1 := Lib.hid hz1
    have HZ2 := Lib.hid hz2
    clear hi0 hz0 hz1 hz2
    have HZS := Lib.hid (show (Value.agg (icells ⟨0, [], Fld.zero32⟩ none 0).toArray).cells.size = 34 by show (icells ⟨0, [], Fld.zero32⟩ none 0).toArray.size = 34; rw [List.size_toArray, icells_length item0_ok'])
    go_region_law ((refine step_append_lies _ (by rfl) _ _ _ (by rfl) w0.heap.size 98 i0 _ 34 64 Try.underlying55 HI0.out HZ0.out HZ1.out HZ2.out HZS.out (by omega) v l.length _ (by rfl) ((GS.out.own.alloc _).drew) ⟨w2.heap.size, 0, none⟩ 1 1 (icells x q qc) (by rfl) (by rw [icells_length GS.out.goodx.ok]) (World.news_of_block (cs := (icells x q qc).toArray) (t := 98) (fr := (0, 0)) (heap_alloc_new w2 _)) (icells_one x q qc) (by omega) (by unfold maxLen; omega) (by omega) (by have := GS.out.size; simp; omega) (w2.heap.size + 1) (by simp) ?_; intro g5 cap5 w5 hown5 hgrow5 hat5 hlt5; obtain ⟨ra5, it5, k5, i5⟩ := GS.out.done HI.out.base (Obj.cells (icells x q qc).toArray 98) ⟨hgrow5.os, hgrow5.tape, hgrow5.output, hgrow5.size, hgrow5.block⟩ hown5 hk1 hll; have s0 : w5.cell? ⟨ga, 2, none⟩ = some v := k5.cell 2; have s1 : w5.frozen? ⟨ga, 2, none⟩ = false := k5.free 2; have s2 : w5.cell? ⟨gx, 0, none⟩ = some (.int .i64 x.N) := (i5.cell 0).trans (icells_0 _ _ _); have RA5 := Lib.hid ra5; have IT5 := Lib.hid it5; clear hown5 hgrow5 hat5 ra5 it5 k5 i5))
    all_goals
      go_wp2_with fail
      go_ret2
      exact ⟨by rw [HG.out]; show Ending.returned (.tuple #[.int .i64 x.N, .int .i64 0]) = _; rw [HXN.out], by rw [HG.out]; exact RA5.out, IT5.out⟩
  · have h0' : (r.1 == 0) = false := by simpa using h0
    have HG := Lib.hid (getS_n_err (bs := bs) (at_ := at_) (acc := l) (by rw [HI.out.len]; exact hat) hr h0)
    have HAT := Lib.hid (show at_ + r.2.2 ≤ n ∧ l.length ≤ at_ + r.2.2 from by have h1 := rd_at (bs.drop at_) at_ (by rw [← hr]; exact h0); rw [← hr, List.length_drop, HI.out.len] at h1; have h2 := HS.out.few; simp only at h2; split at h1 <;> omega)
    clear h0 hr
    go_enter Try.func35, Try.ntmps35
    go_wp2_with (first
      | (refine wpList_alloc_arr rfl 98 rfl _ item_info ?_; have hkA := HS.out.blk.old (Obj.cells (icells ⟨0, [], Fld.zero32⟩ none 0).toArray 98); have hiA := Blk.new w (icells ⟨0, [], Fld.zero32⟩ none 0).toArray 98; have hoA := only_alloc (only_refl w ga) (Obj.cells (icells ⟨0, [], Fld.zero32⟩ none 0).toArray 98); rw [List.toList_toArray] at hiA; have hBA := below_only HS.out.below hoA HI.out.base HS.out.below.size; have hgx : w.heap.size ≤ w.heap.size := Nat.le_refl _; have hlt : ga < w.heap.size := HS.out.blk.lt; have hgne : w.heap.size ≠ ga := (by omega); generalize w.alloc (Obj.cells (icells ⟨0, [], Fld.zero32⟩ none 0).toArray 98) = wA at *; generalize hgxe : w.heap.size = gx at *; have HGX := Lib.hid hgxe.symm; clear hgxe; have HKA := Lib.hid hkA; have HIA := Lib.hid hiA; have HOA := Lib.hid hoA; have HBA := Lib.hid hBA; clear hkA hiA hoA hBA hgx)
      | (go_at_call 51; refine (rnum_any w0 ga bs p n c v at_ wA HI.out.len HI.out.bd HI.out.at_ HBA.out HI.out.base HI.out.le HI.out.max hat HKA.out).mono ?_; rw [← HR.out]; rintro e w1 ⟨rfl, hk1, ho1⟩; have hi1 := HIA.out.grow ho1 (fun e => hgne (Option.some.inj e).symm); have d0 : w1.cell? ⟨gx, 0, none⟩ = some (.int .i64 0) := (hi1.cell 0).trans (icells_0 _ _ _); have d1 : w1.frozen? ⟨gx, 0, none⟩ = false := hi1.free 0; have HK1 := Lib.hid hk1; have HO1 := Lib.hid (only_trans HOA.out ho1); have HI1 := Lib.hid hi1; clear hk1 ho1 hi1))
    go_ret2
    have ho2 := only_setNew HO1.out (Nat.le_of_eq HGX.out.symm) 0 (.int .i64 r.2.1)
    have hk2 := HK1.out.setOther (⟨gx, 0, none⟩ : Addr) (.int .i64 r.2.1) (Ne.symm hgne)
    exact ⟨by rw [HG.out]; rfl, by rw [HG.out]; exact HS.out.err HI.out.base ho2 hk2 HAT.out.1 HAT.out.2, iters_of (others_only ho2 5) ⟨_, _, HS.out.blk⟩⟩
end
end Go.Proofs.Yteepaoklibflpaa
