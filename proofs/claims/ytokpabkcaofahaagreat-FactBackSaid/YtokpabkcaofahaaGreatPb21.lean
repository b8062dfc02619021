/-
  A reader under way; the last part of get: the item is appended.
  A number is read as an item.
  What an item may be: the contracts of named and bounded.
  Which errors an item beyond its letter's bounds has: the contract of bounded.
-/
import Derived.Test.YtokpabkcaofahaaGreatPb20
import Derived.Test.YtokpabkcaofahaaGreatPb19
import Derived.Test.YtokpabkcaofahaaGreatPb2
import Derived.Test.YtokpabkcaofahaaGreatPb7
import Derived.WalkSpells
import Derived.IntWalk
import Derived.WalkLawsBesides
import Derived.Test.YtokpabkcaofahaaGreatPb4
namespace Go.Proofs.YtokpabkcaofahaaGreat
section
set_option linter.unusedSimpArgs false
set_option linter.unusedVariables false
open Go.RowKit Sha
open Fld (Itm)
structure GoodR (w : World) (x : Itm) (q : Option Addr) (c : Nat) : Prop where
  ok : x.ok
  len : c = x.B.length
  max : c ≤ 4000
  at_ : (x.B = [] ∧ q = none) ∨ ∃ g, q = some ⟨g, 0, none⟩ ∧ Blk w g (x.B.map v8) 5
theorem GoodR.good {w : World} {x : Itm} {q : Option Addr} {c : Nat} (h : GoodR w x q c) : GoodI w x q c := by
  refine ⟨h.ok, ?_, by rw [h.len]; exact Nat.le_refl _, by have := h.max; omega, ?_⟩
  · rcases h.at_ with ⟨h1, h2⟩ | ⟨g, h1, h2⟩
    · rw [h1]; exact At.nil _ _
    · exact Or.inr ⟨g, 0, h1, h2.range⟩
  · intro hq
    rcases h.at_ with ⟨h1, h2⟩ | ⟨g, h1, h2⟩
    · rw [h.len, h1]; rfl
    · rw [h1] at hq; cases hq
theorem GoodR.carry {w w' : World} {x : Itm} {q : Option Addr} {c : Nat} (h : GoodR w x q c) (hc : ∀ g cs, Blk w g cs 5 → Blk w' g cs 5) : GoodR w' x q c :=
  ⟨h.ok, h.len, h.max, h.at_.imp id fun ⟨g, h1, h2⟩ => ⟨g, h1, hc _ _ h2⟩⟩
theorem ri_ne : (83 : TypeId) ≠ 160 := by decide
theorem ur_ne : (5 : TypeId) ≠ 160 := by decide
theorem iu_ne : (5 : TypeId) ≠ 83 := by decide
theorem blk_ne {w : World} {g g' : Nat} {cs cs' : List Value} {t t' : TypeId} (h : Blk w g cs t) (h' : Blk w g' cs' t') (hne : t ≠ t') : g ≠ g' := by
  rintro rfl
  unfold Blk at h h'
  rw [h] at h'
  injection h' with h'
  injection h' with _ ht
  exact hne ht
structure RSt (w0 : World) (ga : Nat) (bs : List Int) (p : Option Addr) (n c : Nat) (st : Nat × List Itm) (v : Value) (ys : List Hdr) (w : World) : Prop where
  blk : Blk w ga [.slice p n c, .int .i64 (st.1 : Int), v] 160
  own : w.ownsRow w0.heap.size 83 34 v st.2.length (ys.flatMap cellsI)
  items : ys.map (·.1) = st.2
  good : ∀ y ∈ ys, GoodR w y.1 y.2.1 y.2.2
  at_ : st.1 ≤ n
  few : st.2.length ≤ st.1
  below : Below w0.heap.size w0 w
def RAt (w0 : World) (ga : Nat) (bs : List Int) (p : Option Addr) (n c : Nat) (st : Nat × List Itm) (w : World) : Prop := ∃ v ys, RSt w0 ga bs p n c st v ys w
def GDone (w0 : World) (ga : Nat) (bs : List Int) (p : Option Addr) (n c : Nat) (l : Int) (st : Nat × List Itm) (w : World) (e : Ending) (w' : World) : Prop :=
  e = .returned (.tuple #[.int .i64 (Fld.getS bs l st).2.1, .int .i64 (Fld.getS bs l st).2.2]) ∧ RAt w0 ga bs p n c (Fld.getS bs l st).1 w' ∧ ItersKept w w'
theorem only_setNew {a w : World} {ga g : Nat} (h : a.grownBy w (some ga)) (hg : a.heap.size ≤ g) (i : Nat) (u : Value) : a.grownBy (w.setCell ⟨g, i, none⟩ u) (some ga) :=
  ⟨h.os, h.tape, h.output, by simpa [World.setCell] using h.size, fun k hk hne => (Below.heap_setCell w _ u k (by show k ≠ g; omega)).trans (h.block k hk hne)⟩
/-- What is there when the item is read, ahead of the append. -/
structure GStep (w0 w : World) (ga gx : Nat) (bs : List Int) (p : Option Addr) (n c : Nat) (st : Nat × List Itm) (v : Value) (ys : List Hdr) (at2 : Nat) (x : Itm) (q : Option Addr) (qc : Nat) (w2 : World) : Prop where
  blk : Blk w2 ga [.slice p n c, .int .i64 (at2 : Int), v] 160
  item : Blk w2 gx (icells x q qc) 83
  own : w2.ownsRow w0.heap.size 83 34 v st.2.length (ys.flatMap cellsI)
  items : ys.map (·.1) = st.2
  good : ∀ y ∈ ys, GoodR w2 y.1 y.2.1 y.2.2
  goodx : GoodR w2 x q qc
  below : Below w0.heap.size w0 w2
  size : w0.heap.size ≤ w2.heap.size
  iters : ItersKept w w2
  apart : v.ownBlock ≠ some gx
theorem RSt.step {w0 w : World} {ga gx : Nat} {bs : List Int} {p : Option Addr} {n c : Nat} {st : Nat × List Itm} {v : Value} {ys : List Hdr} {at2 : Nat} {x : Itm} {q : Option Addr} {qc : Nat} {w2 : World} (h : RSt w0 ga bs p n c st v ys w) (hb : w0.heap.size ≤ ga)
    (ho : w.grownBy w2 (some ga)) (hk : Blk w2 ga [.slice p n c, .int .i64 (at2 : Int), v] 160) (hi : Blk w2 gx (icells x q qc) 83) (hx : GoodR w2 x q qc) (hgx : w.heap.size ≤ gx) : GStep w0 w ga gx bs p n c st v ys at2 x q qc w2 :=
  ⟨hk, hi, h.own.kept ho (Or.inr (own_ne h.own h.blk ri_ne)), h.items, fun y hy => (h.good y hy).carry fun g cs hg => hg.grow ho (fun e => blk_ne hg h.blk ur_ne (Option.some.inj e).symm), hx,
    below_only h.below ho hb h.below.size, Nat.le_trans h.below.size ho.size, iters_of (others_only ho 5) ⟨_, _, h.blk⟩, fun e => by have := (h.own.lt gx e).2; omega⟩
/-- .. an error is told: nothing is appended. -/
theorem RSt.err {w0 w : World} {ga : Nat} {bs : List Int} {p : Option Addr} {n c : Nat} {st : Nat × List Itm} {v : Value} {ys : List Hdr} {at2 : Nat} {w2 : World} (h : RSt w0 ga bs p n c st v ys w) (hb : w0.heap.size ≤ ga)
    (ho : w.grownBy w2 (some ga)) (hk : Blk w2 ga [.slice p n c, .int .i64 (at2 : Int), v] 160) (ha : at2 ≤ n) (hf : st.2.length ≤ at2) : RAt w0 ga bs p n c (at2, st.2) w2 :=
  ⟨v, ys, hk, h.own.kept ho (Or.inr (own_ne h.own h.blk ri_ne)), h.items, fun y hy => (h.good y hy).carry fun g cs hg => hg.grow ho (fun e => blk_ne hg h.blk ur_ne (Option.some.inj e).symm), ha, hf, below_only h.below ho hb h.below.size⟩
/-- Behind the append and the store. -/
theorem GStep.done {w0 w : World} {ga gx : Nat} {bs : List Int} {p : Option Addr} {n c : Nat} {st : Nat × List Itm} {v v' : Value} {ys : List Hdr} {at2 : Nat} {x : Itm} {q : Option Addr} {qc : Nat} {w2 w5 : World} (h : GStep w0 w ga gx bs p n c st v ys at2 x q qc w2) (hb : w0.heap.size ≤ ga) (o : Obj)
    (hg : (w2.alloc o).grownBy w5 v.ownBlock) (hown : w5.ownsRow w0.heap.size 83 34 v' (st.2.length + 1) (ys.flatMap cellsI ++ icells x q qc)) (ha : at2 ≤ n) (hf : st.2.length + 1 ≤ at2) :
    RAt w0 ga bs p n c (at2, st.2 ++ [x]) (w5.setCell ⟨ga, 2, none⟩ v') ∧ ItersKept w (w5.setCell ⟨ga, 2, none⟩ v') ∧ Blk w5 ga [.slice p n c, .int .i64 (at2 : Int), v] 160 ∧ Blk w5 gx (icells x q qc) 83 := by
  have hoA := h.own.alloc o
  have hkA := h.blk.old o
  have hk5 := hkA.grow hg (own_ne hoA hkA ri_ne)
  have hu : ∀ g cs, Blk w2 g cs 5 → Blk (w5.setCell ⟨ga, 2, none⟩ v') g cs 5 := fun g cs hgb => by
    have h1 := hgb.old o
    exact (h1.grow hg (own_ne hoA h1 (fun e => iu_ne e.symm))).setOther _ _ (blk_ne hgb h.blk ur_ne)
  have hi5 : Blk w5 gx (icells x q qc) 83 := (h.item.old o).grow hg h.apart
  have hO : Lib.OthersKept 83 (some ga) w2 w5 := ((Lib.OthersKept.refl _ _ _).alloc o).grown hg (own_kind hoA)
  refine ⟨⟨v', ys ++ [(x, q, qc)], hk5.set 2 v', ?_, by simp [h.items], fun y hy => ?_, ha, by simpa using hf, ?_⟩, ?_, hk5, hi5⟩
  · have := own_set hown hk5 ri_ne 2 v'
    simpa [cellsI] using this
  · rcases List.mem_append.1 hy with hy | hy
    · exact (h.good y hy).carry hu
    · simp at hy; subst hy; exact h.goodx.carry hu
  · exact ((h.below.alloc h.size o).grown hg (by simp; have := h.size; omega) (fun k hk => (hoA.lt k hk).1)).setCell hb _
  · exact h.iters.trans (iters_of (others_set hO 2 v') ⟨_, _, h.blk⟩)
end
section
set_option linter.unusedSimpArgs false
set_option linter.unusedVariables false
open Go.RowKit Sha
open Fld (Itm)
theorem item0_ok' : Itm.ok ⟨0, [], Fld.zero32⟩ := ⟨by simp, by simp, by simp, by unfold Fld.zero32; intro n hn; have := List.eq_of_mem_replicate hn; omega, Fld.zero32_length⟩
theorem getS_n_err {bs : List Int} {at_ : Nat} {acc : List Itm} (ha : at_ ≤ bs.length) {r : Int × Int × Nat} (hr : r = Fld.rd 0 0 (bs.drop at_)) (h : r.1 ≠ 0) : Fld.getS bs 110 (at_, acc) = ((at_ + r.2.2, acc), 0, r.1) := by
  subst hr
  unfold Fld.getS
  rw [if_neg (by omega), if_neg (by omega)]
  simp only [show ¬ ((110 : Int) = 40) by omega, if_false]
  rw [if_neg h, rd_at _ at_ h, List.length_drop, show at_ + (bs.length - at_) = bs.length by omega]
theorem getS_n_ok {bs : List Int} {at_ : Nat} {acc : List Itm} {r : Int × Int × Nat} (hr : r = Fld.rd 0 0 (bs.drop at_)) (h : r.1 = 0) : Fld.getS bs 110 (at_, acc) = ((at_ + r.2.2, acc ++ [⟨r.2.1, [], Fld.zero32⟩]), r.2.1, 0) := by
  subst hr
  unfold Fld.getS
  rw [if_neg (by omega), if_neg (by omega)]
  simp only [show ¬ ((110 : Int) = 40) by omega, if_false]
  rw [if_pos h]
theorem getS_o_err {bs : List Int} {at_ : Nat} {acc : List Itm} (ha : at_ ≤ bs.length) {r : Int × Int × Nat} (hr : r = Fld.rdTop (bs.drop at_)) (h : r.1 ≠ 0) : Fld.getS bs 40 (at_, acc) = ((at_ + r.2.2, acc), 0, r.1) := by
  subst hr
  unfold Fld.getS
  rw [if_neg (by omega), if_neg (by omega)]
  simp only [if_true]
  rw [if_neg h, rdTop_at _ at_ h, List.length_drop, show at_ + (bs.length - at_) = bs.length by omega]
theorem getS_o_ok {bs : List Int} {at_ : Nat} {acc : List Itm} {r : Int × Int × Nat} (hr : r = Fld.rdTop (bs.drop at_)) (h : r.1 = 0) : Fld.getS bs 40 (at_, acc) = ((at_ + r.2.2, acc ++ [⟨r.2.1, [], Fld.zero32⟩]), r.2.1, 0) := by
  subst hr
  unfold Fld.getS
  rw [if_neg (by omega), if_neg (by omega)]
  simp only [if_true]
  rw [if_pos h]
attribute [local go_sem ↓] execOp_loadItem execOp_buildItems
set_option maxRecDepth 100000 in
set_option maxHeartbeats 2000000 in
theorem get_n (w0 : World) (ga : Nat) (bs : List Int) (p : Option Addr) (n c : Nat) (hin : RIn w0 ga bs p n c) (hn : n ≤ 1000000) (at_ : Nat) (l : List Itm) (w : World) (h : RAt w0 ga bs p n c (at_, l) w) :
    Calls Tryz.prog 113 #[.pointer (some ⟨ga, 0, none⟩), .int .i32 110] w (GDone w0 ga bs p n c 110 (at_, l) w) := by
  obtain ⟨v, ys, hs⟩ := h
  have HI := Lib.hid hin
  have HS := Lib.hid hs
  have hat : at_ ≤ n := hs.at_
  obtain ⟨r, hr⟩ : ∃ r, r = Fld.rd 0 0 (bs.drop at_) := ⟨_, rfl⟩
  have HR := Lib.hid hr
  clear hin hs
  by_cases h0 : r.1 = 0
  · have h0' : (r.1 == 0) = true := by simpa using h0
    obtain ⟨m, e1, e2, e3, e4, e5⟩ := Fld.rd_back0 (bs.drop at_) r.2.1 r.2.2 (fun x hx => HI.out.bd x (List.mem_of_mem_drop hx)) (by rw [← hr, ← h0])
    have HG := Lib.hid (getS_n_ok (bs := bs) (at_ := at_) (acc := l) hr h0)
    have hpos := Fld.num_pos m
    rw [List.length_drop, HI.out.len] at e4
    have hk1 : at_ + r.2.2 ≤ n := by omega
    have hk2 : at_ + 1 ≤ at_ + r.2.2 := by omega
    have HOKX := Lib.hid (show Itm.ok ⟨r.2.1, [], Fld.zero32⟩ from ⟨by simp only []; omega, by simp only []; omega, by simp, item0_ok'.D, Fld.zero32_length⟩)
    clear e1 e2 e3 e4 e5 h0 hr hpos
    go_enter Tryz.func113, Tryz.ntmps113
    go_wp2_with (first
      | (refine wpList_alloc_arr rfl 83 rfl _ item_info ?_; have hkA := HS.out.blk.old (Obj.cells (icells ⟨0, [], Fld.zero32⟩ none 0).toArray 83); have hiA := Blk.new w (icells ⟨0, [], Fld.zero32⟩ none 0).toArray 83; have hoA := only_alloc (only_refl w ga) (Obj.cells (icells ⟨0, [], Fld.zero32⟩ none 0).toArray 83); rw [List.toList_toArray] at hiA; have hBA := below_only HS.out.below hoA HI.out.base HS.out.below.size; have hgx : w.heap.size ≤ w.heap.size := Nat.le_refl _; have hlt : ga < w.heap.size := HS.out.blk.lt; have hgne : w.heap.size ≠ ga := (by omega); generalize w.alloc (Obj.cells (icells ⟨0, [], Fld.zero32⟩ none 0).toArray 83) = wA at *; generalize hgxe : w.heap.size = gx at *; have HGX := Lib.hid hgxe.symm; clear hgxe; have HKA := Lib.hid hkA; have HIA := Lib.hid hiA; have HOA := Lib.hid hoA; have HBA := Lib.hid hBA; clear hkA hiA hoA hBA hgx)
      | (go_at_call 146; refine (rnum_any w0 ga bs p n c v at_ wA HI.out.len HI.out.bd HI.out.at_ HBA.out HI.out.base HI.out.le HI.out.max hat HKA.out).mono ?_; rw [← HR.out]; rintro e w1 ⟨rfl, hk1, ho1⟩; have hi1 := HIA.out.grow ho1 (fun e => hgne (Option.some.inj e).symm); have d0 : w1.cell? ⟨gx, 0, none⟩ = some (.int .i64 0) := (hi1.cell 0).trans (icells_0 _ _ _); have d1 : w1.frozen? ⟨gx, 0, none⟩ = false := hi1.free 0; have HK1 := Lib.hid hk1; have HO1 := Lib.hid (only_trans HOA.out ho1); have HI1 := Lib.hid hi1; clear hk1 ho1 hi1))
    have ho2 := only_setNew HO1.out (Nat.le_of_eq HGX.out.symm) 0 (.int .i64 r.2.1)
    have hk3 := HK1.out.setOther (⟨gx, 0, none⟩ : Addr) (.int .i64 r.2.1) (Ne.symm hgne)
    have hi2 : Blk (w1.setCell ⟨gx, 0, none⟩ (.int .i64 r.2.1)) gx (icells ⟨r.2.1, [], Fld.zero32⟩ none 0) 83 := by have := HI1.out.set 0 (.int .i64 r.2.1); rwa [icells_set0] at this
    have hgs := HS.out.step HI.out.base ho2 hk3 hi2 ⟨HOKX.out, rfl, by simp, Or.inl ⟨rfl, rfl⟩⟩ (Nat.le_of_eq HGX.out.symm)
    have HLL := Lib.hid (show l.length + 1 ≤ at_ + r.2.2 by have h2 := HS.out.few; simp only at h2; omega)
    obtain ⟨x, hxx⟩ : ∃ x : Itm, x = ⟨r.2.1, [], Fld.zero32⟩ := ⟨_, rfl⟩
    have HXN := Lib.hid (show x.N = r.2.1 by rw [hxx])
    clear ho2 hk3 hi2 d0 d1
    generalize w1.setCell ⟨gx, 0, none⟩ (.int .i64 r.2.1) = w2 at *
    have GS := Lib.hid hgs
    clear hgs
    obtain ⟨at2, hat2⟩ : ∃ a, a = at_ + r.2.2 := ⟨_, rfl⟩
    rw [← hat2] at GS HG HLL hk1 hk2
    clear hat2 HK1 HI1 HO1
    rw [← hxx] at GS HG
    clear hxx HOKX
    obtain ⟨q, hq⟩ : ∃ q : Option Addr, q = none := ⟨_, rfl⟩
    obtain ⟨qc, hqc⟩ : ∃ qc : Nat, qc = 0 := ⟨_, rfl⟩
    rw [← hq, ← hqc] at GS
    clear hq hqc
    have c2 : w2.cell? ⟨ga, 2, none⟩ = some v := GS.out.blk.cell 2
    have g0 : w2.cell? ⟨gx, 0, none⟩ = some (.int .i64 x.N) := (GS.out.item.cell 0).trans (icells_0 _ _ _)
    have c2' : (w2.alloc (Obj.cells (icells x q qc).toArray 83)).cell? ⟨ga, 2, none⟩ = some v := (GS.out.blk.old _).cell 2
    have ld := load_item GS.out.goodx.ok GS.out.item.drew
    have bd := fun w => build_item w (q := q) (c := qc) GS.out.goodx.ok
    have hll := HLL.out
    obtain ⟨i0, hi0, hz0, hz1, hz2⟩ := info_parts item_all3
    have HI0 := Lib.hid hi0
    have HZ0 := Lib.hid hz0
    have HZ1 := Lib.hid hz1
    have HZ2 := Lib.hid hz2
    clear hi0 hz0 hz1 hz2
    have HZS := Lib.hid (show (Value.agg (icells ⟨0, [], Fld.zero32⟩ none 0).toArray).cells.size = 34 by show (icells ⟨0, [], Fld.zero32⟩ none 0).toArray.size = 34; rw [List.size_toArray, icells_length item0_ok'])
    go_region_law ((refine step_append_lies _ (by rfl) _ _ _ (by rfl) w0.heap.size 83 i0 _ 34 64 Tryz.underlying81 HI0.out HZ0.out HZ1.out HZ2.out HZS.out (by omega) v l.length _ (by rfl) ((GS.out.own.alloc _).drew) ⟨w2.heap.size, 0, none⟩ 1 1 (icells x q qc) (by rfl) (by rw [icells_length GS.out.goodx.ok]) (World.news_of_block (cs := (icells x q qc).toArray) (t := 83) (fr := (0, 0)) (heap_alloc_new w2 _)) (icells_one x q qc) (by omega) (by unfold maxLen; omega) (by omega) (by have := GS.out.size; simp; omega) (w2.heap.size + 1) (by simp) ?_; intro g5 cap5 w5 hown5 hgrow5 hat5 hlt5; obtain ⟨ra5, it5, k5, i5⟩ := GS.out.done HI.out.base (Obj.cells (icells x q qc).toArray 83) ⟨hgrow5.os, hgrow5.tape, hgrow5.output, hgrow5.size, hgrow5.block⟩ hown5 hk1 hll; have s0 : w5.cell? ⟨ga, 2, none⟩ = some v := k5.cell 2; have s1 : w5.frozen? ⟨ga, 2, none⟩ = false := k5.free 2; have s2 : w5.cell? ⟨gx, 0, none⟩ = some (.int .i64 x.N) := (i5.cell 0).trans (icells_0 _ _ _); have RA5 := Lib.hid ra5; have IT5 := Lib.hid it5; clear hown5 hgrow5 hat5 ra5 it5 k5 i5))
    all_goals
      go_wp2_with fail
      go_ret2
      exact ⟨by rw [HG.out]; show Ending.returned (.tuple #[.int .i64 x.N, .int .i64 0]) = _; rw [HXN.out], by rw [HG.out]; exact RA5.out, IT5.out⟩
  · have h0' : (r.1 == 0) = false := by simpa using h0
    have HG := Lib.hid (getS_n_err (bs := bs) (at_ := at_) (acc := l) (by rw [HI.out.len]; exact hat) hr h0)
    have HAT := Lib.hid (show at_ + r.2.2 ≤ n ∧ l.length ≤ at_ + r.2.2 from by have h1 := rd_at (bs.drop at_) at_ (by rw [← hr]; exact h0); rw [← hr, List.length_drop, HI.out.len] at h1; have h2 := HS.out.few; simp only at h2; split at h1 <;> omega)
    clear h0 hr
    go_enter Tryz.func113, Tryz.ntmps113
    go_wp2_with (first
      | (refine wpList_alloc_arr rfl 83 rfl _ item_info ?_; have hkA := HS.out.blk.old (Obj.cells (icells ⟨0, [], Fld.zero32⟩ none 0).toArray 83); have hiA := Blk.new w (icells ⟨0, [], Fld.zero32⟩ none 0).toArray 83; have hoA := only_alloc (only_refl w ga) (Obj.cells (icells ⟨0, [], Fld.zero32⟩ none 0).toArray 83); rw [List.toList_toArray] at hiA; have hBA := below_only HS.out.below hoA HI.out.base HS.out.below.size; have hgx : w.heap.size ≤ w.heap.size := Nat.le_refl _; have hlt : ga < w.heap.size := HS.out.blk.lt; have hgne : w.heap.size ≠ ga := (by omega); generalize w.alloc (Obj.cells (icells ⟨0, [], Fld.zero32⟩ none 0).toArray 83) = wA at *; generalize hgxe : w.heap.size = gx at *; have HGX := Lib.hid hgxe.symm; clear hgxe; have HKA := Lib.hid hkA; have HIA := Lib.hid hiA; have HOA := Lib.hid hoA; have HBA := Lib.hid hBA; clear hkA hiA hoA hBA hgx)
      | (go_at_call 146; refine (rnum_any w0 ga bs p n c v at_ wA HI.out.len HI.out.bd HI.out.at_ HBA.out HI.out.base HI.out.le HI.out.max hat HKA.out).mono ?_; rw [← HR.out]; rintro e w1 ⟨rfl, hk1, ho1⟩; have hi1 := HIA.out.grow ho1 (fun e => hgne (Option.some.inj e).symm); have d0 : w1.cell? ⟨gx, 0, none⟩ = some (.int .i64 0) := (hi1.cell 0).trans (icells_0 _ _ _); have d1 : w1.frozen? ⟨gx, 0, none⟩ = false := hi1.free 0; have HK1 := Lib.hid hk1; have HO1 := Lib.hid (only_trans HOA.out ho1); have HI1 := Lib.hid hi1; clear hk1 ho1 hi1))
    go_ret2
    have ho2 := only_setNew HO1.out (Nat.le_of_eq HGX.out.symm) 0 (.int .i64 r.2.1)
    have hk2 := HK1.out.setOther (⟨gx, 0, none⟩ : Addr) (.int .i64 r.2.1) (Ne.symm hgne)
    exact ⟨by rw [HG.out]; rfl, by rw [HG.out]; exact HS.out.err HI.out.base ho2 hk2 HAT.out.1 HAT.out.2, iters_of (others_only ho2 5) ⟨_, _, HS.out.blk⟩⟩
end
section
set_option linter.unusedSimpArgs false
set_option linter.unusedVariables false
open Go.RowKit Sha
open Fld (Itm)
theorem ret_bool {a b : Bool} (h : a = b) : Ending.returned (.bool a) = .returned (.bool b) := by rw [h]
/-- The last test of named, whatever the item has become. -/
theorem okFor_98 (x : Itm) : Fld.okFor 98 x = (decide (x.N = 0) && decide (x.D = Fld.zero32)) := by simp [Fld.okFor]
theorem okFor_100 (x : Itm) : Fld.okFor 100 x = (decide (x.N = 0) && decide (x.B = [])) := by simp [Fld.okFor]
theorem okFor_n' (c : Int) (x : Itm) (h1 : c ≠ 98) (h2 : c ≠ 100) : Fld.okFor c x = (decide (x.B = []) && decide (x.D = Fld.zero32)) := by simp [Fld.okFor, h1, h2]
set_option maxRecDepth 100000 in
set_option maxHeartbeats 2000000 in
theorem named_98 (x : Itm) (q : Option Addr) (cap : Nat) (w : World) (hx : x.ok) :
    Calls Tryz.prog 117 #[.int .i32 98, .agg (icells x q cap).toArray] w fun e w' => e = .returned (.bool (Fld.okFor 98 x)) ∧ Below w.heap.size w w' := by
  have hszd : (Tryz.prog.info? 25).map (fun i => i.size) = some (x.D.map v8).length := by rw [id_size]; simp [hx.len]
  have hszz : (Tryz.prog.info? 25).map (fun i => i.size) = some (Fld.zero32.map v8).length := by rw [id_size]; simp [Fld.zero32_length]
  have hszz' : (Tryz.prog.info? 25).map (fun i => i.size) = some (Fld.zero32.map v8).toArray.size := by rw [id_size]; simp [Fld.zero32_length]
  have Hx := Lib.hid hx.len
  have Hl := Lib.hid (icells_length hx q cap)
  have Hz := Lib.hid Fld.zero32_length
  clear hx
  have HR := Lib.hid (okFor_98 x)
  by_cases hN' : x.N = 0
  · have hN : (x.N == 0) = true := by simpa using hN'
    have HN := Lib.hid hN'
    clear hN'
    go_enter Tryz.func117, Tryz.ntmps117
    go_wp2_with (first
            | (refine wpList_box_new rfl 83 _ rfl _ rfl ?_; intro w1 g K1 B1 G1; have c0 : w1.cell? ⟨g, 0, none⟩ = some (.int .i64 x.N) := (K1.cell 0).trans (icells_0 _ _ _); have c1 : w1.cell? ⟨g, 1, none⟩ = some (.slice q x.B.length cap) := (K1.cell 1).trans (icells_1 _ _ _); have f0 := K1.free 0; have f1 := K1.free 1; have K2 := Lib.hid (show Blk (w1.setCell ⟨g, 1, none⟩ (.slice none 0 0)) g (icells ⟨x.N, [], x.D⟩ none 0) 83 by rw [← icells_set1 x q cap [] none 0]; exact K1.set 1 _); have B1 := Lib.hid B1; clear K1)
            | (refine BigFrame.wpList_want rfl (fun K hK => wp_load_mid 25 (.tmp 24) rfl _ 2 rfl _ _ K2.out.rangeId Tryz.underlying25 rfl hszd (hK _ _ ?_)))
            | (refine BigFrame.wpList_want rfl (fun K hK => wp_build' 25 #[] rfl _ id_zero (hK _ _ ?_)))
            | (refine BigFrame.wpList_want rfl (fun K hK => wp_eql_arr 25 (.tmp 25) (.tmp 26) _ rfl 5 32 .u8 Tryz.underlying25 Tryz.underlying5 kslice1 x.D Fld.zero32 rfl rfl Hx.out Hz.out (hK _ _ ?_))))
    go_ret
    exact ⟨ret_bool (by rw [HR.out, HN.out]; simp), B1.out.setCell G1 _⟩
  · have hN : (x.N == 0) = false := by simpa using hN'
    have HN := Lib.hid hN'
    clear hN'
    go_enter Tryz.func117, Tryz.ntmps117
    go_wp2_with (first
            | (refine wpList_box_new rfl 83 _ rfl _ rfl ?_; intro w1 g K1 B1 G1; have c0 : w1.cell? ⟨g, 0, none⟩ = some (.int .i64 x.N) := (K1.cell 0).trans (icells_0 _ _ _); have c1 : w1.cell? ⟨g, 1, none⟩ = some (.slice q x.B.length cap) := (K1.cell 1).trans (icells_1 _ _ _); have f0 := K1.free 0; have f1 := K1.free 1; have K2 := Lib.hid (show Blk (w1.setCell ⟨g, 1, none⟩ (.slice none 0 0)) g (icells ⟨x.N, [], x.D⟩ none 0) 83 by rw [← icells_set1 x q cap [] none 0]; exact K1.set 1 _); have B1 := Lib.hid B1; clear K1)
            | (refine BigFrame.wpList_want rfl (fun K hK => wp_load_mid 25 (.tmp 24) rfl _ 2 rfl _ _ K2.out.rangeId Tryz.underlying25 rfl hszd (hK _ _ ?_)))
            | (refine BigFrame.wpList_want rfl (fun K hK => wp_build' 25 #[] rfl _ id_zero (hK _ _ ?_)))
            | (refine BigFrame.wpList_want rfl (fun K hK => wp_eql_arr 25 (.tmp 25) (.tmp 26) _ rfl 5 32 .u8 Tryz.underlying25 Tryz.underlying5 kslice1 x.D Fld.zero32 rfl rfl Hx.out Hz.out (hK _ _ ?_))))
    go_ret
    exact ⟨ret_bool (by rw [HR.out]; simp [HN.out]), B1.out.setCell G1 _⟩
set_option maxRecDepth 100000 in
set_option maxHeartbeats 2000000 in
theorem named_100 (x : Itm) (q : Option Addr) (cap : Nat) (w : World) (hx : x.ok) :
    Calls Tryz.prog 117 #[.int .i32 100, .agg (icells x q cap).toArray] w fun e w' => e = .returned (.bool (Fld.okFor 100 x)) ∧ Below w.heap.size w w' := by
  have hszd : (Tryz.prog.info? 25).map (fun i => i.size) = some (x.D.map v8).length := by rw [id_size]; simp [hx.len]
  have hszz : (Tryz.prog.info? 25).map (fun i => i.size) = some (Fld.zero32.map v8).length := by rw [id_size]; simp [Fld.zero32_length]
  have hszz' : (Tryz.prog.info? 25).map (fun i => i.size) = some (Fld.zero32.map v8).toArray.size := by rw [id_size]; simp [Fld.zero32_length]
  have Hx := Lib.hid hx.len
  have Hl := Lib.hid (icells_length hx q cap)
  have Hz := Lib.hid Fld.zero32_length
  clear hx
  have HR := Lib.hid (okFor_100 x)
  by_cases hN' : x.N = 0
  · have hN : (x.N == 0) = true := by simpa using hN'
    have HN := Lib.hid hN'
    clear hN'
    by_cases hB' : x.B = []
    · have hB : ((x.B.length : Int) == 0) = true := by simp [hB']
      have HB := Lib.hid hB'
      clear hB'
      go_enter Tryz.func117, Tryz.ntmps117
      go_wp2_with (first
              | (refine wpList_box_new rfl 83 _ rfl _ rfl ?_; intro w1 g K1 B1 G1; have c0 : w1.cell? ⟨g, 0, none⟩ = some (.int .i64 x.N) := (K1.cell 0).trans (icells_0 _ _ _); have c1 : w1.cell? ⟨g, 1, none⟩ = some (.slice q x.B.length cap) := (K1.cell 1).trans (icells_1 _ _ _); have f0 := K1.free 0; have f1 := K1.free 1; have TH := Lib.hid (K1.there 2 32 (by rw [Hl.out]; decide)); have KK := Lib.hid (icells_set2 q cap 83 K1 Fld.zero32 (by rw [Hx.out, Hz.out])); have B1 := Lib.hid B1; clear K1)
              | (refine wpList_store_mid rfl 25 _ _ rfl g 2 (Fld.zero32.map v8).toArray rfl rfl (by simpa [Hz.out] using TH.out) hszz' (v8_one _) ?_; rw [List.toList_toArray]; have k2 := KK.out; have B2 := Lib.hid (setCells_below G1 (Fld.zero32.map v8) 2 _ B1.out); generalize w1.setCells g 2 (Fld.zero32.map v8) = w2 at *; have d0 : w2.cell? ⟨g, 0, none⟩ = some (.int .i64 x.N) := (k2.cell 0).trans (icells_0 _ _ _); have d1 : w2.cell? ⟨g, 1, none⟩ = some (.slice q x.B.length cap) := (k2.cell 1).trans (icells_1 _ _ _); have K2 := Lib.hid k2; clear k2)
              | (refine BigFrame.wpList_want rfl (fun K hK => wp_load_mid 25 (.tmp 24) rfl _ 2 rfl _ _ K2.out.rangeId Tryz.underlying25 rfl hszz (hK _ _ ?_)))
              | (refine BigFrame.wpList_want rfl (fun K hK => wp_build' 25 #[] rfl _ id_zero (hK _ _ ?_)))
              | (refine wpList_build' rfl 25 #[] rfl _ id_zero ?_)
              | (refine BigFrame.wpList_want rfl (fun K hK => wp_eql_arr 25 (.tmp 25) (.tmp 26) _ rfl 5 32 .u8 Tryz.underlying25 Tryz.underlying5 kslice1 Fld.zero32 Fld.zero32 rfl rfl Hz.out Hz.out (hK _ _ ?_))))
      go_ret
      exact ⟨ret_bool (by rw [HR.out, HN.out, HB.out]; simp), B2.out⟩
    · have hB : ((x.B.length : Int) == 0) = false := by simp; exact hB'
      have HB := Lib.hid hB'
      clear hB'
      go_enter Tryz.func117, Tryz.ntmps117
      go_wp2_with (first
              | (refine wpList_box_new rfl 83 _ rfl _ rfl ?_; intro w1 g K1 B1 G1; have c0 : w1.cell? ⟨g, 0, none⟩ = some (.int .i64 x.N) := (K1.cell 0).trans (icells_0 _ _ _); have c1 : w1.cell? ⟨g, 1, none⟩ = some (.slice q x.B.length cap) := (K1.cell 1).trans (icells_1 _ _ _); have f0 := K1.free 0; have f1 := K1.free 1; have TH := Lib.hid (K1.there 2 32 (by rw [Hl.out]; decide)); have KK := Lib.hid (icells_set2 q cap 83 K1 Fld.zero32 (by rw [Hx.out, Hz.out])); have B1 := Lib.hid B1; clear K1)
              | (refine wpList_store_mid rfl 25 _ _ rfl g 2 (Fld.zero32.map v8).toArray rfl rfl (by simpa [Hz.out] using TH.out) hszz' (v8_one _) ?_; rw [List.toList_toArray]; have k2 := KK.out; have B2 := Lib.hid (setCells_below G1 (Fld.zero32.map v8) 2 _ B1.out); generalize w1.setCells g 2 (Fld.zero32.map v8) = w2 at *; have d0 : w2.cell? ⟨g, 0, none⟩ = some (.int .i64 x.N) := (k2.cell 0).trans (icells_0 _ _ _); have d1 : w2.cell? ⟨g, 1, none⟩ = some (.slice q x.B.length cap) := (k2.cell 1).trans (icells_1 _ _ _); have K2 := Lib.hid k2; clear k2)
              | (refine BigFrame.wpList_want rfl (fun K hK => wp_load_mid 25 (.tmp 24) rfl _ 2 rfl _ _ K2.out.rangeId Tryz.underlying25 rfl hszz (hK _ _ ?_)))
              | (refine BigFrame.wpList_want rfl (fun K hK => wp_build' 25 #[] rfl _ id_zero (hK _ _ ?_)))
              | (refine wpList_build' rfl 25 #[] rfl _ id_zero ?_)
              | (refine BigFrame.wpList_want rfl (fun K hK => wp_eql_arr 25 (.tmp 25) (.tmp 26) _ rfl 5 32 .u8 Tryz.underlying25 Tryz.underlying5 kslice1 Fld.zero32 Fld.zero32 rfl rfl Hz.out Hz.out (hK _ _ ?_))))
      go_ret
      exact ⟨ret_bool (by rw [HR.out]; simp [HB.out]), B2.out⟩
  · have hN : (x.N == 0) = false := by simpa using hN'
    have HN := Lib.hid hN'
    clear hN'
    go_enter Tryz.func117, Tryz.ntmps117
    go_wp2_with (first
            | (refine wpList_box_new rfl 83 _ rfl _ rfl ?_; intro w1 g K1 B1 G1; have c0 : w1.cell? ⟨g, 0, none⟩ = some (.int .i64 x.N) := (K1.cell 0).trans (icells_0 _ _ _); have c1 : w1.cell? ⟨g, 1, none⟩ = some (.slice q x.B.length cap) := (K1.cell 1).trans (icells_1 _ _ _); have f0 := K1.free 0; have f1 := K1.free 1; have TH := Lib.hid (K1.there 2 32 (by rw [Hl.out]; decide)); have KK := Lib.hid (icells_set2 q cap 83 K1 Fld.zero32 (by rw [Hx.out, Hz.out])); have B1 := Lib.hid B1; clear K1)
            | (refine wpList_store_mid rfl 25 _ _ rfl g 2 (Fld.zero32.map v8).toArray rfl rfl (by simpa [Hz.out] using TH.out) hszz' (v8_one _) ?_; rw [List.toList_toArray]; have k2 := KK.out; have B2 := Lib.hid (setCells_below G1 (Fld.zero32.map v8) 2 _ B1.out); generalize w1.setCells g 2 (Fld.zero32.map v8) = w2 at *; have d0 : w2.cell? ⟨g, 0, none⟩ = some (.int .i64 x.N) := (k2.cell 0).trans (icells_0 _ _ _); have d1 : w2.cell? ⟨g, 1, none⟩ = some (.slice q x.B.length cap) := (k2.cell 1).trans (icells_1 _ _ _); have K2 := Lib.hid k2; clear k2)
            | (refine BigFrame.wpList_want rfl (fun K hK => wp_load_mid 25 (.tmp 24) rfl _ 2 rfl _ _ K2.out.rangeId Tryz.underlying25 rfl hszz (hK _ _ ?_)))
            | (refine BigFrame.wpList_want rfl (fun K hK => wp_build' 25 #[] rfl _ id_zero (hK _ _ ?_)))
            | (refine wpList_build' rfl 25 #[] rfl _ id_zero ?_)
            | (refine BigFrame.wpList_want rfl (fun K hK => wp_eql_arr 25 (.tmp 25) (.tmp 26) _ rfl 5 32 .u8 Tryz.underlying25 Tryz.underlying5 kslice1 Fld.zero32 Fld.zero32 rfl rfl Hz.out Hz.out (hK _ _ ?_))))
    go_ret
    exact ⟨ret_bool (by rw [HR.out]; simp [HN.out]), B2.out⟩
set_option maxRecDepth 100000 in
set_option maxHeartbeats 2000000 in
theorem named_n (c : Int) (x : Itm) (q : Option Addr) (cap : Nat) (w : World) (hx : x.ok) (h98 : c ≠ 98) (h100 : c ≠ 100) :
    Calls Tryz.prog 117 #[.int .i32 c, .agg (icells x q cap).toArray] w fun e w' => e = .returned (.bool (Fld.okFor c x)) ∧ Below w.heap.size w w' := by
  have hszd : (Tryz.prog.info? 25).map (fun i => i.size) = some (x.D.map v8).length := by rw [id_size]; simp [hx.len]
  have hszz : (Tryz.prog.info? 25).map (fun i => i.size) = some (Fld.zero32.map v8).length := by rw [id_size]; simp [Fld.zero32_length]
  have hszz' : (Tryz.prog.info? 25).map (fun i => i.size) = some (Fld.zero32.map v8).toArray.size := by rw [id_size]; simp [Fld.zero32_length]
  have Hx := Lib.hid hx.len
  have Hl := Lib.hid (icells_length hx q cap)
  have Hz := Lib.hid Fld.zero32_length
  clear hx
  have HR := Lib.hid (okFor_n' c x h98 h100)
  have t98 : (c == 98) = false := by simpa using h98
  have t100 : (c == 100) = false := by simpa using h100
  clear h98 h100
  by_cases hB' : x.B = []
  · have hB : ((x.B.length : Int) == 0) = true := by simp [hB']
    have HB := Lib.hid hB'
    clear hB'
    go_enter Tryz.func117, Tryz.ntmps117
    go_wp2_with (first
            | (refine wpList_box_new rfl 83 _ rfl _ rfl ?_; intro w1 g K1 B1 G1; have c0 : w1.cell? ⟨g, 0, none⟩ = some (.int .i64 x.N) := (K1.cell 0).trans (icells_0 _ _ _); have c1 : w1.cell? ⟨g, 1, none⟩ = some (.slice q x.B.length cap) := (K1.cell 1).trans (icells_1 _ _ _); have f0 := K1.free 0; have f1 := K1.free 1; have K2 := Lib.hid (show Blk (w1.setCell ⟨g, 0, none⟩ (.int .i64 0)) g (icells ⟨0, x.B, x.D⟩ q cap) 83 by rw [← icells_set0 x q cap 0]; exact K1.set 0 _); have B1 := Lib.hid B1; clear K1)
            | (refine BigFrame.wpList_want rfl (fun K hK => wp_load_mid 25 (.tmp 24) rfl _ 2 rfl _ _ K2.out.rangeId Tryz.underlying25 rfl hszd (hK _ _ ?_)))
            | (refine BigFrame.wpList_want rfl (fun K hK => wp_build' 25 #[] rfl _ id_zero (hK _ _ ?_)))
            | (refine BigFrame.wpList_want rfl (fun K hK => wp_eql_arr 25 (.tmp 25) (.tmp 26) _ rfl 5 32 .u8 Tryz.underlying25 Tryz.underlying5 kslice1 x.D Fld.zero32 rfl rfl Hx.out Hz.out (hK _ _ ?_))))
    go_ret
    exact ⟨ret_bool (by rw [HR.out, HB.out]; simp), B1.out.setCell G1 _⟩
  · have hB : ((x.B.length : Int) == 0) = false := by simp; exact hB'
    have HB := Lib.hid hB'
    clear hB'
    go_enter Tryz.func117, Tryz.ntmps117
    go_wp2_with (first
            | (refine wpList_box_new rfl 83 _ rfl _ rfl ?_; intro w1 g K1 B1 G1; have c0 : w1.cell? ⟨g, 0, none⟩ = some (.int .i64 x.N) := (K1.cell 0).trans (icells_0 _ _ _); have c1 : w1.cell? ⟨g, 1, none⟩ = some (.slice q x.B.length cap) := (K1.cell 1).trans (icells_1 _ _ _); have f0 := K1.free 0; have f1 := K1.free 1; have K2 := Lib.hid (show Blk (w1.setCell ⟨g, 0, none⟩ (.int .i64 0)) g (icells ⟨0, x.B, x.D⟩ q cap) 83 by rw [← icells_set0 x q cap 0]; exact K1.set 0 _); have B1 := Lib.hid B1; clear K1)
            | (refine BigFrame.wpList_want rfl (fun K hK => wp_load_mid 25 (.tmp 24) rfl _ 2 rfl _ _ K2.out.rangeId Tryz.underlying25 rfl hszd (hK _ _ ?_)))
            | (refine BigFrame.wpList_want rfl (fun K hK => wp_build' 25 #[] rfl _ id_zero (hK _ _ ?_)))
            | (refine BigFrame.wpList_want rfl (fun K hK => wp_eql_arr 25 (.tmp 25) (.tmp 26) _ rfl 5 32 .u8 Tryz.underlying25 Tryz.underlying5 kslice1 x.D Fld.zero32 rfl rfl Hx.out Hz.out (hK _ _ ?_))))
    go_ret
    exact ⟨ret_bool (by rw [HR.out]; simp [HB.out]), B1.out.setCell G1 _⟩
theorem named_any (c : Int) (x : Itm) (q : Option Addr) (cap : Nat) (w : World) (hx : x.ok) :
    Calls Tryz.prog 117 #[.int .i32 c, .agg (icells x q cap).toArray] w fun e w' => e = .returned (.bool (Fld.okFor c x)) ∧ Below w.heap.size w w' := by
  by_cases h98 : c = 98
  · subst h98; exact named_98 x q cap w hx
  · by_cases h100 : c = 100
    · subst h100; exact named_100 x q cap w hx
    · exact named_n c x q cap w hx h98 h100
end
section
set_option linter.unusedSimpArgs false
set_option linter.unusedVariables false
open Go.RowKit Sha
open Fld (Itm)
set_option maxRecDepth 100000 in
set_option maxHeartbeats 1000000 in
theorem bounded_any (c : Int) (x : Itm) (q : Option Addr) (cap : Nat) (w : World) (hx : x.ok) (hc : Fld.isC c) :
    Calls Tryz.prog 118 #[.int .i32 c, .agg (icells x q cap).toArray] w fun e w' => e = .returned (.int .i64 (Fld.bound c x)) ∧ Below w.heap.size w w' := by
  have n0 := hx.N0
  have n1 := hx.N1
  obtain ⟨m, hm⟩ : ∃ m, m = x.B.length := ⟨_, rfl⟩
  have HM := Lib.hid hm
  obtain ⟨n, hn⟩ : ∃ n, n = x.N := ⟨_, rfl⟩
  have HN := Lib.hid hn
  rw [← hn] at n0 n1
  have HB := Lib.hid (show Fld.bound c x = if n < 0 ∨ 4611686018427387903 < n then 5 else if 4000 < m ∨ (c = 40 ∧ 4000 < n) then 3 else 0 by rw [hn, hm]; rfl)
  clear hx hm hn
  rcases hc with rfl | rfl | rfl | rfl
  all_goals by_cases h1 : n < 0
  all_goals by_cases h3 : 4611686018427387903 < n
  all_goals by_cases h4 : 4000 < m
  all_goals by_cases h6 : 4000 < n
  all_goals try omega
  all_goals
    go_enter Tryz.func118, Tryz.ntmps118
    go_wp2_with (refine wpList_box_new rfl 83 _ rfl _ rfl ?_; intro w1 g K1 B1 G1; have c0 : w1.cell? ⟨g, 0, none⟩ = some (.int .i64 n) := (by rw [HN.out]; exact (K1.cell 0).trans (icells_0 _ _ _)); have c1 : w1.cell? ⟨g, 1, none⟩ = some (.slice q m cap) := (by rw [HM.out]; exact (K1.cell 1).trans (icells_1 _ _ _)); have B1 := Lib.hid B1; clear K1)
    go_ret
    exact ⟨ret_int (by rw [HB.out]; first | (simp [h1, h3, h4, h6]; done) | (simp [h1, h3, h4, h6]; rw [if_neg (by omega), if_neg (by omega)])), B1.out⟩
end
end Go.Proofs.YtokpabkcaofahaaGreat
