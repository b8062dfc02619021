/-
  The writer's memory; how a number is written.
  What goes through a shape's letters asks of whatever is done with each: a doer. Letters one by one.
  The wire package's shapes: of a letter, of a kind.
-/
import Derived.Test.YteepaoklibflpaaR9
import Derived.Test.YteepaoklibflpaaR1
import Derived.Test.YteepaoklibflpaaR11
import Derived.WalkSpells
import Derived.IntWalk
import Derived.WalkLawsBesides
import Derived.Test.YteepaoklibflpaaR25
import Derived.Deep.LoopGhost
namespace Go.Proofs.Yteepaoklibflpaa
section
set_option linter.unusedSimpArgs false
set_option linter.unusedVariables false
open Go.RowKit Sha
open Fld (Itm)
section
variable {w w' : World} {B g ga n size : Nat} {e t : TypeId} {v u : Value} {xs cs : List Value}
theorem own_kind (h : w.ownsRow B e size v n xs) : ∀ k, v.ownBlock = some k → ∃ c fz, w.heap[k]? = some (.cells c e fz) := by
  intro k hk
  rcases h.2 with ⟨hv, _⟩ | ⟨g, cap, cur, hv, _, hh, _⟩
  · rw [hv] at hk; cases hk
  · rw [hv] at hk; cases hk; exact ⟨_, _, hh⟩
theorem own_ne (h : w.ownsRow B e size v n xs) (hb : Blk w ga cs t) (hne : e ≠ t) : v.ownBlock ≠ some ga := by
  intro hk
  obtain ⟨c, fz, hc⟩ := own_kind h ga hk
  unfold Blk at hb
  rw [hb] at hc
  cases hc
  exact hne rfl
theorem own_base (h : w.ownsRow B e size v n xs) : ∀ k, v.ownBlock = some k → B ≤ k := by
  intro k hk
  rcases h.2 with ⟨hv, _⟩ | ⟨g, cap, cur, hv, hg, hh, _⟩
  · rw [hv] at hk; cases hk
  · rw [hv] at hk; cases hk; exact hg
/-- A row of the call's own under whatever leaves blocks of cells as they are. -/
theorem own_carry (h : w.ownsRow B e size v n xs) (hc : ∀ k c fz, v.ownBlock = some k → w.heap[k]? = some (.cells c e fz) → w'.heap[k]? = some (.cells c e fz)) : w'.ownsRow B e size v n xs := by
  refine ⟨h.1, ?_⟩
  rcases h.2 with h | ⟨g, cap, cur, hv, hg, hh, h4⟩
  · exact Or.inl h
  · exact Or.inr ⟨g, cap, cur, hv, hg, hc g _ _ (by rw [hv]; rfl) hh, h4⟩
theorem own_set (h : w.ownsRow B e size v n xs) (hb : Blk w ga cs t) (hne : e ≠ t) (i : Nat) (u : Value) : (w.setCell ⟨ga, i, none⟩ u).ownsRow B e size v n xs :=
  own_carry h fun k c fz hk hh => by
    rw [Below.heap_setCell _ _ _ _ (fun e1 => own_ne h hb hne (by rw [hk]; exact congrArg some e1))]; exact hh
theorem own8_set (h : Own8 w B e v n xs) (hb : Blk w ga cs t) (hne : e ≠ t) (i : Nat) (u : Value) : Own8 (w.setCell ⟨ga, i, none⟩ u) B e v n xs :=
  ⟨own_set h.row hb hne i u, h.ints.carry fun g hg => Below.heap_setCell _ _ _ _ (fun e1 => own_ne h.row hb hne (by rw [hg]; exact congrArg some e1))⟩
theorem own8_carry (h : Own8 w B e v n xs) (hc : ∀ k c fz, v.ownBlock = some k → w.heap[k]? = some (.cells c e fz) → w'.heap[k]? = some (.cells c e fz)) : Own8 w' B e v n xs :=
  ⟨own_carry h.row hc, h.ints.carry fun g hg => by obtain ⟨c, fz, hh⟩ := own_kind h.row g hg; rw [hc g c fz hg hh, hh]⟩
theorem Own8.drew (h : Own8 w B e v n xs) : Own8 w.drew B e v n xs := ⟨h.row.drew, h.ints.carry fun _ _ => rfl⟩
theorem Blk.grow (hb : Blk w ga cs t) {row : Option Nat} (hg : w.grownBy w' row) (hne : row ≠ some ga) : Blk w' ga cs t := by
  unfold Blk at *
  rw [hg.block ga (Blk.lt hb) (fun e => hne e.symm)]; exact hb
theorem others_set {a : World} (h : Lib.OthersKept e (some ga) a w) (i : Nat) (u : Value) : Lib.OthersKept e (some ga) a (w.setCell ⟨ga, i, none⟩ u) := h.setCell _ rfl u
end
/-- Blocks of cells are as they were. -/
def CellsKept (w w' : World) : Prop := w.heap.size ≤ w'.heap.size ∧ ∀ (k : Nat) (c : Array Value) (e : TypeId) (fz : Nat × Nat), w.heap[k]? = some (Obj.cells c e fz) → w'.heap[k]? = some (Obj.cells c e fz)
/-- A writer at ga: its items L, its bytes v, which are 'out'. -/
structure WMem (B ga : Nat) (L v : Value) (out : List Int) (w : World) : Prop where
  blk : Blk w ga [L, v] 110
  own : Own8 w B 5 v out.length (out.map v8)
  base : B ≤ ga
  size : B ≤ w.heap.size
theorem WMem.carry {B ga : Nat} {L v : Value} {out : List Int} {w w' : World} (h : WMem B ga L v out w) (hc : CellsKept w w') : WMem B ga L v out w' :=
  ⟨hc.2 _ _ _ _ h.blk, own8_carry h.own fun k c fz _ hh => hc.2 _ _ _ _ hh, h.base, Nat.le_trans h.size hc.1⟩
theorem w_ne : (5 : TypeId) ≠ 110 := by decide
theorem WMem.grow {B ga : Nat} {L v : Value} {out : List Int} {w w' : World} {o : Obj} (h : WMem B ga L v out w) (hg : (w.alloc o).grownBy w' v.ownBlock) : Blk w' ga [L, v] 110 :=
  (h.blk.old o).grow hg (own_ne (h.own.alloc o).row (h.blk.old o) w_ne)
theorem WMem.grow0 {B ga : Nat} {L v : Value} {out : List Int} {w w' : World} (h : WMem B ga L v out w) (hg : w.grownBy w' v.ownBlock) : Blk w' ga [L, v] 110 :=
  h.blk.grow hg (own_ne h.own.row h.blk w_ne)
theorem WMem.others {B ga : Nat} {L v : Value} {out : List Int} {a w w' : World} {o : Obj} (h : WMem B ga L v out w) (hO : Lib.OthersKept 5 (some ga) a w) (hg : (w.alloc o).grownBy w' v.ownBlock) : Lib.OthersKept 5 (some ga) a w' :=
  (hO.alloc o).grown hg (own_kind (h.own.alloc o).row)
theorem WMem.others0 {B ga : Nat} {L v : Value} {out : List Int} {a w w' : World} (h : WMem B ga L v out w) (hO : Lib.OthersKept 5 (some ga) a w) (hg : w.grownBy w' v.ownBlock) : Lib.OthersKept 5 (some ga) a w' :=
  hO.grown hg (own_kind h.own.row)
def WDone (B ga : Nat) (L : Value) (out : List Int) (ret : Value) (w : World) (e : Ending) (w' : World) : Prop :=
  e = .returned ret ∧ ∃ v, WMem B ga L v out w' ∧ Below B w w' ∧ Lib.OthersKept 5 (some ga) w w'
theorem num_next {cur out : List Int} {k n : Nat} (h : cur ++ Fld.num k = out ++ Fld.num n) (hk : 128 ≤ k) : (cur ++ [((k % 128 + 128 : Nat) : Int)]) ++ Fld.num (k / 128) = out ++ Fld.num n := by
  rw [← h, Fld.num_ge hk]; simp
theorem num_last {cur out : List Int} {k n : Nat} (h : cur ++ Fld.num k = out ++ Fld.num n) (hk : k < 128) : cur ++ [(k : Int)] = out ++ Fld.num n := by
  rw [← h, Fld.num_lt hk]
set_option maxRecDepth 100000 in
set_option maxHeartbeats 2000000 in
theorem wnum_any (B ga : Nat) (L v : Value) (out : List Int) (n : Nat) (w : World) (h : WMem B ga L v out w) (hn : n ≤ 9223372036854775807) (hm : out.length ≤ 1000000000) :
    Calls Try.prog 78 #[.pointer (some ⟨ga, 0, none⟩), .int .i64 n] w (WDone B ga L (out ++ Fld.num n) (.tuple #[]) w) := by
  have HW := Lib.hid h
  clear h
  go_enter Try.func78, Try.ntmps78
  go_wp2_with fail
  go_loopw [1] (fun i wr => ∃ (k : Nat) (cur : List Int) (v : Value), i = .int .i64 k ∧ k ≤ n ∧ Hid (cur ++ Fld.num k = out ++ Fld.num n) ∧ Hid (WMem B ga L v cur wr) ∧ Hid (Below B w wr) ∧ Hid (Lib.OthersKept 5 (some ga) w wr)) (fun i _ => (intOf i).toNat)
  case atStart => exact ⟨n, out, v, rfl, Nat.le_refl _, rfl, HW, Below.refl _ _, Lib.OthersKept.refl _ _ _⟩
  case round =>
    obtain ⟨k, cur, v, rfl, hk, HE, HM, HB, HO⟩ := hrel
    have hcl : cur.length ≤ 1000000009 := by
      have h1 := congrArg List.length HE.out
      have h2 := Fld.num_len n (by rw [show (128 : Nat) ^ 9 = 9223372036854775808 by decide]; omega)
      simp at h1; omega
    have c1 : wr.cell? ⟨ga, 1, none⟩ = some v := HM.out.blk.cell 1
    have f1 : wr.frozen? ⟨ga, 1, none⟩ = false := HM.out.blk.free 1
    have s1 := HM.out.size
    by_cases hge : 128 ≤ k
    · have HN := Lib.hid (num_next HE.out hge)
      go_wp2_with (at_builtin; refine wpList_app8 rfl (.tmp 10) (.tmp 15) 28 rfl B 5 Try.underlying28 kbyte_info v _ _ rfl (HM.out.own.alloc _) _ 1 1 [v8 ((k : Int) % 128 + 128)] rfl ?_ rfl (fun h => by cases h) (by omega) (by intro u hu; rw [List.mem_singleton.1 hu]; exact ⟨_, rfl⟩) (by omega) (by unfold maxLen; omega) (by simp; omega) ?_; exact at_one _ _ _; intro v2 w2 hown2 hg2 hb2 hs2; obtain ⟨g2, c2, rfl, hg0, hg1, hg3, hg4⟩ := own_form hown2.row (by omega); have K2 := HM.out.grow hg2; have c2' : w2.cell? ⟨ga, 1, none⟩ = some v := K2.cell 1; have f2' : w2.frozen? ⟨ga, 1, none⟩ = false := K2.free 1; have HK2 := Lib.hid K2; have HO2 := Lib.hid hown2; have HG2 := Lib.hid hg2; have HB2 := Lib.hid hb2; clear K2 hown2 hg2 hb2)
      have HM2 : WMem B ga L (.slice (some ⟨g2, 0, none⟩) (cur.length + 1) c2) (cur ++ [(k : Int) % 128 + 128]) (w2.setCell ⟨ga, 1, none⟩ (.slice (some ⟨g2, 0, none⟩) (cur.length + 1) c2)) :=
        ⟨HK2.out.set 1 _, by simpa using own8_set HO2.out HK2.out w_ne 1 _, HM.out.base, by simpa using hs2⟩
      have HB3 : Below B w (w2.setCell ⟨ga, 1, none⟩ (.slice (some ⟨g2, 0, none⟩) (cur.length + 1) c2)) := ((HB.out.alloc HM.out.size _).trans HB2.out).setCell HM.out.base _
      have HO3 : Lib.OthersKept 5 (some ga) w (w2.setCell ⟨ga, 1, none⟩ (.slice (some ⟨g2, 0, none⟩) (cur.length + 1) c2)) :=
        others_set (HM.out.others HO.out HG2.out) 1 _
      go_roundw
      case rel => exact ⟨k / 128, _, _, by go_num, by omega, Lib.hid (by have := HN.out; simpa using this), HM2, HB3, HO3⟩
      case measure => simp [intOf]; omega
    · have HN := Lib.hid (num_last HE.out (by omega))
      go_wp2_with (at_builtin; refine wpList_app8 rfl (.tmp 25) (.tmp 28) 28 rfl B 5 Try.underlying28 kbyte_info v _ _ rfl (HM.out.own.alloc _) _ 1 1 [v8 ((k : Int))] rfl ?_ rfl (fun h => by cases h) (by omega) (by intro u hu; rw [List.mem_singleton.1 hu]; exact ⟨_, rfl⟩) (by omega) (by unfold maxLen; omega) (by simp; omega) ?_; exact at_one _ _ _; intro v2 w2 hown2 hg2 hb2 hs2; obtain ⟨g2, c2, rfl, hg0, hg1, hg3, hg4⟩ := own_form hown2.row (by omega); have K2 := HM.out.grow hg2; have c2' : w2.cell? ⟨ga, 1, none⟩ = some v := K2.cell 1; have f2' : w2.frozen? ⟨ga, 1, none⟩ = false := K2.free 1; have HK2 := Lib.hid K2; have HO2 := Lib.hid hown2; have HG2 := Lib.hid hg2; have HB2 := Lib.hid hb2; clear K2 hown2 hg2 hb2)
      have HM2 : WMem B ga L (.slice (some ⟨g2, 0, none⟩) (cur.length + 1) c2) (cur ++ [(k : Int)]) (w2.setCell ⟨ga, 1, none⟩ (.slice (some ⟨g2, 0, none⟩) (cur.length + 1) c2)) :=
        ⟨HK2.out.set 1 _, by simpa using own8_set HO2.out HK2.out w_ne 1 _, HM.out.base, by simpa using hs2⟩
      have HB3 : Below B w (w2.setCell ⟨ga, 1, none⟩ (.slice (some ⟨g2, 0, none⟩) (cur.length + 1) c2)) := ((HB.out.alloc HM.out.size _).trans HB2.out).setCell HM.out.base _
      have HO3 : Lib.OthersKept 5 (some ga) w (w2.setCell ⟨ga, 1, none⟩ (.slice (some ⟨g2, 0, none⟩) (cur.length + 1) c2)) :=
        others_set (HM.out.others HO.out HG2.out) 1 _
      go_end0
      exact ⟨rfl, _, by rw [← HN.out]; exact HM2, HB3, HO3⟩
end
section
set_option linter.unusedSimpArgs false
set_option linter.unusedVariables false
open Go.RowKit Sha
/-- Iterators over texts are as they were. -/
def ItersKept (w w' : World) : Prop := ∀ (k : Nat) (s : ByteArray) (p : Nat), w.heap[k]? = some (Obj.stringIter s p) → w'.heap[k]? = some (Obj.stringIter s p)
theorem ItersKept.refl (w : World) : ItersKept w w := fun _ _ _ h => h
theorem ItersKept.trans {a b c : World} (h : ItersKept a b) (k : ItersKept b c) : ItersKept a c := fun i s p hi => k i s p (h i s p hi)
theorem ItersKept.alloc {a w : World} (h : ItersKept a w) (o : Obj) : ItersKept a (w.alloc o) := fun i s p hi => by
  have h1 := h i s p hi
  have hlt : i < w.heap.size := (Array.getElem?_eq_some_iff.1 h1).1
  rw [Below.heap_alloc _ _ _ hlt]; exact h1
/-- .. and none of them is at gi. -/
def ItersBut (gi : Nat) (w w' : World) : Prop := ∀ (k : Nat) (s : ByteArray) (p : Nat), w.heap[k]? = some (Obj.stringIter s p) → k ≠ gi ∧ w'.heap[k]? = some (Obj.stringIter s p)
theorem ItersBut.new {a w : World} (h : ItersKept a w) (o : Obj) : ItersBut w.heap.size a (w.alloc o) := fun i s p hi => by
  have h1 := h i s p hi
  have hlt : i < w.heap.size := (Array.getElem?_eq_some_iff.1 h1).1
  exact ⟨by omega, by rw [Below.heap_alloc _ _ _ hlt]; exact h1⟩
theorem ItersBut.kept {gi : Nat} {a w : World} (h : ItersBut gi a w) : ItersKept a w := fun i s p hi => (h i s p hi).2
theorem ItersBut.move {gi : Nat} {a w : World} (h : ItersBut gi a w) (s : ByteArray) (p : Nat) : ItersBut gi a (w.iterAt gi s p) := fun i s' p' hi => by
  obtain ⟨h1, h2⟩ := h i s' p' hi
  exact ⟨h1, by rw [Lib.iterAt_other _ _ _ _ _ h1]; exact h2⟩
theorem ItersBut.on {gi : Nat} {a w w' : World} (h : ItersBut gi a w) (k : ItersKept w w') : ItersBut gi a w' := fun i s p hi => by
  obtain ⟨h1, h2⟩ := h i s p hi
  exact ⟨h1, k i s p h2⟩
def DDone {σ : Type} (f : Int → σ → σ × Int × Int) (R : σ → World → Prop) (c : Int) (st : σ) (w : World) (e : Ending) (w' : World) : Prop :=
  e = .returned (.tuple #[.int .i64 (f c st).2.1, .int .i64 (f c st).2.2]) ∧ R (f c st).1 w' ∧ ItersKept w w'
structure Doer {σ : Type} (P : Program) (F ga B : Nat) (f : Int → σ → σ × Int × Int) (R : σ → World → Prop) : Prop where
  step : ∀ c st w, Fld.isC c → R st w → Calls P F #[.pointer (some ⟨ga, 0, none⟩), .int .i32 c] w (DDone f R c st w)
  keepA : ∀ st w o, R st w → R st (World.alloc w o)
  keepI : ∀ st (w : World) gi s p p', R st w → B ≤ gi → w.heap[gi]? = some (Obj.stringIter s p) → R st (w.iterAt gi s p')
  base : ∀ st (w : World), R st w → B ≤ w.heap.size
  lim : ∀ c st w, R st w → (f c st).2.1 ≤ 9223372036854775807 ∧ -9223372036854775808 ≤ (f c st).2.1
theorem cells_iterAt {w : World} {k : Nat} {s : ByteArray} {p : Nat} (hk : w.heap[k]? = some (.stringIter s p)) (p' : Nat) : CellsKept w (w.iterAt k s p') :=
  ⟨by rw [Lib.iterAt_size]; exact Nat.le_refl _, fun i c e fz hi => by
    rw [Lib.iterAt_other _ _ _ _ _ (fun h => by rw [h, hk] at hi; cases hi)]; exact hi⟩
theorem cells_alloc (w : World) (o : Obj) : CellsKept w (w.alloc o) :=
  ⟨by simp, fun i c e fz hi => by
    have hlt : i < w.heap.size := (Array.getElem?_eq_some_iff.1 hi).1
    rw [Below.heap_alloc _ _ _ hlt]; exact hi⟩
theorem iters_of {ety : TypeId} {ga : Nat} {w w' : World} (h : Lib.OthersKept ety (some ga) w w') (hb : ∃ cs t, Blk w ga cs t) : ItersKept w w' := fun k s p hk =>
  h k _ hk (fun e => by
    obtain ⟨cs, t, hb⟩ := hb
    unfold Blk at hb
    rw [← Option.some.inj e, hk] at hb; cases hb) (fun c fz he => by cases he)
/-- The next letter, where all are letters or brackets. -/
theorem next_isL (P : Program) (s : ByteArray) (k : Nat) (h : k < s.size) (hl : ∀ c ∈ nums s, c < 128) : ∃ c, NextL P s k (k + 1) c ∧ (nums s).drop k = c :: (nums s).drop (k + 1) := by
  obtain ⟨c, k', hn⟩ := next_of P s k h
  rcases hn.is with ⟨h1, rfl, h2⟩ | ⟨h1, d, h2, h3⟩
  · exact ⟨c, hn, h2⟩
  · have : d ∈ nums s := List.mem_of_mem_drop (by rw [h3]; exact List.mem_cons_self ..)
    have := hl d this
    omega
theorem isC_lt {c : Int} (h : Fld.isC c) : c < 128 := by unfold Fld.isC at h; omega
section
variable {σ : Type} {f : Int → σ → σ × Int × Int} {g : List Int} {st : σ}
theorem rep_zero : Fld.rep f g 0 st = (st, 0) := rfl
theorem rep_ok {n : Nat} {st' : σ} (h : Fld.once f g st = (st', 0)) : Fld.rep f g (n + 1) st = Fld.rep f g n st' := by
  rw [Fld.rep, h, if_pos rfl]
theorem rep_err {n : Nat} {st' : σ} {e : Int} (h : Fld.once f g st = (st', e)) (he : e ≠ 0) : Fld.rep f g (n + 1) st = (st', e) := by
  rw [Fld.rep, h, if_neg he]
theorem once_ok {c : Int} {r : List Int} (h : (f c st).2.2 = 0) : Fld.once f (c :: r) st = Fld.once f r (f c st).1 := by
  rw [Fld.once, if_pos h]
theorem once_err {c : Int} {r : List Int} (h : (f c st).2.2 ≠ 0) : Fld.once f (c :: r) st = ((f c st).1, (f c st).2.2) := by
  rw [Fld.once, if_neg h]
end
def RDone {σ : Type} (R : σ → World → Prop) (r : σ × Int) (w : World) (e : Ending) (w' : World) : Prop :=
  e = .returned (.int .i64 r.2) ∧ R r.1 w' ∧ ItersKept w w'
theorem chk_len {s : List Int} (h : Fld.chk s = true) : s.length ≤ 40 ∧ Fld.chkL s false false = true := by unfold Fld.chk at h; simpa using h
theorem nums_extract (s : ByteArray) (i j : Nat) : nums (s.extract i j) = ((nums s).take j).drop i := by
  unfold nums
  rw [← List.map_take, ← List.map_drop]
  congr 1
  rw [ByteArray.data_extract, Array.toList_extract, List.extract_eq_take_drop, List.drop_take]
theorem chkL_lt : ∀ (l : List Int) (o k : Bool), Fld.chkL l o k = true → ∀ c ∈ l, c < 128
  | [], _, _, _ => by simp
  | d :: r, o, k, h => by
    intro c hc
    unfold Fld.chkL at h
    rcases List.mem_cons.1 hc with rfl | hc
    · split at h
      · omega
      · split at h
        · omega
        · split at h
          · omega
          · simp at h
    · split at h
      · exact chkL_lt r _ _ h c hc
      · split at h
        · exact chkL_lt r _ _ h c hc
        · split at h
          · exact chkL_lt r _ _ h c hc
          · simp at h
theorem chkL_none {c : Int} {r : List Int} {k : Bool} (h : Fld.chkL (c :: r) false k = true) : (Fld.isC c ∧ c ≠ 40 ∧ Fld.chkL r false true = true) ∨ (c = 40 ∧ Fld.chkL r true false = true) := by
  unfold Fld.chkL at h
  split at h
  · rename_i h1
    exact Or.inl ⟨by unfold Fld.isC; omega, by omega, h⟩
  · split at h
    · rename_i h1 h2
      exact Or.inr ⟨h2.1, h⟩
    · simp at h
theorem chkL_some {c : Int} {r : List Int} {k : Bool} (h : Fld.chkL (c :: r) true k = true) : (Fld.isC c ∧ c ≠ 41 ∧ c ≠ 40 ∧ Fld.chkL r true true = true) ∨ (c = 41 ∧ Fld.chkL r false k = true) := by
  unfold Fld.chkL at h
  split at h
  · rename_i h1
    exact Or.inl ⟨by unfold Fld.isC; omega, by omega, by omega, h⟩
  · split at h
    · rename_i h1 h2
      simp at h2
    · split at h
      · rename_i h1 h2 h3
        exact Or.inr ⟨h3.1, h⟩
      · simp at h
section
variable {σ : Type} {f : Int → σ → σ × Int × Int} {st : σ} {c t : Int} {r cs : List Int}
theorem walk_ok (h : (f c st).2.2 = 0) : Fld.walkL f none t (c :: r) st = Fld.walkL f (if c = 40 then some [] else none) (f c st).2.1 r (f c st).1 := by rw [Fld.walkL, if_pos h]
theorem walk_err (h : (f c st).2.2 ≠ 0) : Fld.walkL f none t (c :: r) st = ((f c st).1, (f c st).2.2) := by rw [Fld.walkL, if_neg h]
theorem walk_in (h : c ≠ 41) : Fld.walkL f (some cs) t (c :: r) st = Fld.walkL f (some (cs ++ [c])) t r st := by rw [Fld.walkL, if_neg h]
theorem walk_shut {st' : σ} (h : Fld.rep f cs t.toNat st = (st', 0)) : Fld.walkL f (some cs) t (41 :: r) st = Fld.walkL f none t r st' := by rw [Fld.walkL, if_pos rfl, h, if_pos rfl]
theorem walk_bad {st' : σ} {e : Int} (h : Fld.rep f cs t.toNat st = (st', e)) (he : e ≠ 0) : Fld.walkL f (some cs) t (41 :: r) st = (st', e) := by rw [Fld.walkL, if_pos rfl, h, if_neg he]
theorem walk_end {g : Option (List Int)} : Fld.walkL f g t [] st = (st, 0) := by cases g <;> rfl
/-- Where one stands in a shape: behind k letters; a group's letters since bg. -/
structure WRel (f : Int → σ → σ × Int × Int) (l : List Int) (st : σ) (k bg : Nat) (t : Int) (gO : Option (List Int)) (kk : Bool) (sk : σ) : Prop where
  grp : (gO = none ∧ bg = 0) ∨ (∃ cs, gO = some cs ∧ 0 < bg ∧ bg ≤ k ∧ cs = (l.take k).drop bg)
  ok : ∀ cs, gO = some cs → ∀ c ∈ cs, Fld.isC c
  chk : Fld.chkL (l.drop k) gO.isSome kk = true
  walk : Fld.walkL f none 0 l st = Fld.walkL f gO t (l.drop k) sk
theorem WRel.open_ {l : List Int} {k bg : Nat} {t : Int} {kk : Bool} {sk st : σ} (h : WRel f l st k bg t none kk sk) (hd : l.drop k = c :: l.drop (k + 1)) (hc : c = 40) (h0 : (f c sk).2.2 = 0) :
    WRel f l st (k + 1) (k + 1) (f c sk).2.1 (some []) false (f c sk).1 := by
  have hk := h.chk
  rw [hd] at hk
  rcases chkL_none hk with ⟨_, h2, _⟩ | ⟨_, h2⟩
  · exact absurd hc h2
  · refine ⟨Or.inr ⟨[], rfl, by omega, Nat.le_refl _, ?_⟩, by simp, h2, ?_⟩
    · rw [List.drop_eq_nil_of_le (List.length_take_le _ _)]
    · rw [h.walk, hd, walk_ok h0, if_pos hc]
theorem WRel.one {l : List Int} {k bg : Nat} {t : Int} {kk : Bool} {sk st : σ} (h : WRel f l st k bg t none kk sk) (hd : l.drop k = c :: l.drop (k + 1)) (hc : c ≠ 40) (h0 : (f c sk).2.2 = 0) :
    WRel f l st (k + 1) 0 (f c sk).2.1 none true (f c sk).1 := by
  have hk := h.chk
  rw [hd] at hk
  rcases chkL_none hk with ⟨_, _, h2⟩ | ⟨h2, _⟩
  · exact ⟨Or.inl ⟨rfl, rfl⟩, by simp, h2, by rw [h.walk, hd, walk_ok h0, if_neg hc]⟩
  · exact absurd h2 hc
theorem WRel.in_ {l : List Int} {k bg : Nat} {t : Int} {kk : Bool} {sk st : σ} {cs : List Int} (h : WRel f l st k bg t (some cs) kk sk) (hd : l.drop k = c :: l.drop (k + 1)) (hc : c ≠ 41) :
    WRel f l st (k + 1) bg t (some (cs ++ [c])) true sk := by
  have hk := h.chk
  rw [hd] at hk
  rcases chkL_some hk with ⟨h1, _, _, h2⟩ | ⟨h2, _⟩
  · rcases h.grp with ⟨hn, _⟩ | ⟨cs', hn, h3, h4, h5⟩
    · cases hn
    · cases hn
      refine ⟨Or.inr ⟨_, rfl, h3, by omega, ?_⟩, ?_, h2, by rw [h.walk, hd, walk_in hc]⟩
      · have hlt : k < l.length := by
          rcases Nat.lt_or_ge k l.length with h | h
          · exact h
          · rw [List.drop_eq_nil_of_le h] at hd; cases hd
        have hg : l[k]? = some c := by
          have := congrArg (·[0]?) hd
          simpa using this
        rw [List.take_add_one, hg, h5, List.drop_append_of_le_length (by rw [List.length_take]; omega)]
        rfl
      · intro cs' hn c' hc'
        cases hn
        rcases List.mem_append.1 hc' with h6 | h6
        · exact h.ok cs rfl c' h6
        · simp at h6; subst h6; exact h1
  · exact absurd h2 hc
theorem WRel.shut {l : List Int} {k bg : Nat} {t : Int} {kk : Bool} {sk st sk' : σ} {cs : List Int} (h : WRel f l st k bg t (some cs) kk sk) (hd : l.drop k = 41 :: l.drop (k + 1)) (h0 : Fld.rep f cs t.toNat sk = (sk', 0)) :
    WRel f l st (k + 1) 0 t none kk sk' := by
  have hk := h.chk
  rw [hd] at hk
  rcases chkL_some hk with ⟨_, h2, _⟩ | ⟨_, h2⟩
  · exact absurd rfl h2
  · exact ⟨Or.inl ⟨rfl, rfl⟩, by simp, h2, by rw [h.walk, hd, walk_shut h0]⟩
end
end
section
set_option linter.unusedSimpArgs false
set_option linter.unusedVariables false
open Go.RowKit Sha Nte
@[irreducible] def catW (x y : Operand) (u v : Value) : Sem Next := do pure (.value (← (do eqGuard .add 9 x y u v; binOp .add 9 u v)))
theorem execOp_catW (ρ : Operand → Value) (dst : Option Tmp) (x y : Operand) (r : TypeId) (ty : TypeId) (pos : String) (after : Array Edge) (guard : Option (Nat × Bool)) :
    execOp ρ { dst := dst, op := .binOp .add 9 x y r, type := ty, pos := pos, after := after, guard := guard } = catW x y (ρ x) (ρ y) := by unfold catW; rfl
theorem run_catW (x y : Operand) (s t : ByteArray) (hs : s.size + t.size ≤ 1000000) (w : World) : (catW x y (.string s) (.string t)).run Try.prog w = .ok (.value (.string (s ++ t))) w := by
  have h : ¬ (((s.size + t.size : Nat) : Int) > IntKind.i64.max) := by have h1 : IntKind.i64.max = 9223372036854775807 := rfl; rw [h1]; omega
  unfold catW
  simp only [binOp]
  simp only [eqGuard, Op.stringOp, run_underlying Try.underlying9, h]
  simp
theorem nums_catW (s t : ByteArray) : nums (s ++ t) = nums s ++ nums t := by
  unfold nums
  simp
theorem execOp_boxForm15 (ρ : Operand → Value) (dst : Option Tmp) (x : Operand) (ty : TypeId) (pos : String) (after : Array Edge) (guard : Option (Nat × Bool)) :
    execOp ρ { dst := dst, op := .box 51 x, type := ty, pos := pos, after := after, guard := guard } = boxOp 51 (ρ x) := by unfold boxOp; rfl
def shB (c : Int) : ByteArray :=
  if c = 99 then ⟨#[110, 110, 110]⟩ else if c = 98 ∨ c = 111 then ⟨#[110, 110]⟩ else if c = 100 then ⟨#[100]⟩ else if c = 120 then ⟨#[98]⟩ else if c = 105 then ⟨#[40, 100, 41]⟩ else if c = 119 then ⟨#[40, 110, 110, 110, 41]⟩ else ⟨#[110]⟩
theorem shB_nums (c : Int) : nums (shB c) = shp c := by unfold shB shp; (repeat' split) <;> decide +kernel
theorem shB_size (c : Int) : (shB c).size ≤ 5 := by unfold shB; (repeat' split) <;> decide
set_option maxRecDepth 100000 in
set_option maxHeartbeats 1000000 in
theorem wshapeOf_any (c : Int) (hc : isT c) (w : World) : Calls Try.prog 36 #[.int .i32 c] w fun e w' => e = .returned (.string (shB c)) ∧ w = w' := by
  rcases hc with rfl | rfl | rfl | rfl | rfl | rfl | rfl | rfl | rfl | rfl
  all_goals
    go_enter Try.func36, Try.ntmps36
    go_wp2_with fail
    go_ret
    exact ⟨rfl, rfl⟩
/-- A kind's shape, as the program makes it. -/
def shF (l : List Int) : ByteArray := l.foldl (fun s c => s ++ shB c) ⟨#[110, 110, 110]⟩
theorem shF_next (l : List Int) (c : Int) : shF (l ++ [c]) = shF l ++ shB c := by unfold shF; rw [List.foldl_append]; rfl
theorem shF_nums (l : List Int) : nums (shF l) = 110 :: 110 :: 110 :: l.flatMap shp := by
  have h : ∀ (l : List Int) (s : ByteArray), nums (l.foldl (fun s c => s ++ shB c) s) = nums s ++ l.flatMap shp := by
    intro l
    induction l with
    | nil => intro s; simp
    | cons c l ih => intro s; rw [List.foldl_cons, ih, nums_catW, shB_nums, List.flatMap_cons, List.append_assoc]
  unfold shF
  rw [h, show nums ⟨#[110, 110, 110]⟩ = [110, 110, 110] by decide +kernel]; rfl
theorem shF_size (l : List Int) : (shF l).size ≤ 3 + 5 * l.length := by
  have h : ∀ (l : List Int) (s : ByteArray), (l.foldl (fun s c => s ++ shB c) s).size ≤ s.size + 5 * l.length := by
    intro l
    induction l with
    | nil => intro s; simp
    | cons c l ih => intro s; have h1 := ih (s ++ shB c); have h2 := shB_size c; rw [ByteArray.size_append] at h1; rw [List.foldl_cons, List.length_cons]; omega
  exact h l _
def shS (k : Int) : ByteArray := shF (letters k)
theorem shS_nums (k : Int) : nums (shS k) = Nte.shape k := shF_nums _
theorem letters_len (k : Int) : (letters k).length ≤ 6 := by rw [← kHas_nums, nums_length]; exact kHas_size k
theorem shS_size (k : Int) : (shS k).size ≤ 33 := by have := shF_size (letters k); have := letters_len k; unfold shS; omega
/-- A letter's place: what is left of the letters. -/
theorem wire_next (t : ByteArray) (l : List Int) (hl : nums t = l) (j : Nat) (hj : j < t.size) (h128 : ∀ c ∈ l, c < 128) : ∃ c, NextL Try.prog t j (j + 1) c ∧ l[j]? = some c := by
  obtain ⟨c, hn, hd⟩ := next_isL Try.prog t j hj (by rw [hl]; exact h128)
  refine ⟨c, hn, ?_⟩
  rw [hl] at hd
  rw [← List.head?_drop, hd]; rfl
theorem letters_128 (k : Int) : ∀ c ∈ letters k, c < 128 := fun c hc => by have := letters_isT k c hc; unfold isT at this; omega
attribute [local go_sem ↓] execOp_catW execOp_boxForm15
set_option maxRecDepth 100000 in
set_option maxHeartbeats 2000000 in
theorem wshape_any (k : Int) (w : World) : Calls Try.prog 20 #[wform k] w fun e w' => e = .returned (.string (shS k)) ∧ Below w.heap.size w w' := by
  have hsz := kHas_size k
  have hnm := kHas_nums k
  have HIS := Lib.hid (letters_isT k)
  have H128 := Lib.hid (letters_128 k)
  unfold shS
  show Calls Try.prog 20 #[.agg #[.string (kHas k), .string (kYes k), .string (kNo k)]] w _
  generalize kHas k = t at *
  generalize kYes k = t1 at *
  generalize kNo k = t2 at *
  generalize letters k = l at *
  have HL := Lib.hid (show l.length = t.size by rw [← hnm, nums_length])
  have HNM := Lib.hid hnm
  clear hnm
  have bx1 := run_boxOp (P := Try.prog) (t := 51) (cs := #[.string t, .string t1, .string t2]) w
  have hb1 := (Below.refl w.heap.size w).alloc (Nat.le_refl _) (.cells #[.string t, .string t1, .string t2] 51)
  have hk1 : Blk (w.alloc (.cells #[.string t, .string t1, .string t2] 51)) w.heap.size [.string t, .string t1, .string t2] 51 := Blk.new w #[.string t, .string t1, .string t2] 51
  obtain ⟨w1, hw1⟩ : ∃ v, v = w.alloc (.cells #[.string t, .string t1, .string t2] 51) := ⟨_, rfl⟩
  rw [← hw1] at bx1 hb1 hk1
  have c1 : w1.cell? ⟨w.heap.size, 0, none⟩ = some (.string t) := hk1.cell 0
  have HB1 := Lib.hid hb1
  clear hw1 hk1 hb1
  go_enter Try.func20, Try.ntmps20
  go_wp2_with fail
  have HI0 := Lib.hid (World.iter_heap w1 t 0)
  have hal : (w1.iter t 0) = w1.alloc (.stringIter t 0) := rfl
  have HB2 := Lib.hid (show Below w.heap.size w (w1.iter t 0) from by rw [hal]; exact HB1.out.alloc HB1.out.size _)
  obtain ⟨gi, hgi⟩ : ∃ gi, gi = w1.heap.size := ⟨_, rfl⟩
  rw [← hgi] at HI0 ⊢
  have HG := Lib.hid (show w.heap.size ≤ gi by rw [hgi]; exact HB1.out.size)
  clear hal hgi HB1 c1 bx1
  generalize w1.iter t 0 = w2 at *
  go_loopg [3] t.size (fun gh vv wr => ∃ (j : Nat) (s : ByteArray), vv = .string s ∧ j ≤ t.size ∧ gh = t.size - j ∧ s.size ≤ 3 + 5 * j ∧ Hid (s = shF (l.take j)) ∧ Hid (wr.heap[gi]? = some (.stringIter t j)) ∧ Hid (Below w.heap.size w wr))
  case atStart => exact ⟨0, _, rfl, by omega, rfl, by decide, Lib.hid (by rw [List.take_zero]; rfl), HI0, HB2⟩
  case round =>
    obtain ⟨j, s, rfl, hj, rfl, hs, HS, HI, HB⟩ := hrel
    clear HI0 HB2
    by_cases hp : j < t.size
    · obtain ⟨ch, hn, hch⟩ := wire_next t l HNM.out j hp H128.out
      have hnx := fun ty => hn.run wr gi ty HI.out
      have hcm : ch ∈ l := List.mem_of_getElem? hch
      have HC := Lib.hid (HIS.out ch hcm)
      have HTK := Lib.hid (show shF (l.take (j + 1)) = shF (l.take j) ++ shB ch from by
        rw [List.take_add_one, hch]; exact shF_next _ _)
      have HI2 := Lib.hid (Lib.iterAt_heap _ _ _ _ (j + 1) HI.out)
      have HB2 := Lib.hid (show Below w.heap.size w (wr.iterAt gi t (j + 1)) from Lib.below_iterAt HB.out HG.out t (j + 1))
      clear hn hch hcm HI HB
      obtain ⟨w5, hw5⟩ : ∃ w5, w5 = wr.iterAt gi t (j + 1) := ⟨_, rfl⟩
      rw [← hw5] at hnx HI2 HB2
      clear hw5
      have z1 := shB_size ch
      have cat := fun w => run_catW (.tmp 12) (.tmp 14) s (shB ch) (by omega) w
      obtain ⟨sb, hsb⟩ : ∃ sb, sb = shB ch := ⟨_, rfl⟩
      have SO := Lib.hid (wshapeOf_any ch HC.out w5)
      rw [← hsb] at z1 cat HTK SO
      clear hsb
      have HS2 := Lib.hid (show s ++ sb = shF (l.take (j + 1)) from by rw [HTK.out, HS.out])
      have z2 : (s ++ sb).size ≤ 3 + 5 * (j + 1) := by rw [ByteArray.size_append]; omega
      generalize s ++ sb = s2 at *
      clear HS HTK
      go_wp2_with fail
      refine SO.out.mono ?_
      rintro e w6 ⟨rfl, rfl⟩
      go_wp2_with fail
      go_roundg (t.size - (j + 1))
      case measure => omega
      case rel => exact ⟨j + 1, s2, rfl, by omega, rfl, z2, HS2, HI2, HB2⟩
    · obtain rfl : j = t.size := by omega
      have hnx := fun ty => Lib.run_next_end_at (P := Try.prog) wr gi t t.size ty HI.out (by omega)
      have HTL := Lib.hid (show l.take t.size = l from List.take_of_length_le (by rw [HL.out]; exact Nat.le_refl _))
      have HS3 := Lib.hid (show s = shF l from by rw [HS.out, HTL.out])
      go_wp2_with fail
      go_ret
      exact ⟨by rw [HS3.out]; rfl, HB.out⟩
end
end Go.Proofs.Yteepaoklibflpaa
