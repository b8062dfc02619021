/-
  The writer's memory; how a number is written.
-/
import Derived.Test.YtgakmkglejddeaaItm
import Derived.Test.YtgakmkglejddeaaFld2
import Derived.Test.YtgakmkglejddeaaOwn8
import Derived.WalkSpells
import Derived.IntWalk
import Derived.WalkLawsBesides
namespace Go.Proofs.Ytgakmkglejddeaa
set_option linter.unusedSimpArgs false
set_option linter.unusedVariables false
open Go.RowKit Sha
open Fld (Itm)
section
variable {w w' : World} {B g ga n size : Nat} {e t : TypeId} {v u : Value} {xs cs : List Value}
theorem own_kind (h : w.ownsRow B e size v n xs) : ∀ k, v.ownBlock = some k → ∃ c fz, w.heap[k]? = some (.cells c e fz) := by
  intro k hk
  rcases h.2 with ⟨hv, _⟩ | ⟨g, cap, cur, hv, _, hh, _⟩
  · rw [hv] at hk; cases hk
  · rw [hv] at hk; cases hk; exact ⟨_, _, hh⟩
theorem own_ne (h : w.ownsRow B e size v n xs) (hb : Blk w ga cs t) (hne : e ≠ t) : v.ownBlock ≠ some ga := by
  intro hk
  obtain ⟨c, fz, hc⟩ := own_kind h ga hk
  unfold Blk at hb
  rw [hb] at hc
  cases hc
  exact hne rfl
theorem own_base (h : w.ownsRow B e size v n xs) : ∀ k, v.ownBlock = some k → B ≤ k := by
  intro k hk
  rcases h.2 with ⟨hv, _⟩ | ⟨g, cap, cur, hv, hg, hh, _⟩
  · rw [hv] at hk; cases hk
  · rw [hv] at hk; cases hk; exact hg
/-- A row of the call's own under whatever leaves blocks of cells as they are. -/
theorem own_carry (h : w.ownsRow B e size v n xs) (hc : ∀ k c fz, v.ownBlock = some k → w.heap[k]? = some (.cells c e fz) → w'.heap[k]? = some (.cells c e fz)) : w'.ownsRow B e size v n xs := by
  refine ⟨h.1, ?_⟩
  rcases h.2 with h | ⟨g, cap, cur, hv, hg, hh, h4⟩
  · exact Or.inl h
  · exact Or.inr ⟨g, cap, cur, hv, hg, hc g _ _ (by rw [hv]; rfl) hh, h4⟩
theorem own_set (h : w.ownsRow B e size v n xs) (hb : Blk w ga cs t) (hne : e ≠ t) (i : Nat) (u : Value) : (w.setCell ⟨ga, i, none⟩ u).ownsRow B e size v n xs :=
  own_carry h fun k c fz hk hh => by
    rw [Below.heap_setCell _ _ _ _ (fun e1 => own_ne h hb hne (by rw [hk]; exact congrArg some e1))]; exact hh
theorem own8_set (h : Own8 w B e v n xs) (hb : Blk w ga cs t) (hne : e ≠ t) (i : Nat) (u : Value) : Own8 (w.setCell ⟨ga, i, none⟩ u) B e v n xs :=
  ⟨own_set h.row hb hne i u, h.ints.carry fun g hg => Below.heap_setCell _ _ _ _ (fun e1 => own_ne h.row hb hne (by rw [hg]; exact congrArg some e1))⟩
theorem own8_carry (h : Own8 w B e v n xs) (hc : ∀ k c fz, v.ownBlock = some k → w.heap[k]? = some (.cells c e fz) → w'.heap[k]? = some (.cells c e fz)) : Own8 w' B e v n xs :=
  ⟨own_carry h.row hc, h.ints.carry fun g hg => by obtain ⟨c, fz, hh⟩ := own_kind h.row g hg; rw [hc g c fz hg hh, hh]⟩
theorem Own8.drew (h : Own8 w B e v n xs) : Own8 w.drew B e v n xs := ⟨h.row.drew, h.ints.carry fun _ _ => rfl⟩
theorem Blk.grow (hb : Blk w ga cs t) {row : Option Nat} (hg : w.grownBy w' row) (hne : row ≠ some ga) : Blk w' ga cs t := by
  unfold Blk at *
  rw [hg.block ga (Blk.lt hb) (fun e => hne e.symm)]; exact hb
theorem others_set {a : World} (h : Lib.OthersKept e (some ga) a w) (i : Nat) (u : Value) : Lib.OthersKept e (some ga) a (w.setCell ⟨ga, i, none⟩ u) := h.setCell _ rfl u
end
/-- Blocks of cells are as they were. -/
def CellsKept (w w' : World) : Prop := w.heap.size ≤ w'.heap.size ∧ ∀ (k : Nat) (c : Array Value) (e : TypeId) (fz : Nat × Nat), w.heap[k]? = some (Obj.cells c e fz) → w'.heap[k]? = some (Obj.cells c e fz)
/-- A writer at ga: its items L, its bytes v, which are 'out'. -/
structure WMem (B ga : Nat) (L v : Value) (out : List Int) (w : World) : Prop where
  blk : Blk w ga [L, v] 52
  own : Own8 w B 5 v out.length (out.map v8)
  base : B ≤ ga
  size : B ≤ w.heap.size
theorem WMem.carry {B ga : Nat} {L v : Value} {out : List Int} {w w' : World} (h : WMem B ga L v out w) (hc : CellsKept w w') : WMem B ga L v out w' :=
  ⟨hc.2 _ _ _ _ h.blk, own8_carry h.own fun k c fz _ hh => hc.2 _ _ _ _ hh, h.base, Nat.le_trans h.size hc.1⟩
theorem w_ne : (5 : TypeId) ≠ 52 := by decide
theorem WMem.grow {B ga : Nat} {L v : Value} {out : List Int} {w w' : World} {o : Obj} (h : WMem B ga L v out w) (hg : (w.alloc o).grownBy w' v.ownBlock) : Blk w' ga [L, v] 52 :=
  (h.blk.old o).grow hg (own_ne (h.own.alloc o).row (h.blk.old o) w_ne)
theorem WMem.grow0 {B ga : Nat} {L v : Value} {out : List Int} {w w' : World} (h : WMem B ga L v out w) (hg : w.grownBy w' v.ownBlock) : Blk w' ga [L, v] 52 :=
  h.blk.grow hg (own_ne h.own.row h.blk w_ne)
theorem WMem.others {B ga : Nat} {L v : Value} {out : List Int} {a w w' : World} {o : Obj} (h : WMem B ga L v out w) (hO : Lib.OthersKept 5 (some ga) a w) (hg : (w.alloc o).grownBy w' v.ownBlock) : Lib.OthersKept 5 (some ga) a w' :=
  (hO.alloc o).grown hg (own_kind (h.own.alloc o).row)
theorem WMem.others0 {B ga : Nat} {L v : Value} {out : List Int} {a w w' : World} (h : WMem B ga L v out w) (hO : Lib.OthersKept 5 (some ga) a w) (hg : w.grownBy w' v.ownBlock) : Lib.OthersKept 5 (some ga) a w' :=
  hO.grown hg (own_kind h.own.row)
def WDone (B ga : Nat) (L : Value) (out : List Int) (ret : Value) (w : World) (e : Ending) (w' : World) : Prop :=
  e = .returned ret ∧ ∃ v, WMem B ga L v out w' ∧ Below B w w' ∧ Lib.OthersKept 5 (some ga) w w'
theorem num_next {cur out : List Int} {k n : Nat} (h : cur ++ Fld.num k = out ++ Fld.num n) (hk : 128 ≤ k) : (cur ++ [((k % 128 + 128 : Nat) : Int)]) ++ Fld.num (k / 128) = out ++ Fld.num n := by
  rw [← h, Fld.num_ge hk]; simp
theorem num_last {cur out : List Int} {k n : Nat} (h : cur ++ Fld.num k = out ++ Fld.num n) (hk : k < 128) : cur ++ [(k : Int)] = out ++ Fld.num n := by
  rw [← h, Fld.num_lt hk]
set_option maxRecDepth 100000 in
set_option maxHeartbeats 2000000 in
theorem wnum_any (B ga : Nat) (L v : Value) (out : List Int) (n : Nat) (w : World) (h : WMem B ga L v out w) (hn : n ≤ 9223372036854775807) (hm : out.length ≤ 1000000000) :
    Calls Try.prog 37 #[.pointer (some ⟨ga, 0, none⟩), .int .i64 n] w (WDone B ga L (out ++ Fld.num n) (.tuple #[]) w) := by
  have HW := Lib.hid h
  clear h
  go_enter Try.func37, Try.ntmps37
  go_wp2_with fail
  go_loopw [1] (fun i wr => ∃ (k : Nat) (cur : List Int) (v : Value), i = .int .i64 k ∧ k ≤ n ∧ Hid (cur ++ Fld.num k = out ++ Fld.num n) ∧ Hid (WMem B ga L v cur wr) ∧ Hid (Below B w wr) ∧ Hid (Lib.OthersKept 5 (some ga) w wr)) (fun i _ => (intOf i).toNat)
  case atStart => exact ⟨n, out, v, rfl, Nat.le_refl _, rfl, HW, Below.refl _ _, Lib.OthersKept.refl _ _ _⟩
  case round =>
    obtain ⟨k, cur, v, rfl, hk, HE, HM, HB, HO⟩ := hrel
    have hcl : cur.length ≤ 1000000009 := by
      have h1 := congrArg List.length HE.out
      have h2 := Fld.num_len n (by rw [show (128 : Nat) ^ 9 = 9223372036854775808 by decide]; omega)
      simp at h1; omega
    have c1 : wr.cell? ⟨ga, 1, none⟩ = some v := HM.out.blk.cell 1
    have f1 : wr.frozen? ⟨ga, 1, none⟩ = false := HM.out.blk.free 1
    have s1 := HM.out.size
    by_cases hge : 128 ≤ k
    · have HN := Lib.hid (num_next HE.out hge)
      go_wp2_with (at_builtin; refine wpList_app8 rfl (.tmp 10) (.tmp 15) 26 rfl B 5 Try.underlying26 kbyte_info v _ _ rfl (HM.out.own.alloc _) _ 1 1 [v8 ((k : Int) % 128 + 128)] rfl ?_ rfl (fun h => by cases h) (by omega) (by intro u hu; rw [List.mem_singleton.1 hu]; exact ⟨_, rfl⟩) (by omega) (by unfold maxLen; omega) (by simp; omega) ?_; exact at_one _ _ _; intro v2 w2 hown2 hg2 hb2 hs2; obtain ⟨g2, c2, rfl, hg0, hg1, hg3, hg4⟩ := own_form hown2.row (by omega); have K2 := HM.out.grow hg2; have c2' : w2.cell? ⟨ga, 1, none⟩ = some v := K2.cell 1; have f2' : w2.frozen? ⟨ga, 1, none⟩ = false := K2.free 1; have HK2 := Lib.hid K2; have HO2 := Lib.hid hown2; have HG2 := Lib.hid hg2; have HB2 := Lib.hid hb2; clear K2 hown2 hg2 hb2)
      have HM2 : WMem B ga L (.slice (some ⟨g2, 0, none⟩) (cur.length + 1) c2) (cur ++ [(k : Int) % 128 + 128]) (w2.setCell ⟨ga, 1, none⟩ (.slice (some ⟨g2, 0, none⟩) (cur.length + 1) c2)) :=
        ⟨HK2.out.set 1 _, by simpa using own8_set HO2.out HK2.out w_ne 1 _, HM.out.base, by simpa using hs2⟩
      have HB3 : Below B w (w2.setCell ⟨ga, 1, none⟩ (.slice (some ⟨g2, 0, none⟩) (cur.length + 1) c2)) := ((HB.out.alloc HM.out.size _).trans HB2.out).setCell HM.out.base _
      have HO3 : Lib.OthersKept 5 (some ga) w (w2.setCell ⟨ga, 1, none⟩ (.slice (some ⟨g2, 0, none⟩) (cur.length + 1) c2)) :=
        others_set (HM.out.others HO.out HG2.out) 1 _
      go_roundw
      case rel => exact ⟨k / 128, _, _, by go_num, by omega, Lib.hid (by have := HN.out; simpa using this), HM2, HB3, HO3⟩
      case measure => simp [intOf]; omega
    · have HN := Lib.hid (num_last HE.out (by omega))
      go_wp2_with (at_builtin; refine wpList_app8 rfl (.tmp 25) (.tmp 28) 26 rfl B 5 Try.underlying26 kbyte_info v _ _ rfl (HM.out.own.alloc _) _ 1 1 [v8 ((k : Int))] rfl ?_ rfl (fun h => by cases h) (by omega) (by intro u hu; rw [List.mem_singleton.1 hu]; exact ⟨_, rfl⟩) (by omega) (by unfold maxLen; omega) (by simp; omega) ?_; exact at_one _ _ _; intro v2 w2 hown2 hg2 hb2 hs2; obtain ⟨g2, c2, rfl, hg0, hg1, hg3, hg4⟩ := own_form hown2.row (by omega); have K2 := HM.out.grow hg2; have c2' : w2.cell? ⟨ga, 1, none⟩ = some v := K2.cell 1; have f2' : w2.frozen? ⟨ga, 1, none⟩ = false := K2.free 1; have HK2 := Lib.hid K2; have HO2 := Lib.hid hown2; have HG2 := Lib.hid hg2; have HB2 := Lib.hid hb2; clear K2 hown2 hg2 hb2)
      have HM2 : WMem B ga L (.slice (some ⟨g2, 0, none⟩) (cur.length + 1) c2) (cur ++ [(k : Int)]) (w2.setCell ⟨ga, 1, none⟩ (.slice (some ⟨g2, 0, none⟩) (cur.length + 1) c2)) :=
        ⟨HK2.out.set 1 _, by simpa using own8_set HO2.out HK2.out w_ne 1 _, HM.out.base, by simpa using hs2⟩
      have HB3 : Below B w (w2.setCell ⟨ga, 1, none⟩ (.slice (some ⟨g2, 0, none⟩) (cur.length + 1) c2)) := ((HB.out.alloc HM.out.size _).trans HB2.out).setCell HM.out.base _
      have HO3 : Lib.OthersKept 5 (some ga) w (w2.setCell ⟨ga, 1, none⟩ (.slice (some ⟨g2, 0, none⟩) (cur.length + 1) c2)) :=
        others_set (HM.out.others HO.out HG2.out) 1 _
      go_end0
      exact ⟨rfl, _, by rw [← HN.out]; exact HM2, HB3, HO3⟩
end Go.Proofs.Ytgakmkglejddeaa
