/-
  Bytes are written.
-/
import Derived.Test.YtgakmkglejddeaaFldF
import Derived.Test.YtgakmkglejddeaaApp
namespace Go.Proofs.Ytgakmkglejddeaa
set_option linter.unusedSimpArgs false
set_option linter.unusedVariables false
open Go.RowKit Sha
open Fld (Itm)
theorem WMem.drew {B ga : Nat} {L v : Value} {out : List Int} {w : World} (h : WMem B ga L v out w) : WMem B ga L v out w.drew := h.carry ⟨Nat.le_refl _, fun _ _ _ _ h => h⟩
theorem WMem.app {B ga : Nat} {L v v' : Value} {out news : List Int} {w w' : World} (h : WMem B ga L v out w) (hg : w.grownBy w' v.ownBlock) (hs : B ≤ w'.heap.size)
    (k : Nat) (hk : k = news.length) (hown : Own8 w' B 5 v' (out.length + k) (out.map v8 ++ news.map v8)) : WMem B ga L v' (out ++ news) (w'.setCell ⟨ga, 1, none⟩ v') :=
  ⟨(h.grow0 hg).set 1 v', by
    subst hk
    have := own8_set hown (h.grow0 hg) w_ne 1 v'
    rwa [← List.length_append, ← List.map_append] at this, h.base, by simpa using hs⟩
set_option maxRecDepth 100000 in
set_option maxHeartbeats 4000000 in
theorem put_b (w0 : World) (ga : Nat) (out : List Int) (x : Itm) (l : List Itm) (w : World) (h : WAt w0 ga (out, x :: l) w) (ho : Fld.okFor 98 x = true) (hb : Fld.bound 98 x = 0) :
    Calls Try.prog 26 #[.pointer (some ⟨ga, 0, none⟩), .int .i32 98] w (PDone w0 ga 98 (out, x :: l) w) := by
  obtain ⟨p, cap, v, hs⟩ := h
  obtain ⟨n, hn⟩ : ∃ n, n = l.length := ⟨_, rfl⟩
  have c0 : w.cell? ⟨ga, 0, none⟩ = some (.slice p (n + 1) cap) := by rw [hn]; exact hs.mem.blk.cell 0
  obtain ⟨b, off, q, qc, rfl, hr0, hg0⟩ := hs.items.get 0 (by simp)
  have hr := range_below hr0 hs.below
  have hg := hg0.below hs.below
  simp only [List.getElem_cons_zero] at hg0
  clear hr0
  have hle : n + 1 ≤ cap := by rw [hn]; exact hs.le
  have hmx := hs.max
  simp only [List.getElem_cons_zero, Nat.zero_mul, Nat.add_zero] at hr hg
  have hsz : (Try.prog.info? 40).map (fun i => i.size) = some (icells x q qc).length := by rw [item_size, icells_length hg.ok]
  have hsz2 : (Try.prog.info? 40).map (fun i => i.size) = some (icells x q qc).toArray.size := by rw [hsz]; simp
  have hsz3 : (icells ⟨0, [], Fld.zero32⟩ none 0).toArray.size = (icells x q qc).toArray.size := by rw [List.size_toArray, List.size_toArray, icells_length hg.ok, icells_length item0_ok]
  have HA := Lib.hid (show ga < w.heap.size from hs.mem.blk.lt)
  have HS := Lib.hid hs
  have HR := Lib.hid hr
  have HG := Lib.hid hg
  have HO := Lib.hid ho
  have HN := Lib.hid hn
  obtain ⟨p', no, m, xn, pf⟩ := pfacts hs hg0 hn ho hb hle
  have PF := Lib.hid pf
  have HENC := Lib.hid (show Fld.enc 98 x = Fld.num m ++ x.B by unfold Fld.enc; rw [if_pos rfl, pf.hm])
  clear hs hr hg hg0 ho hn hb pf
  go_enter Try.func26, Try.ntmps26
  go_wp2_with (first
    | (refine BigFrame.wpList_want rfl (fun K hK => wp_load_mid 40 (.tmp 20) rfl b off rfl _ _ HR.out Try.underlying40 rfl hsz (hK _ _ ?_)))
    | (go_at_call 35; refine (named_is true 98 x q qc _ HG.out.ok HO.out).mono ?_; rintro e w1 ⟨rfl, hb1⟩; have c0' : w1.cell? ⟨ga, 0, none⟩ = some (.slice (some ⟨b, off, none⟩) (n + 1) cap) := (hb1.cell HA.out).trans c0; have HR1 := Lib.hid (range_below HR.out hb1); have HB1 := Lib.hid hb1; clear hb1)
    | (refine wpList_load_mid rfl 40 (.tmp 29) rfl b off rfl _ _ HR1.out Try.underlying40 rfl hsz ?_)
    | (refine wpList_alloc_arr rfl 40 rfl _ item_info ?_)
    | (refine wpList_store_row rfl 40 _ _ rfl _ _ rfl rfl 40 _ (heap_alloc_new _ _) hsz2 hsz3 (icells_all _ _ _) ?_; rw [World.setRow_alloc_new]; have K3 := Blk.new w1 (icells x q qc).toArray 40; have B3 : Below w.heap.size w (w1.alloc (Obj.cells (icells x q qc).toArray 40)) := HB1.out.alloc HB1.out.size _; have hgx : w.heap.size ≤ w1.heap.size := HB1.out.size; generalize w1.alloc (Obj.cells (icells x q qc).toArray 40) = w3 at *; generalize w1.heap.size = gx at *; rw [List.toList_toArray] at K3; have HK3 := Lib.hid K3; have HB3 := Lib.hid B3; have d0 : w3.cell? ⟨ga, 0, none⟩ = some (.slice (some ⟨b, off, none⟩) (n + 1) cap) := (B3.cell HA.out).trans c0; clear K3 B3)
    | (refine wpList_load_mid rfl 40 (.tmp 6) rfl gx 0 rfl _ _ HK3.out.range Try.underlying40 rfl hsz ?_)
    | (have _t := tk1; refine wpList_slice_run rfl 22 (.tmp 41) _ _ rfl _ (PF.out.cut _) ?_; clear tk1 _t)
    | (go_at_call 36; refine (bounded_is 0 98 x q qc _ HG.out.ok (Or.inr (Or.inl rfl)) PF.out.bd).mono ?_; rintro e w4 ⟨rfl, hb4⟩; have hb5 := HB3.out.trans (hb4.mono HB3.out.size); have HS4 := Lib.hid (HS.out.below_on hb5); have d1 : w4.cell? ⟨ga, 0, none⟩ = some (.slice (some ⟨b, off, none⟩) (n + 1) cap) := (hb5.cell HA.out).trans c0; have f1 : w4.frozen? ⟨ga, 0, none⟩ = false := HS4.out.mem.blk.free 0; have d2 : w4.cell? ⟨ga, 1, none⟩ = some v := HS4.out.mem.blk.cell 1; have hgne : gx ≠ ga := (by have := HA.out; omega); have hit := HK3.out.below hb4 HK3.out.lt; have e0 : w4.cell? ⟨gx, 0, none⟩ = some (.int .i64 xn) := (by rw [PF.out.hxn]; exact (hit.cell 0).trans (icells_0 _ _ _)); have e1 : w4.cell? ⟨gx, 1, none⟩ = some (.slice q m qc) := (by rw [PF.out.hm]; exact (hit.cell 1).trans (icells_1 _ _ _)); have HST := Lib.hid (show PStep w0 w ga gx p' n (cap - 1) v out x q qc (w4.setCell ⟨ga, 0, none⟩ (.slice p' n (cap - 1))) from ⟨wmem_left HS4.out.mem _, hit.setOther _ _ hgne, hgne, HS4.out.below.setCell HS4.out.mem.base _, others_set (others_of_below _ _ hb5) 0 _⟩); have tk1 : True := trivial; clear hb4 hb5 hit)
    | (go_at_call 37; refine (wnum_any _ ga _ v out m _ HST.out.mem (by have := PF.out.xn1; have := PF.out.m1; omega) (by rw [← PF.out.hno]; have := PF.out.no1; omega)).mono ?_; rintro e w6 ⟨rfl, v6, hm6, hb6, ho6⟩; have HST6 := Lib.hid (HST.out.done hm6 hb6 ho6); clear hm6 hb6 ho6; have g0 : w6.cell? ⟨gx, 0, none⟩ = some (.int .i64 xn) := (by rw [PF.out.hxn]; exact (HST6.out.item.cell 0).trans (icells_0 _ _ _)); have g1 : w6.cell? ⟨gx, 1, none⟩ = some (.slice q m qc) := (by rw [PF.out.hm]; exact (HST6.out.item.cell 1).trans (icells_1 _ _ _)); have g2 : w6.cell? ⟨ga, 1, none⟩ = some v6 := HST6.out.mem.blk.cell 1; have g3 : w6.frozen? ⟨ga, 1, none⟩ = false := HST6.out.mem.blk.free 1))
  go_region_law ((refine step_app8 (by rfl) (.tmp 61) (.tmp 63) 26 (by rfl) w0.heap.size 5 Try.underlying26 kbyte_info v6 _ _ (by rfl) HST6.out.mem.own.drew q m qc ((x.B).map v8) (by rfl) ((PF.out.good.at_.below HST6.out.below).drew) (by rw [List.length_map, PF.out.hm]) PF.out.good.nil (by rw [PF.out.hm]; exact PF.out.good.le) (ints_map _) (by simp only [List.length_append]; rw [← PF.out.hno]; have := PF.out.no1; have := PF.out.m1; have := Fld.num_len m (by rw [show (128 : Nat) ^ 9 = 9223372036854775808 by decide]; have := PF.out.m1; omega); omega) (by unfold maxLen; simp only [List.length_append]; rw [← PF.out.hno]; have := PF.out.no1; have := PF.out.m1; have := Fld.num_len m (by rw [show (128 : Nat) ^ 9 = 9223372036854775808 by decide]; have := PF.out.m1; omega); omega) HST6.out.mem.size ?_; intro va w8 hown8 hg8 hb8 hs8; obtain ⟨g8, c8, rfl, _, _, _, _⟩ := own_form hown8.row (by have := Fld.num_pos m; simp only [List.length_append]; omega); have HM8 := Lib.hid (WMem.app (news := x.B) HST6.out.mem.drew hg8 hs8 _ PF.out.hm hown8); have HO8 := Lib.hid (HST6.out.mem.drew.others0 (Lib.OthersKept.refl _ _ _).drew hg8 : Lib.OthersKept 5 (some ga) w6 w8); have hit := blk_others HST6.out.item HO8.out HST6.out.ne ui_ne; have h0 : w8.cell? ⟨gx, 0, none⟩ = some (.int .i64 xn) := (by rw [PF.out.hxn]; exact (hit.cell 0).trans (icells_0 _ _ _)); have hk := HST6.out.mem.drew.grow0 hg8; have h1 : w8.cell? ⟨ga, 1, none⟩ = some v6 := hk.cell 1; have h2 : w8.frozen? ⟨ga, 1, none⟩ = false := hk.free 1; have hne8 : gx ≠ ga := HST6.out.ne; have HB8 := Lib.hid ((Below.refl w0.heap.size w6).drew.trans hb8); clear hown8 hg8 hb8 hit hk; generalize (out ++ Fld.num m).length + m = nn at *))
  all_goals
    go_wp2_with fail
    have HST8 := Lib.hid (HST6.out.done HM8.out (HB8.out.setCell (p := ⟨ga, 1, none⟩) HST6.out.mem.base _) (others_set HO8.out 1 _))
    go_ret2
    exact ⟨by rw [PF.out.put, PF.out.hxn]; rfl, by rw [PF.out.put]; exact ⟨p', cap - 1, _, by rw [HENC.out, ← HN.out, ← List.append_assoc]; exact HST8.out.mem, PF.out.items, by rw [← HN.out]; omega, by omega, PF.out.nil, HST8.out.below, by have h1 := HS.out.small; have h2 := PF.out.enc; simp only [List.length_cons, List.length_append] at h1 ⊢; omega⟩, HST8.out.others⟩
end Go.Proofs.Ytgakmkglejddeaa
