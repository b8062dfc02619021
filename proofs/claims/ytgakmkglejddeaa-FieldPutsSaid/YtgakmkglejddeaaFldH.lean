/-
  An id is written; the contract of put, whole.
-/
import Derived.Test.YtgakmkglejddeaaFldG
import Derived.Test.YtgakmkglejddeaaApp
namespace Go.Proofs.Ytgakmkglejddeaa
set_option linter.unusedSimpArgs false
set_option linter.unusedVariables false
open Go.RowKit Sha
open Fld (Itm)
set_option maxRecDepth 100000 in
set_option maxHeartbeats 4000000 in
theorem put_d (w0 : World) (ga : Nat) (out : List Int) (x : Itm) (l : List Itm) (w : World) (h : WAt w0 ga (out, x :: l) w) (ho : Fld.okFor 100 x = true) (hb : Fld.bound 100 x = 0) :
    Calls Try.prog 26 #[.pointer (some ⟨ga, 0, none⟩), .int .i32 100] w (PDone w0 ga 100 (out, x :: l) w) := by
  obtain ⟨p, cap, v, hs⟩ := h
  obtain ⟨n, hn⟩ : ∃ n, n = l.length := ⟨_, rfl⟩
  have c0 : w.cell? ⟨ga, 0, none⟩ = some (.slice p (n + 1) cap) := by rw [hn]; exact hs.mem.blk.cell 0
  obtain ⟨b, off, q, qc, rfl, hr0, hg0⟩ := hs.items.get 0 (by simp)
  have hr := range_below hr0 hs.below
  have hg := hg0.below hs.below
  simp only [List.getElem_cons_zero] at hg0
  clear hr0
  have hle : n + 1 ≤ cap := by rw [hn]; exact hs.le
  have hmx := hs.max
  simp only [List.getElem_cons_zero, Nat.zero_mul, Nat.add_zero] at hr hg
  have hsz : (Try.prog.info? 40).map (fun i => i.size) = some (icells x q qc).length := by rw [item_size, icells_length hg.ok]
  have hsz2 : (Try.prog.info? 40).map (fun i => i.size) = some (icells x q qc).toArray.size := by rw [hsz]; simp
  have hsz3 : (icells ⟨0, [], Fld.zero32⟩ none 0).toArray.size = (icells x q qc).toArray.size := by rw [List.size_toArray, List.size_toArray, icells_length hg.ok, icells_length item0_ok]
  have HA := Lib.hid (show ga < w.heap.size from hs.mem.blk.lt)
  have HS := Lib.hid hs
  have HR := Lib.hid hr
  have HG := Lib.hid hg
  have HO := Lib.hid ho
  have HN := Lib.hid hn
  obtain ⟨p', no, m, xn, pf⟩ := pfacts hs hg0 hn ho hb hle
  have PF := Lib.hid pf
  have HENC := Lib.hid (show Fld.enc 100 x = x.D by unfold Fld.enc; rw [if_neg (by decide), if_pos rfl])
  clear hs hr hg hg0 ho hn hb pf
  go_enter Try.func26, Try.ntmps26
  go_wp2_with (first
    | (refine BigFrame.wpList_want rfl (fun K hK => wp_load_mid 40 (.tmp 20) rfl b off rfl _ _ HR.out Try.underlying40 rfl hsz (hK _ _ ?_)))
    | (go_at_call 35; refine (named_is true 100 x q qc _ HG.out.ok HO.out).mono ?_; rintro e w1 ⟨rfl, hb1⟩; have c0' : w1.cell? ⟨ga, 0, none⟩ = some (.slice (some ⟨b, off, none⟩) (n + 1) cap) := (hb1.cell HA.out).trans c0; have HR1 := Lib.hid (range_below HR.out hb1); have HB1 := Lib.hid hb1; clear hb1)
    | (refine wpList_load_mid rfl 40 (.tmp 29) rfl b off rfl _ _ HR1.out Try.underlying40 rfl hsz ?_)
    | (refine wpList_alloc_arr rfl 40 rfl _ item_info ?_)
    | (refine wpList_store_row rfl 40 _ _ rfl _ _ rfl rfl 40 _ (heap_alloc_new _ _) hsz2 hsz3 (icells_all _ _ _) ?_; rw [World.setRow_alloc_new]; have K3 := Blk.new w1 (icells x q qc).toArray 40; have B3 : Below w.heap.size w (w1.alloc (Obj.cells (icells x q qc).toArray 40)) := HB1.out.alloc HB1.out.size _; have hgx : w.heap.size ≤ w1.heap.size := HB1.out.size; generalize w1.alloc (Obj.cells (icells x q qc).toArray 40) = w3 at *; generalize w1.heap.size = gx at *; rw [List.toList_toArray] at K3; have HK3 := Lib.hid K3; have HB3 := Lib.hid B3; have d0 : w3.cell? ⟨ga, 0, none⟩ = some (.slice (some ⟨b, off, none⟩) (n + 1) cap) := (B3.cell HA.out).trans c0; clear K3 B3)
    | (refine wpList_load_mid rfl 40 (.tmp 6) rfl gx 0 rfl _ _ HK3.out.range Try.underlying40 rfl hsz ?_)
    | (have _t := tk1; refine wpList_slice_run rfl 22 (.tmp 41) _ _ rfl _ (PF.out.cut _) ?_; clear tk1 _t)
    | (go_at_call 36; refine (bounded_is 0 100 x q qc _ HG.out.ok (Or.inr (Or.inr (Or.inl rfl))) PF.out.bd).mono ?_; rintro e w4 ⟨rfl, hb4⟩; have hb5 := HB3.out.trans (hb4.mono HB3.out.size); have HS4 := Lib.hid (HS.out.below_on hb5); have d1 : w4.cell? ⟨ga, 0, none⟩ = some (.slice (some ⟨b, off, none⟩) (n + 1) cap) := (hb5.cell HA.out).trans c0; have f1 : w4.frozen? ⟨ga, 0, none⟩ = false := HS4.out.mem.blk.free 0; have d2 : w4.cell? ⟨ga, 1, none⟩ = some v := HS4.out.mem.blk.cell 1; have hgne : gx ≠ ga := (by have := HA.out; omega); have hit := HK3.out.below hb4 HK3.out.lt; have e0 : w4.cell? ⟨gx, 0, none⟩ = some (.int .i64 xn) := (by rw [PF.out.hxn]; exact (hit.cell 0).trans (icells_0 _ _ _)); have e1 : w4.cell? ⟨gx, 1, none⟩ = some (.slice q m qc) := (by rw [PF.out.hm]; exact (hit.cell 1).trans (icells_1 _ _ _)); have HST := Lib.hid (show PStep w0 w ga gx p' n (cap - 1) v out x q qc (w4.setCell ⟨ga, 0, none⟩ (.slice p' n (cap - 1))) from ⟨wmem_left HS4.out.mem _, hit.setOther _ _ hgne, hgne, HS4.out.below.setCell HS4.out.mem.base _, others_set (others_of_below _ _ hb5) 0 _⟩); have tk1 : True := trivial; clear hb4 hb5 hit))
  go_region_law ((refine step_app8 (by rfl) (.tmp 73) (.tmp 75) 26 (by rfl) w0.heap.size 5 Try.underlying26 kbyte_info v _ _ (by rfl) HST.out.mem.own.drew (some ⟨gx, 2, none⟩) 32 32 ((x.D).map v8) (by rfl) (Or.inr ⟨gx, 2, rfl, HST.out.item.rangeId⟩) (by rw [List.length_map, PF.out.good.ok.len]) (by intro h; cases h) (Nat.le_refl _) (ints_map _) (by rw [← PF.out.hno]; have := PF.out.no1; omega) (by unfold maxLen; rw [← PF.out.hno]; have := PF.out.no1; omega) HST.out.mem.size ?_; intro va w8 hown8 hg8 hb8 hs8; obtain ⟨g8, c8, rfl, _, _, _, _⟩ := own_form hown8.row (by have := Nat.zero_le no; omega); have HM8 := Lib.hid (WMem.app (news := x.D) HST.out.mem.drew hg8 hs8 _ PF.out.good.ok.len.symm hown8); have HO8 := Lib.hid (HST.out.mem.drew.others0 (Lib.OthersKept.refl _ _ _).drew hg8 : Lib.OthersKept 5 (some ga) (w4.setCell ⟨ga, 0, none⟩ (.slice p' n (cap - 1))) w8); have hit := blk_others HST.out.item HO8.out HST.out.ne ui_ne; have h0 : w8.cell? ⟨gx, 0, none⟩ = some (.int .i64 xn) := (by rw [PF.out.hxn]; exact (hit.cell 0).trans (icells_0 _ _ _)); have hk := HST.out.mem.drew.grow0 hg8; have h1 : w8.cell? ⟨ga, 1, none⟩ = some v := hk.cell 1; have h2 : w8.frozen? ⟨ga, 1, none⟩ = false := hk.free 1; have hne8 : gx ≠ ga := HST.out.ne; have HB8 := Lib.hid ((Below.refl w0.heap.size (w4.setCell ⟨ga, 0, none⟩ (.slice p' n (cap - 1)))).drew.trans hb8); clear hown8 hg8 hb8 hit hk; generalize out.length + 32 = nn at *))
  all_goals
    go_wp2_with fail
    have HST8 := Lib.hid (HST.out.done HM8.out (HB8.out.setCell (p := ⟨ga, 1, none⟩) HST.out.mem.base _) (others_set HO8.out 1 _))
    go_ret2
    exact ⟨by rw [PF.out.put, PF.out.hxn]; rfl, by rw [PF.out.put]; exact ⟨p', cap - 1, _, by rw [HENC.out, ← HN.out]; exact HST8.out.mem, PF.out.items, by rw [← HN.out]; omega, by omega, PF.out.nil, HST8.out.below, by have h1 := HS.out.small; have h2 := PF.out.enc; simp only [List.length_cons, List.length_append] at h1 ⊢; omega⟩, HST8.out.others⟩
theorem put_any (w0 : World) (ga : Nat) (c : Int) (hc : Fld.isC c) (st : List Int × List Itm) (w : World) (h : WAt w0 ga st w) :
    Calls Try.prog 26 #[.pointer (some ⟨ga, 0, none⟩), .int .i32 c] w (PDone w0 ga c st w) := by
  obtain ⟨out, l⟩ := st
  cases l with
  | nil => exact put_nil w0 ga c out w h
  | cons x l =>
    by_cases ho : Fld.okFor c x = true
    · by_cases hb : Fld.bound c x = 0
      · by_cases h98 : c = 98
        · subst h98; exact put_b w0 ga out x l w h ho hb
        · by_cases h100 : c = 100
          · subst h100; exact put_d w0 ga out x l w h ho hb
          · exact put_n w0 ga c hc out x l w h ho hb h98 h100
      · exact put_bd w0 ga c _ hc out x l w h ho rfl (by simpa using hb)
    · exact put_no w0 ga c out x l w h (by simpa using ho)
end Go.Proofs.Ytgakmkglejddeaa
