/-
  The next item is written, whole: the contract of put where all is well.
  Bytes are written.
  An id is written; the contract of put, whole.
-/
import Derived.Test.YteepaoklibflpaaR38
import Derived.Test.YteepaoklibflpaaR10
namespace Go.Proofs.Yteepaoklibflpaa
section
set_option linter.unusedSimpArgs false
set_option linter.unusedVariables false
open Go.RowKit Sha
open Fld (Itm)
theorem wi_ne : (98 : TypeId) ≠ 110 := by decide
theorem ui_ne : (98 : TypeId) ≠ 5 := by decide
theorem blk_others {w w' : World} {g ga : Nat} {cs : List Value} {t e : TypeId} (h : Blk w g cs t) (hO : Lib.OthersKept e (some ga) w w') (hg : g ≠ ga) (ht : t ≠ e) : Blk w' g cs t :=
  hO g _ h (fun e => hg (Option.some.inj e)) (fun c fz he => by cases he; exact ht rfl)
theorem wmem_left {B ga : Nat} {L v : Value} {out : List Int} {w : World} (h : WMem B ga L v out w) (L' : Value) : WMem B ga L' v out (w.setCell ⟨ga, 0, none⟩ L') :=
  ⟨h.blk.set 0 L', own8_set h.own h.blk w_ne 0 L', h.base, by simpa using h.size⟩
/-- What is known behind the bounds' test and the step to the next item. -/
structure PStep (w0 w : World) (ga gx : Nat) (p' : Option Addr) (n c' : Nat) (v : Value) (out : List Int) (x : Itm) (q : Option Addr) (qc : Nat) (w5 : World) : Prop where
  mem : WMem w0.heap.size ga (.slice p' n c') v out w5
  item : Blk w5 gx (icells x q qc) 98
  ne : gx ≠ ga
  below : Below w0.heap.size w0 w5
  others : Lib.OthersKept 5 (some ga) w w5
theorem PStep.done {w0 w w6 : World} {ga gx n c' : Nat} {p' q : Option Addr} {qc : Nat} {v v2 : Value} {out out2 : List Int} {x : Itm} {w5 : World} (h : PStep w0 w ga gx p' n c' v out x q qc w5)
    (hm : WMem w0.heap.size ga (.slice p' n c') v2 out2 w6) (hb : Below w0.heap.size w5 w6) (hO : Lib.OthersKept 5 (some ga) w5 w6) : PStep w0 w ga gx p' n c' v2 out2 x q qc w6 :=
  ⟨hm, blk_others h.item hO h.ne ui_ne, h.ne, h.below.trans hb, h.others.trans hO⟩
/-- What is known ahead of the walk. -/
structure PFacts (P : Program) (w0 : World) (b off n cap : Nat) (p' : Option Addr) (c : Int) (out : List Int) (x : Itm) (l : List Itm) (q : Option Addr) (qc no m xn : Nat) : Prop where
  put : Fld.putS c (out, x :: l) = ((out ++ Fld.enc c x, l), x.N, 0)
  bd : Fld.bound c x = 0
  items : ItemsAt w0 p' l
  nil : p' = none → cap - 1 = 0
  cut : ∀ w, (Instr.sliceAt 55 (.slice (some ⟨b, off, none⟩) (n + 1) cap) (some (.int .i64 1)) none none).run P w = .ok (.slice p' n (cap - 1)) w
  hno : no = out.length
  no1 : no ≤ 999999000
  hm : m = x.B.length
  m1 : m ≤ 4000
  hxn : (xn : Int) = x.N
  xn1 : xn ≤ 9223372036854775807
  good : GoodI w0 x q qc
  enc : (Fld.enc c x).length ≤ 4009 ∧ 0 < (Fld.enc c x).length
theorem pfacts {w0 : World} {b off n cap : Nat} {c : Int} {out : List Int} {x : Itm} {l : List Itm} {q : Option Addr} {qc ga : Nat} {v : Value} {w : World} (hs : WSt w0 ga (out, x :: l) (some ⟨b, off, none⟩) cap v w) (hg : GoodI w0 x q qc) (hn : n = l.length) (ho : Fld.okFor c x = true) (hb : Fld.bound c x = 0) (hle : n + 1 ≤ cap) :
    ∃ p' no m xn, PFacts Try.prog w0 b off n cap p' c out x l q qc no m xn := by
  have h0 := (Fld.bound_zero hb)
  have hN := hg.ok.N1
  refine ⟨(if cap = 1 then (some ⟨b, off, none⟩ : Option Addr) else (some ⟨b, off, none⟩ : Option Addr).map (·.add 34)), out.length, x.B.length, x.N.toNat, putS_yes ho hb, hb, hs.items.tail cap (by rw [← hn]; exact hle), ?_, fun w => ?_, rfl, ?_, rfl, h0.2.2.1, by omega, by omega, hg, Fld.enc_len _ x hg.ok ho hb⟩
  · intro h; split at h
    · omega
    · simp at h
  · rw [run_cut1 Try.underlying55 item_size _ _ _ (by omega) w, Nat.add_sub_cancel]
  · have := hs.small; simp at this; omega
set_option maxRecDepth 100000 in
set_option maxHeartbeats 4000000 in
theorem put_n (w0 : World) (ga : Nat) (c : Int) (hc : Fld.isC c) (out : List Int) (x : Itm) (l : List Itm) (w : World) (h : WAt w0 ga (out, x :: l) w) (ho : Fld.okFor c x = true) (hb : Fld.bound c x = 0) (h98 : c ≠ 98) (h100 : c ≠ 100) :
    Calls Try.prog 68 #[.pointer (some ⟨ga, 0, none⟩), .int .i32 c] w (PDone w0 ga c (out, x :: l) w) := by
  obtain ⟨p, cap, v, hs⟩ := h
  obtain ⟨n, hn⟩ : ∃ n, n = l.length := ⟨_, rfl⟩
  have c0 : w.cell? ⟨ga, 0, none⟩ = some (.slice p (n + 1) cap) := by rw [hn]; exact hs.mem.blk.cell 0
  obtain ⟨b, off, q, qc, rfl, hr0, hg0⟩ := hs.items.get 0 (by simp)
  have hr := range_belowF hr0 hs.below
  have hg := hg0.below hs.below
  simp only [List.getElem_cons_zero] at hg0
  clear hr0
  have hle : n + 1 ≤ cap := by rw [hn]; exact hs.le
  have hmx := hs.max
  simp only [List.getElem_cons_zero, Nat.zero_mul, Nat.add_zero] at hr hg
  have hsz : (Try.prog.info? 98).map (fun i => i.size) = some (icells x q qc).length := by rw [item_size, icells_length hg.ok]
  have hsz2 : (Try.prog.info? 98).map (fun i => i.size) = some (icells x q qc).toArray.size := by rw [hsz]; simp
  have hsz3 : (icells ⟨0, [], Fld.zero32⟩ none 0).toArray.size = (icells x q qc).toArray.size := by rw [List.size_toArray, List.size_toArray, icells_length hg.ok, icells_length item0_ok]
  have HA := Lib.hid (show ga < w.heap.size from hs.mem.blk.lt)
  have HS := Lib.hid hs
  have HR := Lib.hid hr
  have HG := Lib.hid hg
  have HO := Lib.hid ho
  have HN := Lib.hid hn
  obtain ⟨p', no, m, xn, pf⟩ := pfacts hs hg0 hn ho hb hle
  have PF := Lib.hid pf
  have t98 : (c == 98) = false := by simpa using h98
  have t100 : (c == 100) = false := by simpa using h100
  have HENC := Lib.hid (show Fld.enc c x = Fld.num xn by unfold Fld.enc; rw [if_neg h98, if_neg h100, ← pf.hxn]; rfl)
  clear h98 h100
  clear hs hr hg hg0 ho hn hb pf
  go_enter Try.func68, Try.ntmps68
  go_wp2_with (first
    | (refine BigFrame.wpList_want rfl (fun K hK => wp_load_mid 98 (.tmp 20) rfl b off rfl _ _ HR.out Try.underlying98 rfl hsz (hK _ _ ?_)))
    | (go_at_call 76; refine (named_is true c x q qc _ HG.out.ok HO.out).mono ?_; rintro e w1 ⟨rfl, hb1⟩; have c0' : w1.cell? ⟨ga, 0, none⟩ = some (.slice (some ⟨b, off, none⟩) (n + 1) cap) := (hb1.cell HA.out).trans c0; have HR1 := Lib.hid (range_belowF HR.out hb1); have HB1 := Lib.hid hb1; clear hb1)
    | (refine wpList_load_mid rfl 98 (.tmp 29) rfl b off rfl _ _ HR1.out Try.underlying98 rfl hsz ?_)
    | (refine wpList_alloc_arr rfl 98 rfl _ item_info ?_)
    | (refine wpList_store_row rfl 98 _ _ rfl _ _ rfl rfl 98 _ (heap_alloc_new _ _) hsz2 hsz3 (icells_all _ _ _) ?_; rw [World.setRow_alloc_new]; have K3 := Blk.new w1 (icells x q qc).toArray 98; have B3 : Below w.heap.size w (w1.alloc (Obj.cells (icells x q qc).toArray 98)) := HB1.out.alloc HB1.out.size _; have hgx : w.heap.size ≤ w1.heap.size := HB1.out.size; generalize w1.alloc (Obj.cells (icells x q qc).toArray 98) = w3 at *; generalize w1.heap.size = gx at *; rw [List.toList_toArray] at K3; have HK3 := Lib.hid K3; have HB3 := Lib.hid B3; have d0 : w3.cell? ⟨ga, 0, none⟩ = some (.slice (some ⟨b, off, none⟩) (n + 1) cap) := (B3.cell HA.out).trans c0; clear K3 B3)
    | (refine wpList_load_mid rfl 98 (.tmp 6) rfl gx 0 rfl _ _ HK3.out.range Try.underlying98 rfl hsz ?_)
    | (have _t := tk1; refine wpList_slice_run rfl 55 (.tmp 41) _ _ rfl _ (PF.out.cut _) ?_; clear tk1 _t)
    | (go_at_call 77; refine (bounded_is 0 c x q qc _ HG.out.ok hc PF.out.bd).mono ?_; rintro e w4 ⟨rfl, hb4⟩; have hb5 := HB3.out.trans (hb4.mono HB3.out.size); have HS4 := Lib.hid (HS.out.below_on hb5); have d1 : w4.cell? ⟨ga, 0, none⟩ = some (.slice (some ⟨b, off, none⟩) (n + 1) cap) := (hb5.cell HA.out).trans c0; have f1 : w4.frozen? ⟨ga, 0, none⟩ = false := HS4.out.mem.blk.free 0; have d2 : w4.cell? ⟨ga, 1, none⟩ = some v := HS4.out.mem.blk.cell 1; have hgne : gx ≠ ga := (by have := HA.out; omega); have hit := HK3.out.below hb4 HK3.out.lt; have e0 : w4.cell? ⟨gx, 0, none⟩ = some (.int .i64 xn) := (by rw [PF.out.hxn]; exact (hit.cell 0).trans (icells_0 _ _ _)); have e1 : w4.cell? ⟨gx, 1, none⟩ = some (.slice q m qc) := (by rw [PF.out.hm]; exact (hit.cell 1).trans (icells_1 _ _ _)); have HST := Lib.hid (show PStep w0 w ga gx p' n (cap - 1) v out x q qc (w4.setCell ⟨ga, 0, none⟩ (.slice p' n (cap - 1))) from ⟨wmem_left HS4.out.mem _, hit.setOther _ _ hgne, hgne, HS4.out.below.setCell HS4.out.mem.base _, others_set (others_of_below _ _ hb5) 0 _⟩); have tk1 : True := trivial; clear hb4 hb5 hit)
    | (go_at_call 78; refine (wnum_any _ ga _ v out xn _ HST.out.mem (by have := PF.out.xn1; have := PF.out.m1; omega) (by rw [← PF.out.hno]; have := PF.out.no1; omega)).mono ?_; rintro e w6 ⟨rfl, v6, hm6, hb6, ho6⟩; have HST6 := Lib.hid (HST.out.done hm6 hb6 ho6); clear hm6 hb6 ho6; have g0 : w6.cell? ⟨gx, 0, none⟩ = some (.int .i64 xn) := (by rw [PF.out.hxn]; exact (HST6.out.item.cell 0).trans (icells_0 _ _ _)); have g1 : w6.cell? ⟨gx, 1, none⟩ = some (.slice q m qc) := (by rw [PF.out.hm]; exact (HST6.out.item.cell 1).trans (icells_1 _ _ _)); have g2 : w6.cell? ⟨ga, 1, none⟩ = some v6 := HST6.out.mem.blk.cell 1; have g3 : w6.frozen? ⟨ga, 1, none⟩ = false := HST6.out.mem.blk.free 1))
  go_ret2
  exact ⟨by rw [PF.out.put, PF.out.hxn]; rfl, by rw [PF.out.put]; exact ⟨p', cap - 1, _, by rw [HENC.out, ← HN.out]; exact HST6.out.mem, PF.out.items, by rw [← HN.out]; omega, by omega, PF.out.nil, HST6.out.below, by have h1 := HS.out.small; have h2 := PF.out.enc; simp only [List.length_cons, List.length_append] at h1 ⊢; omega⟩, HST6.out.others⟩
end
section
set_option linter.unusedSimpArgs false
set_option linter.unusedVariables false
open Go.RowKit Sha
open Fld (Itm)
theorem WMem.drew {B ga : Nat} {L v : Value} {out : List Int} {w : World} (h : WMem B ga L v out w) : WMem B ga L v out w.drew := h.carry ⟨Nat.le_refl _, fun _ _ _ _ h => h⟩
theorem WMem.app {B ga : Nat} {L v v' : Value} {out news : List Int} {w w' : World} (h : WMem B ga L v out w) (hg : w.grownBy w' v.ownBlock) (hs : B ≤ w'.heap.size)
    (k : Nat) (hk : k = news.length) (hown : Own8 w' B 5 v' (out.length + k) (out.map v8 ++ news.map v8)) : WMem B ga L v' (out ++ news) (w'.setCell ⟨ga, 1, none⟩ v') :=
  ⟨(h.grow0 hg).set 1 v', by
    subst hk
    have := own8_set hown (h.grow0 hg) w_ne 1 v'
    rwa [← List.length_append, ← List.map_append] at this, h.base, by simpa using hs⟩
set_option maxRecDepth 100000 in
set_option maxHeartbeats 4000000 in
theorem put_b (w0 : World) (ga : Nat) (out : List Int) (x : Itm) (l : List Itm) (w : World) (h : WAt w0 ga (out, x :: l) w) (ho : Fld.okFor 98 x = true) (hb : Fld.bound 98 x = 0) :
    Calls Try.prog 68 #[.pointer (some ⟨ga, 0, none⟩), .int .i32 98] w (PDone w0 ga 98 (out, x :: l) w) := by
  obtain ⟨p, cap, v, hs⟩ := h
  obtain ⟨n, hn⟩ : ∃ n, n = l.length := ⟨_, rfl⟩
  have c0 : w.cell? ⟨ga, 0, none⟩ = some (.slice p (n + 1) cap) := by rw [hn]; exact hs.mem.blk.cell 0
  obtain ⟨b, off, q, qc, rfl, hr0, hg0⟩ := hs.items.get 0 (by simp)
  have hr := range_belowF hr0 hs.below
  have hg := hg0.below hs.below
  simp only [List.getElem_cons_zero] at hg0
  clear hr0
  have hle : n + 1 ≤ cap := by rw [hn]; exact hs.le
  have hmx := hs.max
  simp only [List.getElem_cons_zero, Nat.zero_mul, Nat.add_zero] at hr hg
  have hsz : (Try.prog.info? 98).map (fun i => i.size) = some (icells x q qc).length := by rw [item_size, icells_length hg.ok]
  have hsz2 : (Try.prog.info? 98).map (fun i => i.size) = some (icells x q qc).toArray.size := by rw [hsz]; simp
  have hsz3 : (icells ⟨0, [], Fld.zero32⟩ none 0).toArray.size = (icells x q qc).toArray.size := by rw [List.size_toArray, List.size_toArray, icells_length hg.ok, icells_length item0_ok]
  have HA := Lib.hid (show ga < w.heap.size from hs.mem.blk.lt)
  have HS := Lib.hid hs
  have HR := Lib.hid hr
  have HG := Lib.hid hg
  have HO := Lib.hid ho
  have HN := Lib.hid hn
  obtain ⟨p', no, m, xn, pf⟩ := pfacts hs hg0 hn ho hb hle
  have PF := Lib.hid pf
  have HENC := Lib.hid (show Fld.enc 98 x = Fld.num m ++ x.B by unfold Fld.enc; rw [if_pos rfl, pf.hm])
  clear hs hr hg hg0 ho hn hb pf
  go_enter Try.func68, Try.ntmps68
  go_wp2_with (first
    | (refine BigFrame.wpList_want rfl (fun K hK => wp_load_mid 98 (.tmp 20) rfl b off rfl _ _ HR.out Try.underlying98 rfl hsz (hK _ _ ?_)))
    | (go_at_call 76; refine (named_is true 98 x q qc _ HG.out.ok HO.out).mono ?_; rintro e w1 ⟨rfl, hb1⟩; have c0' : w1.cell? ⟨ga, 0, none⟩ = some (.slice (some ⟨b, off, none⟩) (n + 1) cap) := (hb1.cell HA.out).trans c0; have HR1 := Lib.hid (range_belowF HR.out hb1); have HB1 := Lib.hid hb1; clear hb1)
    | (refine wpList_load_mid rfl 98 (.tmp 29) rfl b off rfl _ _ HR1.out Try.underlying98 rfl hsz ?_)
    | (refine wpList_alloc_arr rfl 98 rfl _ item_info ?_)
    | (refine wpList_store_row rfl 98 _ _ rfl _ _ rfl rfl 98 _ (heap_alloc_new _ _) hsz2 hsz3 (icells_all _ _ _) ?_; rw [World.setRow_alloc_new]; have K3 := Blk.new w1 (icells x q qc).toArray 98; have B3 : Below w.heap.size w (w1.alloc (Obj.cells (icells x q qc).toArray 98)) := HB1.out.alloc HB1.out.size _; have hgx : w.heap.size ≤ w1.heap.size := HB1.out.size; generalize w1.alloc (Obj.cells (icells x q qc).toArray 98) = w3 at *; generalize w1.heap.size = gx at *; rw [List.toList_toArray] at K3; have HK3 := Lib.hid K3; have HB3 := Lib.hid B3; have d0 : w3.cell? ⟨ga, 0, none⟩ = some (.slice (some ⟨b, off, none⟩) (n + 1) cap) := (B3.cell HA.out).trans c0; clear K3 B3)
    | (refine wpList_load_mid rfl 98 (.tmp 6) rfl gx 0 rfl _ _ HK3.out.range Try.underlying98 rfl hsz ?_)
    | (have _t := tk1; refine wpList_slice_run rfl 55 (.tmp 41) _ _ rfl _ (PF.out.cut _) ?_; clear tk1 _t)
    | (go_at_call 77; refine (bounded_is 0 98 x q qc _ HG.out.ok (Or.inr (Or.inl rfl)) PF.out.bd).mono ?_; rintro e w4 ⟨rfl, hb4⟩; have hb5 := HB3.out.trans (hb4.mono HB3.out.size); have HS4 := Lib.hid (HS.out.below_on hb5); have d1 : w4.cell? ⟨ga, 0, none⟩ = some (.slice (some ⟨b, off, none⟩) (n + 1) cap) := (hb5.cell HA.out).trans c0; have f1 : w4.frozen? ⟨ga, 0, none⟩ = false := HS4.out.mem.blk.free 0; have d2 : w4.cell? ⟨ga, 1, none⟩ = some v := HS4.out.mem.blk.cell 1; have hgne : gx ≠ ga := (by have := HA.out; omega); have hit := HK3.out.below hb4 HK3.out.lt; have e0 : w4.cell? ⟨gx, 0, none⟩ = some (.int .i64 xn) := (by rw [PF.out.hxn]; exact (hit.cell 0).trans (icells_0 _ _ _)); have e1 : w4.cell? ⟨gx, 1, none⟩ = some (.slice q m qc) := (by rw [PF.out.hm]; exact (hit.cell 1).trans (icells_1 _ _ _)); have HST := Lib.hid (show PStep w0 w ga gx p' n (cap - 1) v out x q qc (w4.setCell ⟨ga, 0, none⟩ (.slice p' n (cap - 1))) from ⟨wmem_left HS4.out.mem _, hit.setOther _ _ hgne, hgne, HS4.out.below.setCell HS4.out.mem.base _, others_set (others_of_below _ _ hb5) 0 _⟩); have tk1 : True := trivial; clear hb4 hb5 hit)
    | (go_at_call 78; refine (wnum_any _ ga _ v out m _ HST.out.mem (by have := PF.out.xn1; have := PF.out.m1; omega) (by rw [← PF.out.hno]; have := PF.out.no1; omega)).mono ?_; rintro e w6 ⟨rfl, v6, hm6, hb6, ho6⟩; have HST6 := Lib.hid (HST.out.done hm6 hb6 ho6); clear hm6 hb6 ho6; have g0 : w6.cell? ⟨gx, 0, none⟩ = some (.int .i64 xn) := (by rw [PF.out.hxn]; exact (HST6.out.item.cell 0).trans (icells_0 _ _ _)); have g1 : w6.cell? ⟨gx, 1, none⟩ = some (.slice q m qc) := (by rw [PF.out.hm]; exact (HST6.out.item.cell 1).trans (icells_1 _ _ _)); have g2 : w6.cell? ⟨ga, 1, none⟩ = some v6 := HST6.out.mem.blk.cell 1; have g3 : w6.frozen? ⟨ga, 1, none⟩ = false := HST6.out.mem.blk.free 1))
  go_region_law ((refine step_app8 (by rfl) (.tmp 61) (.tmp 63) 28 (by rfl) w0.heap.size 5 Try.underlying28 kbyte_info v6 _ _ (by rfl) HST6.out.mem.own.drew q m qc ((x.B).map v8) (by rfl) ((PF.out.good.at_.below HST6.out.below).drew) (by rw [List.length_map, PF.out.hm]) PF.out.good.nil (by rw [PF.out.hm]; exact PF.out.good.le) (ints_map _) (by simp only [List.length_append]; rw [← PF.out.hno]; have := PF.out.no1; have := PF.out.m1; have := Fld.num_len m (by rw [show (128 : Nat) ^ 9 = 9223372036854775808 by decide]; have := PF.out.m1; omega); omega) (by unfold maxLen; simp only [List.length_append]; rw [← PF.out.hno]; have := PF.out.no1; have := PF.out.m1; have := Fld.num_len m (by rw [show (128 : Nat) ^ 9 = 9223372036854775808 by decide]; have := PF.out.m1; omega); omega) HST6.out.mem.size ?_; intro va w8 hown8 hg8 hb8 hs8; obtain ⟨g8, c8, rfl, _, _, _, _⟩ := own_form hown8.row (by have := Fld.num_pos m; simp only [List.length_append]; omega); have HM8 := Lib.hid (WMem.app (news := x.B) HST6.out.mem.drew hg8 hs8 _ PF.out.hm hown8); have HO8 := Lib.hid (HST6.out.mem.drew.others0 (Lib.OthersKept.refl _ _ _).drew hg8 : Lib.OthersKept 5 (some ga) w6 w8); have hit := blk_others HST6.out.item HO8.out HST6.out.ne ui_ne; have h0 : w8.cell? ⟨gx, 0, none⟩ = some (.int .i64 xn) := (by rw [PF.out.hxn]; exact (hit.cell 0).trans (icells_0 _ _ _)); have hk := HST6.out.mem.drew.grow0 hg8; have h1 : w8.cell? ⟨ga, 1, none⟩ = some v6 := hk.cell 1; have h2 : w8.frozen? ⟨ga, 1, none⟩ = false := hk.free 1; have hne8 : gx ≠ ga := HST6.out.ne; have HB8 := Lib.hid ((Below.refl w0.heap.size w6).drew.trans hb8); clear hown8 hg8 hb8 hit hk; generalize (out ++ Fld.num m).length + m = nn at *))
  all_goals
    go_wp2_with fail
    have HST8 := Lib.hid (HST6.out.done HM8.out (HB8.out.setCell (p := ⟨ga, 1, none⟩) HST6.out.mem.base _) (others_set HO8.out 1 _))
    go_ret2
    exact ⟨by rw [PF.out.put, PF.out.hxn]; rfl, by rw [PF.out.put]; exact ⟨p', cap - 1, _, by rw [HENC.out, ← HN.out, ← List.append_assoc]; exact HST8.out.mem, PF.out.items, by rw [← HN.out]; omega, by omega, PF.out.nil, HST8.out.below, by have h1 := HS.out.small; have h2 := PF.out.enc; simp only [List.length_cons, List.length_append] at h1 ⊢; omega⟩, HST8.out.others⟩
end
section
set_option linter.unusedSimpArgs false
set_option linter.unusedVariables false
open Go.RowKit Sha
open Fld (Itm)
set_option maxRecDepth 100000 in
set_option maxHeartbeats 4000000 in
theorem put_d (w0 : World) (ga : Nat) (out : List Int) (x : Itm) (l : List Itm) (w : World) (h : WAt w0 ga (out, x :: l) w) (ho : Fld.okFor 100 x = true) (hb : Fld.bound 100 x = 0) :
    Calls Try.prog 68 #[.pointer (some ⟨ga, 0, none⟩), .int .i32 100] w (PDone w0 ga 100 (out, x :: l) w) := by
  obtain ⟨p, cap, v, hs⟩ := h
  obtain ⟨n, hn⟩ : ∃ n, n = l.length := ⟨_, rfl⟩
  have c0 : w.cell? ⟨ga, 0, none⟩ = some (.slice p (n + 1) cap) := by rw [hn]; exact hs.mem.blk.cell 0
  obtain ⟨b, off, q, qc, rfl, hr0, hg0⟩ := hs.items.get 0 (by simp)
  have hr := range_belowF hr0 hs.below
  have hg := hg0.below hs.below
  simp only [List.getElem_cons_zero] at hg0
  clear hr0
  have hle : n + 1 ≤ cap := by rw [hn]; exact hs.le
  have hmx := hs.max
  simp only [List.getElem_cons_zero, Nat.zero_mul, Nat.add_zero] at hr hg
  have hsz : (Try.prog.info? 98).map (fun i => i.size) = some (icells x q qc).length := by rw [item_size, icells_length hg.ok]
  have hsz2 : (Try.prog.info? 98).map (fun i => i.size) = some (icells x q qc).toArray.size := by rw [hsz]; simp
  have hsz3 : (icells ⟨0, [], Fld.zero32⟩ none 0).toArray.size = (icells x q qc).toArray.size := by rw [List.size_toArray, List.size_toArray, icells_length hg.ok, icells_length item0_ok]
  have HA := Lib.hid (show ga < w.heap.size from hs.mem.blk.lt)
  have HS := Lib.hid hs
  have HR := Lib.hid hr
  have HG := Lib.hid hg
  have HO := Lib.hid ho
  have HN := Lib.hid hn
  obtain ⟨p', no, m, xn, pf⟩ := pfacts hs hg0 hn ho hb hle
  have PF := Lib.hid pf
  have HENC := Lib.hid (show Fld.enc 100 x = x.D by unfold Fld.enc; rw [if_neg (by decide), if_pos rfl])
  clear hs hr hg hg0 ho hn hb pf
  go_enter Try.func68, Try.ntmps68
  go_wp2_with (first
    | (refine BigFrame.wpList_want rfl (fun K hK => wp_load_mid 98 (.tmp 20) rfl b off rfl _ _ HR.out Try.underlying98 rfl hsz (hK _ _ ?_)))
    | (go_at_call 76; refine (named_is true 100 x q qc _ HG.out.ok HO.out).mono ?_; rintro e w1 ⟨rfl, hb1⟩; have c0' : w1.cell? ⟨ga, 0, none⟩ = some (.slice (some ⟨b, off, none⟩) (n + 1) cap) := (hb1.cell HA.out).trans c0; have HR1 := Lib.hid (range_belowF HR.out hb1); have HB1 := Lib.hid hb1; clear hb1)
    | (refine wpList_load_mid rfl 98 (.tmp 29) rfl b off rfl _ _ HR1.out Try.underlying98 rfl hsz ?_)
    | (refine wpList_alloc_arr rfl 98 rfl _ item_info ?_)
    | (refine wpList_store_row rfl 98 _ _ rfl _ _ rfl rfl 98 _ (heap_alloc_new _ _) hsz2 hsz3 (icells_all _ _ _) ?_; rw [World.setRow_alloc_new]; have K3 := Blk.new w1 (icells x q qc).toArray 98; have B3 : Below w.heap.size w (w1.alloc (Obj.cells (icells x q qc).toArray 98)) := HB1.out.alloc HB1.out.size _; have hgx : w.heap.size ≤ w1.heap.size := HB1.out.size; generalize w1.alloc (Obj.cells (icells x q qc).toArray 98) = w3 at *; generalize w1.heap.size = gx at *; rw [List.toList_toArray] at K3; have HK3 := Lib.hid K3; have HB3 := Lib.hid B3; have d0 : w3.cell? ⟨ga, 0, none⟩ = some (.slice (some ⟨b, off, none⟩) (n + 1) cap) := (B3.cell HA.out).trans c0; clear K3 B3)
    | (refine wpList_load_mid rfl 98 (.tmp 6) rfl gx 0 rfl _ _ HK3.out.range Try.underlying98 rfl hsz ?_)
    | (have _t := tk1; refine wpList_slice_run rfl 55 (.tmp 41) _ _ rfl _ (PF.out.cut _) ?_; clear tk1 _t)
    | (go_at_call 77; refine (bounded_is 0 100 x q qc _ HG.out.ok (Or.inr (Or.inr (Or.inl rfl))) PF.out.bd).mono ?_; rintro e w4 ⟨rfl, hb4⟩; have hb5 := HB3.out.trans (hb4.mono HB3.out.size); have HS4 := Lib.hid (HS.out.below_on hb5); have d1 : w4.cell? ⟨ga, 0, none⟩ = some (.slice (some ⟨b, off, none⟩) (n + 1) cap) := (hb5.cell HA.out).trans c0; have f1 : w4.frozen? ⟨ga, 0, none⟩ = false := HS4.out.mem.blk.free 0; have d2 : w4.cell? ⟨ga, 1, none⟩ = some v := HS4.out.mem.blk.cell 1; have hgne : gx ≠ ga := (by have := HA.out; omega); have hit := HK3.out.below hb4 HK3.out.lt; have e0 : w4.cell? ⟨gx, 0, none⟩ = some (.int .i64 xn) := (by rw [PF.out.hxn]; exact (hit.cell 0).trans (icells_0 _ _ _)); have e1 : w4.cell? ⟨gx, 1, none⟩ = some (.slice q m qc) := (by rw [PF.out.hm]; exact (hit.cell 1).trans (icells_1 _ _ _)); have HST := Lib.hid (show PStep w0 w ga gx p' n (cap - 1) v out x q qc (w4.setCell ⟨ga, 0, none⟩ (.slice p' n (cap - 1))) from ⟨wmem_left HS4.out.mem _, hit.setOther _ _ hgne, hgne, HS4.out.below.setCell HS4.out.mem.base _, others_set (others_of_below _ _ hb5) 0 _⟩); have tk1 : True := trivial; clear hb4 hb5 hit))
  go_region_law ((refine step_app8 (by rfl) (.tmp 73) (.tmp 75) 28 (by rfl) w0.heap.size 5 Try.underlying28 kbyte_info v _ _ (by rfl) HST.out.mem.own.drew (some ⟨gx, 2, none⟩) 32 32 ((x.D).map v8) (by rfl) (Or.inr ⟨gx, 2, rfl, HST.out.item.rangeId⟩) (by rw [List.length_map, PF.out.good.ok.len]) (by intro h; cases h) (Nat.le_refl _) (ints_map _) (by rw [← PF.out.hno]; have := PF.out.no1; omega) (by unfold maxLen; rw [← PF.out.hno]; have := PF.out.no1; omega) HST.out.mem.size ?_; intro va w8 hown8 hg8 hb8 hs8; obtain ⟨g8, c8, rfl, _, _, _, _⟩ := own_form hown8.row (by have := Nat.zero_le no; omega); have HM8 := Lib.hid (WMem.app (news := x.D) HST.out.mem.drew hg8 hs8 _ PF.out.good.ok.len.symm hown8); have HO8 := Lib.hid (HST.out.mem.drew.others0 (Lib.OthersKept.refl _ _ _).drew hg8 : Lib.OthersKept 5 (some ga) (w4.setCell ⟨ga, 0, none⟩ (.slice p' n (cap - 1))) w8); have hit := blk_others HST.out.item HO8.out HST.out.ne ui_ne; have h0 : w8.cell? ⟨gx, 0, none⟩ = some (.int .i64 xn) := (by rw [PF.out.hxn]; exact (hit.cell 0).trans (icells_0 _ _ _)); have hk := HST.out.mem.drew.grow0 hg8; have h1 : w8.cell? ⟨ga, 1, none⟩ = some v := hk.cell 1; have h2 : w8.frozen? ⟨ga, 1, none⟩ = false := hk.free 1; have hne8 : gx ≠ ga := HST.out.ne; have HB8 := Lib.hid ((Below.refl w0.heap.size (w4.setCell ⟨ga, 0, none⟩ (.slice p' n (cap - 1)))).drew.trans hb8); clear hown8 hg8 hb8 hit hk; generalize out.length + 32 = nn at *))
  all_goals
    go_wp2_with fail
    have HST8 := Lib.hid (HST.out.done HM8.out (HB8.out.setCell (p := ⟨ga, 1, none⟩) HST.out.mem.base _) (others_set HO8.out 1 _))
    go_ret2
    exact ⟨by rw [PF.out.put, PF.out.hxn]; rfl, by rw [PF.out.put]; exact ⟨p', cap - 1, _, by rw [HENC.out, ← HN.out]; exact HST8.out.mem, PF.out.items, by rw [← HN.out]; omega, by omega, PF.out.nil, HST8.out.below, by have h1 := HS.out.small; have h2 := PF.out.enc; simp only [List.length_cons, List.length_append] at h1 ⊢; omega⟩, HST8.out.others⟩
theorem put_any (w0 : World) (ga : Nat) (c : Int) (hc : Fld.isC c) (st : List Int × List Itm) (w : World) (h : WAt w0 ga st w) :
    Calls Try.prog 68 #[.pointer (some ⟨ga, 0, none⟩), .int .i32 c] w (PDone w0 ga c st w) := by
  obtain ⟨out, l⟩ := st
  cases l with
  | nil => exact put_nil w0 ga c out w h
  | cons x l =>
    by_cases ho : Fld.okFor c x = true
    · by_cases hb : Fld.bound c x = 0
      · by_cases h98 : c = 98
        · subst h98; exact put_b w0 ga out x l w h ho hb
        · by_cases h100 : c = 100
          · subst h100; exact put_d w0 ga out x l w h ho hb
          · exact put_n w0 ga c hc out x l w h ho hb h98 h100
      · exact put_bd w0 ga c _ hc out x l w h ho rfl (by simpa using hb)
    · exact put_no w0 ga c out x l w h (by simpa using ho)
end
end Go.Proofs.Yteepaoklibflpaa
