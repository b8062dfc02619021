/-
  The program's frames: bytes gathered into new ones (the library's own texts, walked), Put, Join.
-/
import Derived.Test.YteepaoklibflpaaR19
import Derived.Lib.AppendZeros
namespace Go.Proofs.Yteepaoklibflpaa
section
set_option linter.unusedSimpArgs false
set_option linter.unusedVariables false
open Go.RowKit Sha
def Room0 (w : World) (e : Ending) (w' : World) : Prop := ∃ v, e = .returned v ∧ Own8 w' w.heap.size 5 v 0 [] ∧ Below w.heap.size w w'
set_option maxRecDepth 100000 in
set_option maxHeartbeats 1000000 in
theorem grow_any (n : Nat) (hn : n ≤ 1000000) (w : World) : Calls Try.prog 69 #[.slice none 0 0, .int .i64 n] w (Room0 w) := by
  by_cases h0 : n = 0
  · subst h0
    go_enter Try.func69, Try.ntmps69
    go_wp2_with fail
    go_ret
    exact ⟨_, rfl, Own8.nil _ _ _, Below.refl _ _⟩
  · obtain ⟨i, hi, hz0, hz1, hz2⟩ := info_parts kbyte_info
    have HR := Lib.hid (fun ty => Lib.run_append_nil_zeros (P := Try.prog) w 28 3 ty 5 i (.int .u8 0) .i64 .i64 Try.underlying28 Try.underlying3 hi hz0 n (by omega) (by omega) (by omega) (by rw [hz2]; omega))
    have hcm := grownCap_le_maxLen w n 0 5 (by unfold maxLen; omega)
    have hcn := grownCap_ge w n 0 5
    have HOWN := Lib.hid (World.ownsRow_made (base := w.heap.size) (size := 1) (e := 5) w.drew (Builtin.zeroCells (Value.cells (.int .u8 0)) n ++ Builtin.zeroCells (Value.cells (.int .u8 0)) (grownCap w n 0 5 - n)) (grownCap w n 0 5) (Nat.le_refl _) hcm (by rw [Array.size_append, size_zeroCells, size_zeroCells]; simp [Value.cells]; omega))
    have HINTS := Lib.hid (ints_block (n := 0) (c := grownCap w n 0 5) (heap_alloc_new w.drew (.cells (Builtin.zeroCells (Value.cells (.int .u8 0)) n ++ Builtin.zeroCells (Value.cells (.int .u8 0)) (grownCap w n 0 5 - n)) 5)) (by intro u hu; rw [Array.toList_append, List.mem_append] at hu; rcases hu with hu | hu; exact ints_zero _ u hu; exact ints_zero _ u hu))
    generalize Builtin.zeroCells (Value.cells (.int .u8 0)) n ++ Builtin.zeroCells (Value.cells (.int .u8 0)) (grownCap w n 0 5 - n) = row at *
    generalize grownCap w n 0 5 = cap at *
    unfold maxLen at hcm
    clear hi hz0 hz1 hz2
    go_enter Try.func69, Try.ntmps69
    go_wp2_with (at_builtin; refine Lib.wpList_append_run _ rfl (.tmp 20) (.tmp 21) _ _ rfl _ _ rfl rfl _ _ (HR.out _) ?_)
    go_ret
    exact ⟨_, rfl, ⟨HOWN.out, HINTS.out⟩, ((Below.refl _ w).drew).alloc (Nat.le_refl _) _⟩
theorem flat_take {l : List (List Int)} {k : Nat} (hk : k < l.length) : (l.take (k + 1)).flatten = (l.take k).flatten ++ l[k] := by
  rw [List.take_succ_eq_append_getElem hk, List.flatten_append]; congr 1; simp only [List.flatten_cons, List.flatten_nil, List.append_nil]
theorem flat_le (l : List (List Int)) (k : Nat) : (l.take k).flatten.length ≤ l.flatten.length := by
  conv => rhs; rw [← List.take_append_drop k l]
  rw [List.flatten_append, List.length_append]; omega
/-- New bytes: those of some, one behind the other. -/
def CatDone (w : World) (zs : List Int) (e : Ending) (w' : World) : Prop := ∃ v, e = .returned v ∧ Own8 w' w.heap.size 5 v zs.length (zs.map v8) ∧ Below w.heap.size w w'
theorem Own8.belowS {w w' : World} {B n : Nat} {e : TypeId} {v : Value} {xs : List Value} (h : Own8 w B e v n xs) (hb : Below w.heap.size w w') : Own8 w' B e v n xs :=
  ⟨own_belowS h.row hb, h.ints.carry fun g hg => hb.block g (h.row.lt g hg).2⟩
set_option maxRecDepth 100000 in
set_option maxHeartbeats 1000000 in
theorem concat_any (l : List (List Int)) (p : Option Addr) (n c : Nat) (w : World) (h : Recs w p n c l) (hs : l.flatten.length ≤ 1000000) :
    Calls Try.prog 42 #[.slice p n c] w (CatDone w l.flatten) := by
  have HX := Lib.hid h
  have m1 := h.max
  have m2 := h.le
  clear h
  go_enter Try.func42, Try.ntmps42
  go_wp2_with fail
  go_loop [3, 11] (fun v i => ∃ k : Nat, k ≤ n ∧ i = .int .i64 k ∧ v = .int .i64 ((l.take k).flatten.length : Nat)) (fun _ i => n - (intOf i).toNat)
  case atStart => exact ⟨0, by omega, rfl, by simp⟩
  case round =>
    obtain ⟨k, hk, rfl, rfl⟩ := hrel
    have hfl := flat_le l k
    by_cases hlt : k < n
    · have hkx : k < l.length := by rw [← HX.out.len]; exact hlt
      obtain ⟨b, off, q, d, rfl, a1, hg⟩ := HX.out.get k hkx
      have hft := congrArg List.length (flat_take hkx)
      rw [List.length_append] at hft
      have hfl2 := flat_le l (k + 1)
      generalize l[k].length = m at *
      have HFT := Lib.hid hft
      have hsz : (l.take k).flatten.length + m ≤ 1000000 := by omega
      clear hg hft hfl hfl2
      generalize (l.take k).flatten.length = sz at *
      go_wp2_with fail
      go_round
      case rel => exact ⟨k + 1, by omega, by go_num, by rw [HFT.out]; go_num⟩
      case measure => simp [intOf]; omega
    · obtain rfl : k = n := by omega
      have hq : l.take k = l := List.take_of_length_le (by rw [← HX.out.len]; exact Nat.le_refl _)
      rw [hq]
      clear hq hfl hlt
      obtain ⟨tot, htot⟩ : ∃ t, t = l.flatten.length := ⟨_, rfl⟩
      rw [← htot] at hs ⊢
      have HT := Lib.hid htot
      clear htot
      go_wp2_with (go_at_call 69; refine (grow_any tot hs w).mono ?_; rintro e w1 ⟨v1, rfl, ho1, hb1⟩; have O1 := Lib.hid ho1; have B1 := Lib.hid hb1; clear ho1 hb1)
      go_loopw [6, 27] (fun vv i wr => ∃ (j : Nat) (v : Value), i = .int .i64 j ∧ v = vv ∧ j ≤ k ∧ Hid (Own8 wr w.heap.size 5 v (l.take j).flatten.length ((l.take j).flatten.map v8)) ∧ Hid (Below w.heap.size w wr)) (fun _ i _ => k - (intOf i).toNat)
      case atStart => exact ⟨0, _, rfl, rfl, by omega, O1, B1⟩
      case round =>
        obtain ⟨j, v, rfl, rfl, hj, HO, HB⟩ := hrel
        by_cases hlt : j < k
        · have hjx : j < l.length := by rw [← HX.out.len]; exact hlt
          obtain ⟨b, off, q, d, rfl, a1, hg⟩ := (HX.out.below HB.out).get j hjx
          have hft := flat_take hjx
          have hfl := flat_le l j
          have hfl2 := flat_le l (j + 1)
          have hftl := congrArg List.length hft
          rw [List.length_append] at hftl
          obtain ⟨x, hx⟩ : ∃ x, x = l[j] := ⟨_, rfl⟩
          rw [← hx] at a1 hg hft hftl
          have HFT := Lib.hid hft
          have G := Lib.hid hg
          have HL := Lib.hid hftl
          have hlim : (l.take j).flatten.length + x.length ≤ 1000000 := by have := HT.out; omega
          obtain ⟨m, hm⟩ : ∃ m, m = x.length := ⟨_, rfl⟩
          rw [← hm] at a1 hlim
          have HM := Lib.hid hm
          clear hft hg hx hjx hm hftl hfl hfl2
          generalize (l.take j).flatten = out at *
          generalize out.length = no at *
          go_wp2_with (at_builtin; refine wpList_app8 rfl (.tmp 31) (.tmp 32) 28 rfl w.heap.size 5 Try.underlying28 kbyte_info v _ _ rfl HO.out q m d (x.map v8) rfl G.out.at_ (by rw [List.length_map]; exact HM.out.symm) G.out.nil (by rw [HM.out]; exact G.out.le) (ints_map _) (by omega) (by unfold maxLen; omega) HB.out.size ?_; intro v4 w4 hown4 _ hb4 hs4; have O4 := Lib.hid hown4; have B4 := Lib.hid (HB.out.trans hb4); clear hown4 hb4)
          go_roundw
          case rel => exact ⟨j + 1, _, by go_num, rfl, by omega, Lib.hid (by have := O4.out; rw [HM.out, ← HL.out, ← List.map_append, ← HFT.out] at this; exact this), B4⟩
          case measure => simp [intOf]; omega
        · obtain rfl : j = k := by omega
          have hq : l.take j = l := List.take_of_length_le (by rw [← HX.out.len]; exact Nat.le_refl _)
          rw [hq] at HO
          clear hq
          go_wp2_with fail
          go_ret
          exact ⟨v, rfl, HO.out, HB.out⟩
theorem run_nil_eq (w : World) (p : Option Addr) (n c : Nat) : (binOp .eql 28 (.slice p n c) (.slice none 0 0)).run Try.prog w = .ok (.bool p.isNone) w := Lib.run_eql_slice_nil w _ _ p n c 0 0 Try.underlying28
set_option maxRecDepth 100000 in
set_option maxHeartbeats 1000000 in
theorem bclone_any (zs : List Int) (n : Nat) (p : Option Addr) (cap : Nat) (w : World) (hn : zs.length = n) (h : GoodS w (zs, p, cap)) (hs : n ≤ 1000000) :
    Calls Try.prog 31 #[.slice p n cap] w (CatDone w zs) := by
  have G := Lib.hid h
  have HN := Lib.hid hn
  have hm := h.max
  have hc : n ≤ cap := by rw [← hn]; exact h.le
  simp only at hm
  have q := fun w n c => run_nil_eq w p n c
  cases p with
  | none =>
    have h0 := h.nil rfl
    simp only at h0
    subst h0
    obtain rfl : n = 0 := by omega
    have hz : zs = [] := List.eq_nil_of_length_eq_zero hn
    subst hz
    clear h hn
    go_enter Try.func31, Try.ntmps31
    go_wp2_with fail
    go_ret
    exact ⟨_, rfl, Own8.nil _ _ _, Below.refl _ _⟩
  | some a =>
    have H0 := Lib.hid (Own8.mk (World.ownsRow_made (base := w.heap.size) (size := 1) (e := 5) w #[] 0 (Nat.le_refl _) (by decide) rfl) (ints_block (n := 0) (c := 0) (heap_alloc_new _ _) (by simp)))
    clear h hn
    go_enter Try.func31, Try.ntmps31
    go_wp2_with (at_builtin; refine wpList_app8 rfl (.tmp 5) (.tmp 6) 28 rfl w.heap.size 5 Try.underlying28 kbyte_info _ 0 [] rfl H0.out (some a) n cap (zs.map v8) rfl (G.out.at_.alloc _) (by rw [List.length_map]; exact HN.out) G.out.nil hc (ints_map _) (by omega) (by unfold maxLen; omega) (by simp) ?_; intro v4 w4 hown4 _ hb4 hs4; have O4 := Lib.hid hown4; have B4 := Lib.hid (((Below.refl _ w).alloc (Nat.le_refl _) _).trans hb4); clear hown4 hb4)
    go_ret
    exact ⟨v4, rfl, by have := O4.out; rw [Nat.zero_add, List.nil_append] at this; rw [HN.out]; exact this, B4.out⟩
theorem hd_bytes (zs : List Int) : ∀ n ∈ hd zs, 0 ≤ n ∧ n ≤ 255 := ((Frm.le4_bytes _).append (Frm.le4_bytes _))
theorem hd_flat (zs : List Int) : [hd zs, zs].flatten = Frm.fr zs := by
  simp only [List.flatten_cons, List.flatten_nil, List.append_nil]; rfl
set_option maxRecDepth 100000 in
set_option maxHeartbeats 1000000 in
theorem fput_any (zs : List Int) (n : Nat) (p : Option Addr) (cap : Nat) (w : World) (hn : zs.length = n) (h : GoodS w (zs, p, cap)) :
    Calls Try.prog 23 #[.slice p n cap] w (FDone8 w (Frm.put zs)) := by
  have G := Lib.hid h
  have HN := Lib.hid hn
  have hm := h.max
  have hc : n ≤ cap := by rw [← hn]; exact h.le
  simp only at hm
  clear h
  by_cases h0 : n = 0
  · have HP := Lib.hid (fput_no (b := zs) (by rw [fbad_nil (by rw [hn]; exact h0)]; omega))
    rw [fbad_nil (by rw [hn]; exact h0)] at HP
    subst h0
    clear hn
    go_enter Try.func23, Try.ntmps23
    go_wp2_with fail
    go_ret2
    exact ⟨.slice none 0 0, by rw [HP.out]; rfl, by rw [HP.out]; exact Own8.nil _ _ _, Below.refl _ _⟩
  · by_cases h4 : 4000 < n
    · have HP := Lib.hid (fput_no (b := zs) (by rw [fbad_long (by rw [hn]; exact h4)]; omega))
      rw [fbad_long (by rw [hn]; exact h4)] at HP
      have h0' : ((n : Int) == 0) = false := by rw [beq_eq_false_iff_ne]; omega
      clear hn h0
      go_enter Try.func23, Try.ntmps23
      go_wp2_with fail
      go_ret2
      exact ⟨.slice none 0 0, by rw [HP.out]; rfl, by rw [HP.out]; exact Own8.nil _ _ _, Below.refl _ _⟩
    · have HP := Lib.hid (fput_yes (b := zs) (fbad_ok (by rw [hn]; exact h0) (by omega)))
      have h0' : ((n : Int) == 0) = false := by rw [beq_eq_false_iff_ne]; omega
      have HH := Lib.hid (headOf_any zs n p cap w hn G.out (by omega))
      have hsz0 : (Try.prog.info? 72).map (fun i => i.size) = some [v8 0, v8 0, v8 0, v8 0, v8 0, v8 0, v8 0, v8 0].toArray.size := by rw [sizeHead]; rfl
      have HFL := Lib.hid (hd_length zs)
      clear hn h0
      go_enter Try.func23, Try.ntmps23
      go_wp2_with (first
        | (go_at_call 30; refine HH.out.mono ?_; rintro e w1 ⟨rfl, hb1⟩; have B1 := Lib.hid hb1; clear hb1; have tk1 : True := trivial)
        | (refine wpList_alloc_arr rfl 72 rfl _ infoHead ?_)
        | (refine wpList_store_row rfl 72 _ _ rfl _ _ rfl rfl _ _ (Blk.new _ _ _) hsz0 (by simp [HFL.out]) (by simp [Value.oneCell']) ?_))
      have K1 : Blk ((w1.alloc (Obj.cells #[v8 0, v8 0, v8 0, v8 0, v8 0, v8 0, v8 0, v8 0] 72)).setRow w1.heap.size ((hd zs).map v8).toArray) w1.heap.size ((hd zs).map v8) 72 := (Blk.new _ _ _).row _
      have B2 : Below w.heap.size w ((w1.alloc (Obj.cells #[v8 0, v8 0, v8 0, v8 0, v8 0, v8 0, v8 0, v8 0] 72)).setRow w1.heap.size ((hd zs).map v8).toArray) := Below.setRow (B1.out.alloc B1.out.size _) B1.out.size _
      have hs2 : w1.heap.size + 1 = ((w1.alloc (Obj.cells #[v8 0, v8 0, v8 0, v8 0, v8 0, v8 0, v8 0, v8 0] 72)).setRow w1.heap.size ((hd zs).map v8).toArray).heap.size := by simp
      rw [hs2]
      obtain ⟨w2, hw2⟩ : ∃ x, x = (w1.alloc (Obj.cells #[v8 0, v8 0, v8 0, v8 0, v8 0, v8 0, v8 0, v8 0] 72)).setRow w1.heap.size ((hd zs).map v8).toArray := ⟨_, rfl⟩
      rw [← hw2] at K1 B2 ⊢
      clear hs2 hw2
      generalize w1.heap.size = g1 at *
      have hsub := (Below.refl w2.heap.size w2).alloc (Nat.le_refl _) (Obj.cells #[Value.slice (some ⟨g1, 0, none⟩) 8 8, Value.slice p n cap] 28)
      have GH : GoodS w2 (hd zs, some ⟨g1, 0, none⟩, 8) := ⟨hd_bytes zs, Or.inr ⟨g1, 0, rfl, fun i v hi => by rw [Nat.zero_add, K1.cell]; exact hi⟩, by simp only; rw [hd_length]; omega, by simp, fun h => by cases h⟩
      have R2 : Recs (w2.alloc (Obj.cells #[Value.slice (some ⟨g1, 0, none⟩) 8 8, Value.slice p n cap] 28)) (some ⟨w2.heap.size, 0, none⟩) 2 2 [hd zs, zs] :=
        ⟨rfl, Nat.le_refl _, by omega, fun h => (by cases h), [(hd zs, some ⟨g1, 0, none⟩, 8), (zs, p, cap)], rfl, by
          have h1 := at_mark w2 [Value.slice (some ⟨g1, 0, none⟩) 8 8, Value.slice p n cap] 28 (0, 0)
          simp only [List.map_cons, List.map_nil, cellS, hd_length, HN.out]
          exact h1, fun y hy => by
          rcases List.mem_cons.1 hy with rfl | hy
          · exact GH.below hsub
          · rcases List.mem_singleton.1 hy with rfl
            exact (G.out.below B2).below hsub⟩
      refine (concat_any [hd zs, zs] _ 2 2 _ R2 (by rw [hd_flat, Frm.fr_length, HN.out]; omega)).mono ?_
      rw [hd_flat]
      rintro e w5 ⟨v5, rfl, ho5, hb5⟩
      have O5 := Lib.hid ho5
      have B5 := Lib.hid ((B2.trans (hsub.mono B2.size)).trans (hb5.mono (by have := B2.size; simp; omega)))
      have HSZ := Lib.hid B2.size
      clear ho5 hb5 R2 GH hsub K1 B2
      go_wp2_with fail
      go_ret2
      exact ⟨v5, by rw [HP.out]; rfl, by rw [HP.out]; exact ⟨own_weak O5.out.row (by have := HSZ.out; simp; omega), O5.out.ints⟩, B5.out⟩
end
end Go.Proofs.Yteepaoklibflpaa
