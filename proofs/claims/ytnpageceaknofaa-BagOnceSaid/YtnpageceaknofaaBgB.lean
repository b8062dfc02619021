/-
  The reference's bag does what bags are asked to do.
-/
import Derived.Test.YtnpageceaknofaaBgA
import Derived.Deep.QuietTactic
import Derived.BigQuiet
import Derived.Deep.AppendLies
import Derived.Deep.RegionLaw
namespace Go.Proofs.Ytnpageceaknofaa
set_option linter.unusedSimpArgs false
set_option linter.unusedVariables false
open Go.RowKit Sha Bag
def RefBag : BagRep Int := fun w b fp s => ∃ v, fp = b :: v.ownBlock.toList ∧ Blk w b [v64 s.1, v] 42 ∧ w.ownsRow 0 3 1 v s.2.length (s.2.map v64) ∧ (∀ n ∈ s.2, numK.fit n) ∧ s.2.length ≤ s.1 ∧ s.1 ≤ 2000 ∧ v.ownBlock ≠ some b
theorem RefBag.low {w : World} {b : Nat} {fp : List Nat} {s : Nat × List Int} (h : RefBag w b fp s) : ∀ k ∈ fp, k < w.heap.size := by
  obtain ⟨v, rfl, hb, ho, _⟩ := h
  intro k hk
  rcases List.mem_cons.1 hk with rfl | hk
  · exact hb.lt
  · exact (ho.lt k (by simpa using hk)).2
theorem row_blocks {w w' : World} {B n : Nat} {e : TypeId} {v : Value} {xs : List Value} (h : w.ownsRow B e 1 v n xs) (hk : ∀ g, v.ownBlock = some g → w'.heap[g]? = w.heap[g]?) : w'.ownsRow B e 1 v n xs := by
  refine ⟨h.1, ?_⟩
  rcases h.2 with h' | ⟨g, cap, cur, hv, hgB, hh, h4⟩
  · exact .inl h'
  · exact .inr ⟨g, cap, cur, hv, hgB, by rw [hk g (by rw [hv]; rfl)]; exact hh, h4⟩
theorem RefBag.keep {w w' : World} {b : Nat} {fp : List Nat} {s : Nat × List Int} (h : RefBag w b fp s) (hk : ∀ k ∈ fp, w'.heap[k]? = w.heap[k]?) : RefBag w' b fp s := by
  obtain ⟨v, rfl, hb, ho, h1, h2, h3, h4⟩ := h
  exact ⟨v, rfl, (hk b (by simp)).trans hb, row_blocks ho fun g hg => hk g (by simp [hg]), h1, h2, h3, h4⟩
theorem refHeld : Held RefBag := ⟨fun h => h.low, fun h hk => h.keep hk⟩
set_option maxHeartbeats 400000 in
theorem bnew_any (n : Int) (w : World) (hn : -9223372036854775808 ≤ n ∧ n ≤ 9223372036854775807) : Calls Try.prog 9 #[v64 n] w (BNewDone RefBag n w) := by
  obtain ⟨h1, h2⟩ := hn
  by_cases ho : n < 0 ∨ 2000 < n
  · have HE := Lib.hid (newE_out ho)
    by_cases h0 : n < 0
    · clear ho
      go_enter Try.func9, Try.ntmps9
      go_wp2_with fail
      go_ret2
      exact ⟨Below.refl _ _, .inr ⟨HE.out, rfl⟩⟩
    · have h3 : 2000 < n := by omega
      clear ho
      go_enter Try.func9, Try.ntmps9
      go_wp2_with fail
      go_ret2
      exact ⟨Below.refl _ _, .inr ⟨HE.out, rfl⟩⟩
  · have HE := Lib.hid (newE_in (n := n) (by omega))
    have h0 : ¬ n < 0 := by omega
    have h3 : ¬ 2000 < n := by omega
    clear ho
    go_enter Try.func9, Try.ntmps9
    go_wp2_with fail
    go_ret2
    refine ⟨(Below.refl w.heap.size w).alloc (Nat.le_refl _) _, .inl ⟨HE.out, w.heap.size, [w.heap.size], rfl, ?_, by simp⟩⟩
    refine ⟨.slice none 0 0, rfl, ?_, World.ownsRow_nil _ _ _ _, by simp, by simp, by simp only; omega, by simp [Value.ownBlock]⟩
    have hb := Blk.new w #[.int .i64 n, .slice none 0 0] 42
    simp only [Int.toNat_of_nonneg (show 0 ≤ n by omega)]
    exact hb
set_option maxRecDepth 100000 in
set_option maxHeartbeats 1000000 in
theorem bput_any (b : Nat) (fp : List Nat) (m : Nat) (l : List Int) (x : Int) (w : World) (h : RefBag w b fp (m, l)) (hx : numK.fit x) :
    Calls Try.prog 34 #[optr b, v64 x] w (ODone RefBag b fp (m, putL m l x) (v64 (putE m l)) w) := by
  have HR := Lib.hid h
  obtain ⟨v, hfp, hb, ho, hf, h1, h2, hne⟩ := h
  dsimp only at hb ho hf h1 h2
  obtain ⟨p, cap, hv, hl, hm, hA, hxl, hnil⟩ := own_at ho
  have c0 : w.cell? ⟨b, 0, none⟩ = some (v64 m) := hb.cell 0
  have c1 : w.cell? ⟨b, 1, none⟩ = some v := hb.cell 1
  obtain ⟨n, hn⟩ : ∃ n, n = l.length := ⟨_, rfl⟩
  rw [← hn] at h1 hv ho hl
  have HX := Lib.hid hx
  have HV := Lib.hid hv
  have HN := Lib.hid hn
  have HF := Lib.hid hf
  have HNE := Lib.hid hne
  have HO := Lib.hid ho
  have HB := Lib.hid hb
  have HFP := Lib.hid hfp
  rw [hv] at c1
  clear hx hv hn hf hne ho hb hA hxl hnil hfp hm
  by_cases hlt : n < m
  · have hd : decide ((n : Int) ≥ (m : Int)) = false := decide_eq_false (by omega)
    have HP := Lib.hid (put_room (l := l) (x := x) (m := m) (by rw [← HN.out]; exact hlt))
    have HI := Lib.hid (info_parts knum_info)
    go_enter Try.func34, Try.ntmps34
    go_wp2_with fail
    go_quiet (fail)
    obtain ⟨w1, hw1⟩ : ∃ x, x = w.drewN nq := ⟨_, rfl⟩
    have O1 := Lib.hid (show w1.ownsRow 0 3 1 v n (l.map v64) by rw [hw1]; exact row_blocks HO.out fun _ _ => rfl)
    have B1 := Lib.hid (show Blk w1 b [v64 m, v] 42 by rw [hw1]; exact HB.out)
    have T1 := Lib.hid (show Touch fp w w1 by rw [hw1]; exact (Touch.refl fp w).drewN nq)
    have d1 : w1.cell? ⟨b, 1, none⟩ = some v := B1.out.cell 1
    rw [← hw1]
    clear hw1 c0 c1 HO HB HR
    obtain ⟨i, hi, hz0, hz1, hz2⟩ := HI.out
    have A1 := Lib.hid hi
    have A2 := Lib.hid hz0
    have A3 := Lib.hid hz1
    have A4 := Lib.hid hz2
    clear hi hz0 hz1 hz2 HI
    go_wp2_with (at_builtin; refine wpList_append_lies _ rfl (.tmp 19) (.tmp 21) 38 rfl 0 3 i (.int .i64 0) 1 8 Try.underlying38 A1.out A2.out A3.out A4.out rfl (by omega) v n (l.map v64) rfl (O1.out.alloc _) ⟨w1.heap.size, 0, none⟩ 1 1 [v64 x] rfl rfl (World.news_of_block (cs := #[v64 x]) (t := 3) (fr := (0, 0)) (heap_alloc_new w1 _)) (by simp [Value.oneCell']) (by omega) (by unfold maxLen; omega) (by omega) (by omega) (w1.heap.size + 1) (by simp) ?_; intro g5 cap5 w5 hown5 hgrow5 hat5 hlt5; have b5 := (hgrow5.block b (by have := B1.out.lt; simp; omega) (fun e => HNE.out e.symm)).trans ((heap_alloc_old w1 _ B1.out.lt).trans B1.out); have B5 := Lib.hid (show Blk w5 b [v64 m, v] 42 from b5); have d5 : w5.frozen? ⟨b, 1, none⟩ = false := B5.out.free 1; have e5 : w5.cell? ⟨b, 1, none⟩ = some v := B5.out.cell 1; have G5 := Lib.hid hgrow5; have O5 := Lib.hid hown5; have AT5 := Lib.hid hat5; clear hown5 hgrow5 b5 hat5)
    go_ret
    refine ⟨by rw [HP.out.2]; rfl, b :: [g5], ?_, ?_, ?_⟩
    · refine ⟨.slice (some ⟨g5, 0, none⟩) (n + 1) cap5, rfl, ?_, ?_, ?_, ?_, h2, ?_⟩
      · exact B5.out.set 1 _
      · have h5 := O5.out
        have hg : g5 ≠ b := by
          rcases AT5.out with h | h
          · intro e; exact HNE.out (by rw [h, e])
          · have := B1.out.lt; omega
        have hl2 : (putL m l x).length = n + 1 := by rw [HP.out.1, List.length_append, ← HN.out]; rfl
        have hm2 : (putL m l x).map v64 = l.map v64 ++ [v64 x] := by rw [HP.out.1, List.map_append]; rfl
        dsimp only
        rw [hl2, hm2]
        exact row_blocks h5 fun g e => Below.heap_setCell _ _ _ _ (by cases e; exact hg)
      · intro y hy
        rcases putL_mem hy with h | h
        · exact HF.out y h
        · rw [h]; exact HX.out
      · exact putL_len (by rw [← HN.out]; exact h1)
      · intro e
        have e' : g5 = b := by simpa [Value.ownBlock] using e
        rcases AT5.out with h | h
        · exact HNE.out (by rw [h, e'])
        · have := B1.out.lt; omega
    · have hx1 : Touch fp w1 (w1.alloc (Obj.cells #[v64 x] 3)) := Touch.of_below ((Below.refl w1.heap.size w1).alloc (Nat.le_refl _) _)
      have hx2 : Touch fp (w1.alloc (Obj.cells #[v64 x] 3)) w5 := ⟨G5.out.os, G5.out.tape, G5.out.output, G5.out.size, fun k hk hn => G5.out.block k hk fun e => hn (by rw [HFP.out]; simp [← e])⟩
      exact ((T1.out.trans hx1 (From.refl _ _)).trans hx2 (From.refl _ _)).setIn (by rw [HFP.out]; simp) _
    · intro k hk
      rw [HFP.out]
      simp only [List.mem_cons, List.not_mem_nil, or_false] at hk
      rcases hk with rfl | rfl
      · exact .inl (by simp)
      · rcases AT5.out with h | h
        · exact .inl (by simp [h])
        · exact .inr (by have := T1.out.size; omega)
  · have hd : decide (m ≤ n) = true := decide_eq_true (by omega)
    have HP := Lib.hid (put_full (l := l) (x := x) (m := m) (by rw [← HN.out]; omega))
    go_enter Try.func34, Try.ntmps34
    go_wp2_with fail
    go_quiet (fail)
    go_wp2_with fail
    go_ret
    exact ⟨by rw [HP.out.2]; rfl, fp, by rw [HP.out.1]; exact HR.out.keep fun _ _ => rfl, (Touch.refl fp w).drewN _, From.refl _ _⟩
set_option maxRecDepth 100000 in
set_option maxHeartbeats 1000000 in
theorem bat_any (b : Nat) (fp : List Nat) (m : Nat) (l : List Int) (i : Int) (w : World) (h : RefBag w b fp (m, l)) (hi : -9223372036854775808 ≤ i ∧ i ≤ 9223372036854775807) :
    Calls Try.prog 36 #[optr b, v64 i] w fun e w' => e = .returned (.tuple #[v64 (atV 0 l i), v64 (atE l i)]) ∧ w = w' := by
  obtain ⟨hi1, hi2⟩ := hi
  obtain ⟨v, hfp, hb, ho, hf, h1, h2, hne⟩ := h
  dsimp only at hb ho hf h1 h2
  obtain ⟨p, cap, hv, hl, hm, hA, hxl, hnil⟩ := own_at ho
  have c1 : w.cell? ⟨b, 1, none⟩ = some v := hb.cell 1
  obtain ⟨n, hn⟩ : ∃ n, n = l.length := ⟨_, rfl⟩
  rw [← hn] at h1 hv hl
  have HN := Lib.hid hn
  rw [hv] at c1
  clear hv hn hf hne ho hb hxl hnil hfp hm
  by_cases h0 : i < 0
  · have HP := Lib.hid (at_out (z := (0 : Int)) (l := l) (i := i) (.inl h0))
    go_enter Try.func36, Try.ntmps36
    go_wp2_with fail
    go_ret2
    exact ⟨by rw [HP.out.1, HP.out.2.1]; rfl, rfl⟩
  · by_cases hlt : (n : Int) ≤ i
    · have HP := Lib.hid (at_out (z := (0 : Int)) (l := l) (i := i) (.inr (by rw [← HN.out]; exact hlt)))
      go_enter Try.func36, Try.ntmps36
      go_wp2_with fail
      go_ret2
      exact ⟨by rw [HP.out.1, HP.out.2.1]; rfl, rfl⟩
    · obtain ⟨k, rfl⟩ : ∃ k : Nat, i = k := ⟨i.toNat, by omega⟩
      have hkl : k < l.length := by rw [← HN.out]; omega
      have HP := Lib.hid (at_in (z := (0 : Int)) hkl)
      obtain ⟨g, off, rfl, hcell⟩ := hA.addr (by rw [List.length_map]; omega)
      have d2 : w.cell? ⟨g, off + k, none⟩ = some (v64 l[k]) := hcell k _ (by rw [List.getElem?_map, List.getElem?_eq_getElem hkl]; rfl)
      generalize l[k] = x at *
      have hk : k < n := by omega
      clear hcell hA hkl
      go_enter Try.func36, Try.ntmps36
      go_wp2_with fail
      go_ret2
      exact ⟨by rw [HP.out.1, HP.out.2.1]; rfl, rfl⟩
theorem at_fore {w : World} {g off : Nat} {cs ds : List Value} (h : At w (some ⟨g, off, none⟩) (cs ++ ds)) : At w (some ⟨g, off, none⟩) cs := by
  rcases h with h | ⟨b, o, e, hc⟩
  · exact .inl (List.append_eq_nil_iff.1 h).1
  · cases e
    exact .inr ⟨_, _, rfl, fun i v hi => hc i v (by rw [List.getElem?_append_left (List.getElem?_eq_some_iff.1 hi).1]; exact hi)⟩
theorem at_aft {w : World} {g off : Nat} {cs ds : List Value} (h : At w (some ⟨g, off, none⟩) (cs ++ ds)) : At w (some ⟨g, off + cs.length, none⟩) ds := by
  rcases h with h | ⟨b, o, e, hc⟩
  · exact .inl (List.append_eq_nil_iff.1 h).2
  · cases e
    exact .inr ⟨_, _, rfl, fun i v hi => by rw [Nat.add_assoc]; exact hc (cs.length + i) v (by rw [List.getElem?_append_right (by omega)]; rw [show cs.length + i - cs.length = i by omega]; exact hi)⟩
theorem btake_end {w w6 : World} {b m n : Nat} {fp : List Nat} {v0 v6 v : Value} {xs : List Int} {cs : List Value} (hb : Blk w b [v64 m, v0] 42) (hfp : b ∈ fp) (hB : Below w.heap.size w w6) (hc : xs.map v64 = cs) (ho : w6.ownsRow w.heap.size 3 1 v6 n cs)
    (hf : ∀ y ∈ xs, numK.fit y) (hl : xs.length ≤ m) (hm : m ≤ 2000) : ODone RefBag b fp (m, xs) v w (.returned v) (w6.setCell ⟨b, 1, none⟩ v6) := by
  have hlt := hb.lt
  have hne : v6.ownBlock ≠ some b := fun e => by have := (ho.lt b e).1; omega
  have hn : xs.length = n := by have h1 := ho.1; rw [← hc, List.length_map] at h1; omega
  refine ⟨rfl, b :: v6.ownBlock.toList, ⟨v6, rfl, (hb.below hB hlt).set 1 _, ?_, hf, hl, hm, hne⟩, (Touch.of_below hB).setIn hfp _, ?_⟩
  · dsimp only
    rw [hn, hc]
    have h0 : w6.ownsRow 0 3 1 v6 n cs := by
      refine ⟨ho.1, ?_⟩
      rcases ho.2 with h' | ⟨g, cap, cur, hv, hgB, h4⟩
      · exact .inl h'
      · exact .inr ⟨g, cap, cur, hv, Nat.zero_le _, h4⟩
    exact row_blocks h0 fun g hg => Below.heap_setCell _ _ _ _ (fun e => hne (by rw [hg, e]))
  · intro k hk
    rcases List.mem_cons.1 hk with rfl | hk
    · exact .inl hfp
    · exact .inr (ho.lt k (by simpa using hk)).1
set_option maxRecDepth 100000 in
set_option maxHeartbeats 2000000 in
theorem btake_any (b : Nat) (fp : List Nat) (m : Nat) (l : List Int) (i : Int) (w : World) (h : RefBag w b fp (m, l)) (hi : -9223372036854775808 ≤ i ∧ i ≤ 9223372036854775807) :
    Calls Try.prog 35 #[optr b, v64 i] w (ODone RefBag b fp (m, takeL l i) (.tuple #[v64 (atV 0 l i), v64 (atE l i)]) w) := by
  have HAT := Lib.hid (bat_any b fp m l i w h hi)
  have HR := Lib.hid h
  by_cases ho : i < 0 ∨ (l.length : Int) ≤ i
  · have HP := Lib.hid (at_out (z := (0 : Int)) (l := l) (i := i) ho)
    rw [HP.out.1, HP.out.2.1] at HAT
    rw [HP.out.1, HP.out.2.1, HP.out.2.2]
    clear h ho HP
    go_enter Try.func35, Try.ntmps35
    go_wp2_with (go_at_call 36; refine HAT.out.mono ?_; rintro e w' ⟨rfl, rfl⟩)
    go_ret2
    exact ⟨rfl, fp, HR.out, Touch.refl _ _, From.refl _ _⟩
  · obtain ⟨k, rfl⟩ : ∃ k : Nat, i = k := ⟨i.toNat, by omega⟩
    have hkl : k < l.length := by omega
    have HP := Lib.hid (at_in (z := (0 : Int)) hkl)
    rw [HP.out.1] at HAT
    rw [HP.out.1]
    obtain ⟨y, hy⟩ : ∃ y, y = atV 0 l k := ⟨_, rfl⟩
    rw [← hy] at HAT
    rw [← hy]
    clear hy ho
    obtain ⟨v, hfp, hb, ho, hf, h1, h2, hne⟩ := h
    dsimp only at hb ho hf h1 h2
    obtain ⟨p, cap, hv, hl, hm, hA, hxl, hnil⟩ := own_at ho
    have c1 : w.cell? ⟨b, 1, none⟩ = some v := hb.cell 1
    obtain ⟨n, hn⟩ : ∃ n, n = l.length := ⟨_, rfl⟩
    rw [← hn] at h1 hv hl hkl
    have HN := Lib.hid hn
    rw [hv] at c1 hb
    obtain ⟨g, off, rfl, hcell⟩ := hA.addr (by rw [List.length_map]; omega)
    have HA := Lib.hid hA
    have HF := Lib.hid hf
    have HB := Lib.hid hb
    have HFP := Lib.hid hfp
    unfold maxLen at hm
    have hkc : k ≤ cap := by omega
    have hkn : k + 1 ≤ n := by omega
    have i1 : IntKind.i64.wrap ((k : Int) + 1) = (k : Int) + 1 := IntWalk.i64_in _ (by omega)
    have cd : w.drew.cell? ⟨b, 1, none⟩ = some (.slice (some ⟨g, off, none⟩) n cap) := c1
    have HO := Lib.hid (show Own64 (w.alloc (Obj.cells #[] 3)).drew w.heap.size 3 (.slice (some ⟨w.heap.size, 0, none⟩) 0 0) 0 [] from Own64.mk (World.ownsRow_made (base := w.heap.size) (size := 1) (e := 3) w #[] 0 (Nat.le_refl _) (by decide) rfl) (ints64_block (n := 0) (c := 0) (heap_alloc_new w _) (by simp)))
    have HBA := Lib.hid (show Below w.heap.size w (w.alloc (Obj.cells #[] 3)).drew from ((Below.refl w.heap.size w).alloc (Nat.le_refl _) (Obj.cells #[] 3)).drew)
    have ca : (w.alloc (Obj.cells #[] 3)).cell? ⟨b, 1, none⟩ = some (.slice (some ⟨g, off, none⟩) n cap) := (HB.out.below HBA.out HB.out.lt).cell 1
    have HA1 := Lib.hid (show At w (some ⟨g, off, none⟩) ((l.take k).map v64) from at_fore (ds := (l.drop k).map v64) (by rw [← List.map_append, List.take_append_drop]; exact HA.out))
    have HA2 := Lib.hid (show At w (some ⟨g, off + (k + 1), none⟩) ((l.drop (k + 1)).map v64) from by have h1 := at_aft (cs := (l.take (k + 1)).map v64) (ds := (l.drop (k + 1)).map v64) (w := w) (g := g) (off := off) (by rw [← List.map_append, List.take_append_drop]; exact HA.out); rwa [List.length_map, List.length_take_of_le (by rw [← HN.out]; omega)] at h1)
    obtain ⟨q2, hq2⟩ : ∃ q2, (if cap = k + 1 then some (⟨g, off, none⟩ : Addr) else some ⟨g, off + (k + 1), none⟩) = q2 := ⟨_, rfl⟩
    have HQ := Lib.hid (show At w q2 ((l.drop (k + 1)).map v64) from by
      rw [← hq2]
      split
      · left; rw [List.drop_eq_nil_iff.2 (by rw [← HN.out]; omega)]; rfl
      · exact HA2.out)
    have HQN := Lib.hid (show q2 = none → cap - (k + 1) = 0 from fun h => by rw [← hq2] at h; split at h <;> cases h)
    have j1 : (0 : Int) ≤ (k : Int) + 1 := by omega
    have j2 : (k : Int) + 1 ≤ (n : Int) := by omega
    have HL1 := Lib.hid (show ((l.take k).map v64).length = k by rw [List.length_map, List.length_take_of_le (by rw [← HN.out]; omega)])
    have HL2 := Lib.hid (show ((l.drop (k + 1)).map v64).length = n - (k + 1) by rw [List.length_map, List.length_drop, ← HN.out])
    clear hv hn hf hne ho hb hxl hnil hfp hcell hA hi
    go_enter Try.func35, Try.ntmps35
    go_wp2_with (go_at_call 36; refine HAT.out.mono ?_; rintro e w' ⟨rfl, rfl⟩)
    go_region_law (first | (refine step_app64 (by rfl) (.tmp 17) (.tmp 23) 38 (by rfl) w.heap.size 3 Try.underlying38 knum_info _ 0 [] (by rfl) HO.out (some ⟨g, off, none⟩) k cap ((l.take k).map v64) (by rfl) (HA1.out.below HBA.out) HL1.out (fun h => by cases h) (by omega) (ints64_map _) (by omega) (by unfold maxLen; omega) (by simp) ?_; intro v5 w5 hown5 hg5 hb5 hs5; simp only [Nat.zero_add, List.nil_append] at hown5; have B5 := Lib.hid (HBA.out.trans hb5); have O5 := Lib.hid hown5; have c5 : w5.cell? ⟨b, 1, none⟩ = some (.slice (some ⟨g, off, none⟩) n cap) := (HB.out.below B5.out HB.out.lt).cell 1; clear hown5 hg5 hb5) | (refine step_app64 (by rfl) (.tmp 24) (.tmp 31) 38 (by rfl) w.heap.size 3 Try.underlying38 knum_info v5 k _ (by rfl) O5.out q2 (n - (k + 1)) (cap - (k + 1)) ((l.drop (k + 1)).map v64) (by rfl) (HQ.out.below B5.out) HL2.out HQN.out (by omega) (ints64_map _) (by omega) (by unfold maxLen; omega) (by have := B5.out.size; omega) ?_; intro v6 w6 hown6 hg6 hb6 hs6; obtain ⟨q6, d6, rfl, _, _, _, _, _⟩ := own_at hown6.row; have B6 := Lib.hid (B5.out.trans hb6); have O6 := Lib.hid hown6; have c6 : w6.cell? ⟨b, 1, none⟩ = some (.slice (some ⟨g, off, none⟩) n cap) := (HB.out.below B6.out HB.out.lt).cell 1; have f6 : w6.frozen? ⟨b, 1, none⟩ = false := (HB.out.below B6.out HB.out.lt).free 1; clear hown6 hg6 hb6))
    all_goals go_wp2_with fail
    all_goals go_ret2
    all_goals (refine btake_end HB.out (by rw [HFP.out]; simp) B6.out (xs := takeL l (k : Int)) (by rw [HP.out.2.2]; exact (show (l.take k ++ l.drop (k + 1)).map v64 = _ from List.map_append)) O6.out.row (fun y hy => HF.out y (takeL_mem hy)) (Nat.le_trans (takeL_len l k) (by rw [← HN.out]; exact h1)) h2)
theorem refBagOK : BagOK numK 9 34 35 36 RefBag where
  held := refHeld
  ok := fun h => by obtain ⟨_, _, _, _, hf, h1, h2, _⟩ := h; exact ⟨h1, h2, hf⟩
  new := fun n w hn => bnew_any n w hn
  put := fun b fp m l x w h hx => bput_any b fp m l x w h hx
  take := fun b fp m l i w h hi => btake_any b fp m l i w h hi
  at_ := fun b fp m l i w h hi => (bat_any b fp m l i w h hi).mono (by rintro e w' ⟨rfl, rfl⟩; exact ⟨rfl, fp, h, Touch.refl _ _, From.refl _ _⟩)
end Go.Proofs.Ytnpageceaknofaa
