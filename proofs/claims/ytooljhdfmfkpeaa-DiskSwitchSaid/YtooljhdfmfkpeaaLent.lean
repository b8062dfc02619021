/-
  The kit's LentBytes with its whole block known; OverBytes on a part of a block.
-/
import Derived.Test.YtooljhdfmfkpeaaKit
import Derived.Test.YtooljhdfmfkpeaaOwn8
import Derived.Test.YtooljhdfmfkpeaaObj
namespace Go.Proofs.Ytooljhdfmfkpeaa
set_option linter.unusedSimpArgs false
set_option linter.unusedVariables false
open Go.RowKit Sha
theorem ints8_map (l : List Int) : ∀ u ∈ l.map v8, ∃ n, u = Value.int .u8 n := by
  intro u hu
  obtain ⟨n, _, rfl⟩ := List.mem_map.1 hu
  exact ⟨n, rfl⟩
/-- A list of the call's own as a block: its bytes, its spare room. -/
theorem own8_blk {w : World} {B n : Nat} {e : TypeId} {v : Value} {xs : List Value} (h : Own8 w B e v n xs) (hn : 0 < n) : ∃ g cap rest, v = .slice (some ⟨g, 0, none⟩) n cap ∧ B ≤ g ∧ n ≤ cap ∧ cap ≤ maxLen ∧ n + rest.length = cap ∧ Blk w g (xs ++ rest) e ∧ ∀ u ∈ xs ++ rest, ∃ m, u = Value.int .u8 m := by
  rcases h.row.2 with ⟨_, h0⟩ | ⟨g, cap, cur, rfl, hg, hh, h1, h2, h3, h4⟩
  · omega
  · refine ⟨g, cap, cur.toList.drop n, rfl, hg, h1, h2, by simp; omega, ?_, ?_⟩
    · rw [Nat.mul_one] at h4
      rw [← h4, List.take_append_drop]
      unfold Blk; simpa using hh
    · rw [Nat.mul_one] at h4
      rw [← h4, List.take_append_drop]
      exact ints_row h.ints hh
set_option maxHeartbeats 400000 in
theorem copy8_any (zs : List Int) (n : Nat) (p : Option Addr) (cap : Nat) (w : World) (hn : zs.length = n) (hA : At w p (zs.map v8)) (hc : n ≤ cap) (hp : p = none → cap = 0) (hm : n ≤ 140737488355328) :
    Calls Try.prog 33 #[.slice p n cap] w fun e w' => ∃ v, e = .returned v ∧ Own8 w' w.heap.size 5 v n (zs.map v8) ∧ Below w.heap.size w w' := by
  have HA := Lib.hid hA
  have Hn := Lib.hid hn
  clear hA hn
  have HO := Lib.hid (Own8.mk (World.ownsRow_made (base := w.heap.size) (size := 1) (e := 5) w #[] 0 (Nat.le_refl _) (by decide) rfl) (ints_block (n := 0) (c := 0) (heap_alloc_new _ _) (by simp)))
  go_enter Try.func33, Try.ntmps33
  go_wp2_with (at_builtin; refine wpList_app8 rfl (.tmp 3) (.tmp 4) 32 rfl w.heap.size 5 Try.underlying32 kbyte_info _ 0 [] rfl HO.out p n cap (zs.map v8) rfl (HA.out.alloc _) (by simp [Hn.out]) hp hc (ints8_map _) (by omega) (by unfold maxLen; omega) (by simp) ?_; intro v2 w2 hown2 _ hb2 hs2; simp only [Nat.zero_add, List.nil_append] at hown2)
  go_ret
  exact ⟨_, rfl, hown2, ((Below.refl w.heap.size w).alloc (Nat.le_refl _) _).trans hb2⟩
def LentDone (zs : List Int) (n : Nat) (w : World) (e : Ending) (w' : World) : Prop :=
  ∃ g rest, e = .returned (.slice (some ⟨g, 0, none⟩) n (n + 4)) ∧ Blk w' g ((zs ++ markList).map v8 ++ rest) 5 ∧ (∀ u ∈ (zs ++ markList).map v8 ++ rest, ∃ m, u = Value.int .u8 m) ∧ w.heap.size ≤ g ∧ Below w.heap.size w w'
set_option maxHeartbeats 400000 in
theorem lent8_any (zs : List Int) (n : Nat) (p : Option Addr) (cap : Nat) (w : World) (hn : zs.length = n) (hA : At w p (zs.map v8)) (hc : n ≤ cap) (hp : p = none → cap = 0) (hm : n ≤ 100000000000) :
    Calls Try.prog 39 #[.slice p n cap] w (LentDone zs n w) := by
  have HA := Lib.hid hA
  have Hn := Lib.hid hn
  clear hA hn
  go_enter Try.func39, Try.ntmps39
  go_wp2_with fail
  refine (marks_eq _).mono ?_
  rintro e w1 ⟨q, c1, rfl, hA1, hc1, hc2, hq, hb1⟩
  have HA1 := Lib.hid hA1
  clear hA1
  go_wp2_with fail
  refine (copy8_any zs n p cap w1 Hn.out (HA.out.below hb1) hc hp (by omega)).mono ?_
  rintro e w2 ⟨v, rfl, hown, hb2⟩
  have HO := Lib.hid hown
  clear hown
  go_wp2_with (at_builtin; refine wpList_app8 rfl (.tmp 7) (.tmp 8) 32 rfl w1.heap.size 5 Try.underlying32 kbyte_info v n _ rfl HO.out q 4 c1 (markList.map v8) rfl (HA1.out.below hb2) (by rw [List.length_map, markList_length]) hq hc1 (ints8_map _) (by omega) (by unfold maxLen; omega) hb2.size ?_; intro v2 w3 hown2 _ hb3 hs3; obtain ⟨g, c3, rest, rfl, hg, hgc, hgm, hrl, hbk, hbi⟩ := own8_blk hown2 (by omega); have HBK := Lib.hid hbk; have HBI := Lib.hid hbi; clear hown2 hbk hbi)
  go_ret
  refine ⟨g, rest, rfl, ?_, ?_, Nat.le_trans hb1.size hg, (hb1.trans (hb2.mono hb1.size)).trans (hb3.mono hb1.size)⟩
  · rw [List.map_append]; exact HBK.out
  · rw [List.map_append]; exact HBI.out
set_option maxRecDepth 100000 in
set_option maxHeartbeats 600000 in
/-- Written over: c cells of a block of bytes. -/
theorem overB_any (g n c : Nat) (cs : List Value) (w : World) (hb : Blk w g cs 5) (hc : c ≤ cs.length) (hn : n ≤ c) (hm : c ≤ 1000000000000) (hi : ∀ u ∈ cs, ∃ m, u = Value.int .u8 m) :
    Calls Try.prog 49 #[.slice (some ⟨g, 0, none⟩) n c] w fun e w' => e = .returned (.tuple #[]) ∧ Touch [g] w w' := by
  have HB := Lib.hid hb
  have HI := Lib.hid hi
  have HL := Lib.hid hc
  clear hb hi hc
  go_enter Try.func49, Try.ntmps49
  go_wp2_with fail
  go_loopw [2] (fun i wr => ∃ (k : Nat) (cs : List Value), i = .int .i64 k ∧ k ≤ c ∧ Hid (Blk wr g cs 5) ∧ Hid (c ≤ cs.length) ∧ Hid (∀ u ∈ cs, ∃ n, u = Value.int .u8 n) ∧ Hid (Touch [g] w wr)) (fun i _ => c - (intOf i).toNat)
  case atStart => exact ⟨0, cs, rfl, by omega, HB, HL, HI, Lib.hid (Touch.refl _ _)⟩
  case round =>
    clear HB HI HL
    obtain ⟨k, cs, rfl, hk, HB, HL, HI, HW⟩ := hrel
    by_cases hlt : k < c
    · have hkl : k < cs.length := by have := HL.out; omega
      obtain ⟨u, hu⟩ := HI.out cs[k] (List.getElem_mem hkl)
      have c0 : wr.cell? ⟨g, k, none⟩ = some (.int .u8 u) := by rw [HB.out.cell, List.getElem?_eq_getElem hkl, hu]
      have f0 : wr.frozen? ⟨g, k, none⟩ = false := HB.out.free k
      clear hu hkl
      go_wp2_with fail
      go_roundw
      case rel =>
        refine ⟨k + 1, cs.set k _, by go_num, by omega, Lib.hid (HB.out.set k _), Lib.hid (by rw [List.length_set]; exact HL.out), Lib.hid fun x hx => ?_, Lib.hid (HW.out.setIn (by simp) _)⟩
        rcases List.mem_or_eq_of_mem_set hx with hx | hx
        · exact HI.out x hx
        · exact ⟨_, hx⟩
      case measure => simp [intOf]; omega
    · obtain rfl : k = c := by omega
      go_wp2_with fail
      go_end0
      exact ⟨rfl, HW.out⟩
end Go.Proofs.Ytooljhdfmfkpeaa
