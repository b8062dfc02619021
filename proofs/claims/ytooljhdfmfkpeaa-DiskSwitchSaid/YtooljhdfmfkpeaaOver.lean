/-
  The kit's OverBytes, on a slice of the call's own.
-/
import Derived.Test.YtooljhdfmfkpeaaOwn8
import Derived.Test.YtooljhdfmfkpeaaKitS
namespace Go.Proofs.Ytooljhdfmfkpeaa
set_option linter.unusedSimpArgs false
set_option linter.unusedVariables false
open Go.RowKit Sha
set_option maxRecDepth 100000 in
set_option maxHeartbeats 600000 in
theorem over_keep (B : Nat) (v : Value) (n : Nat) (xs : List Value) (w : World) (h : Own8 w B 5 v n xs) :
    Calls Try.prog 49 #[v] w fun e w' => e = .returned (.tuple #[]) ∧ Below B w w' ∧ (∀ k, some k ≠ v.ownBlock → w'.heap[k]? = w.heap[k]?) ∧ (∀ g cs, v.ownBlock = some g → Blk w g cs 5 → ∃ cs', Blk w' g cs' 5 ∧ cs'.length = cs.length ∧ ∀ u ∈ cs', ∃ n, u = Value.int .u8 n) := by
  rcases h.row.2 with ⟨rfl, rfl⟩ | ⟨g, cap, cur, rfl, hg, hh, h1, h2, h3, h4⟩
  · clear h
    go_enter Try.func49, Try.ntmps49
    go_wp2_with fail
    go_loopw [2] (fun i wr => i = .int .i64 0 ∧ w = wr) (fun i _ => (intOf i).toNat)
    case atStart => exact ⟨rfl, rfl⟩
    case round =>
      obtain ⟨rfl, rfl⟩ := hrel
      go_wp2_with fail
      go_end0
      exact ⟨rfl, Below.refl _ _, fun _ _ => rfl, fun g cs hg _ => by cases hg⟩
  · have hi := ints_row h.ints hh
    have hb : Blk w g cur.toList 5 := by unfold Blk; simpa using hh
    have hl : cur.toList.length = cap := by simp [h3]
    have hm : cap ≤ 9223372036854775807 := by unfold maxLen at h2; omega
    have HB := Lib.hid hb
    have HI := Lib.hid hi
    have HL := Lib.hid hl
    clear h hh h3 h4 hi hb hl h2
    go_enter Try.func49, Try.ntmps49
    go_wp2_with fail
    go_loopw [2] (fun i wr => ∃ (k : Nat) (cs : List Value), i = .int .i64 k ∧ k ≤ cap ∧ Hid (Blk wr g cs 5) ∧ Hid (cs.length = cap) ∧ Hid (∀ u ∈ cs, ∃ n, u = Value.int .u8 n) ∧ Hid (Below B w wr) ∧ Hid (∀ k, k ≠ g → wr.heap[k]? = w.heap[k]?)) (fun i _ => cap - (intOf i).toNat)
    case atStart => exact ⟨0, _, rfl, by omega, HB, HL, HI, Below.refl _ _, Lib.hid (fun _ _ => rfl)⟩
    case round =>
      have HB0 := HB
      have HL0 := HL
      clear HB HI HL
      obtain ⟨k, cs, rfl, hk, HB, HL, HI, HW, HOT⟩ := hrel
      by_cases hlt : k < cap
      · have hkl : k < cs.length := by rw [HL.out]; exact hlt
        obtain ⟨u, hu⟩ := HI.out cs[k] (List.getElem_mem hkl)
        have c0 : wr.cell? ⟨g, k, none⟩ = some (.int .u8 u) := by rw [HB.out.cell, List.getElem?_eq_getElem hkl, hu]
        have f0 : wr.frozen? ⟨g, k, none⟩ = false := HB.out.free k
        clear hu hkl
        go_wp2_with fail
        go_roundw
        case rel =>
          refine ⟨k + 1, cs.set k _, by go_num, by omega, Lib.hid (HB.out.set k _), Lib.hid (by rw [List.length_set]; exact HL.out), Lib.hid fun x hx => ?_, Lib.hid (HW.out.setCell hg _), Lib.hid fun i hi => (Below.heap_setCell _ _ _ _ hi).trans (HOT.out i hi)⟩
          rcases List.mem_or_eq_of_mem_set hx with hx | hx
          · exact HI.out x hx
          · exact ⟨_, hx⟩
        case measure => simp [intOf]; omega
      · obtain rfl : k = cap := by omega
        go_wp2_with fail
        go_end0
        refine ⟨rfl, HW.out, fun i hi => HOT.out i (fun e => hi (by rw [e]; rfl)), fun g' cs' hg' hb' => ?_⟩
        cases hg'
        have e : cs' = cur.toList := by
          have h1 := HB0.out
          unfold Blk at h1 hb'
          have h2 := h1.symm.trans hb'
          injection h2 with h2
          injection h2 with h2 _ _
          have h3 := congrArg Array.toList h2
          simpa using h3.symm
        exact ⟨cs, HB.out, by rw [HL.out, e, HL0.out], HI.out⟩
theorem over_any (B : Nat) (v : Value) (n : Nat) (xs : List Value) (w : World) (h : Own8 w B 5 v n xs) :
    Calls Try.prog 49 #[v] w fun e w' => e = .returned (.tuple #[]) ∧ Below B w w' :=
  (over_keep B v n xs w h).mono fun _ _ h => ⟨h.1, h.2.1⟩
end Go.Proofs.Ytooljhdfmfkpeaa
