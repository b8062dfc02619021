/-
  The kit's LongItems, SameItem and SameItems.
-/
import Derived.Test.YtgakmkglejddeaaItm
import Derived.Test.YtgakmkglejddeaaStr
import Derived.Deep.RegionLaw
import Derived.WalkSpells
import Derived.IntWalk
import Derived.WalkLawsBesides
namespace Go.Proofs.Ytgakmkglejddeaa
set_option linter.unusedSimpArgs false
set_option linter.unusedVariables false
open Go.RowKit Sha
open Fld (Itm)
def LDone (l : List Itm) (w : World) (e : Ending) (w' : World) : Prop := ∃ b : Bool, e = .returned (.bool b) ∧ (b = false → l.length ≤ 60 ∧ ∀ x ∈ l, x.B.length ≤ 200) ∧ w = w'
set_option maxRecDepth 100000 in
set_option maxHeartbeats 1000000 in
theorem longItems_any (p : Option Addr) (n c : Nat) (l : List Itm) (w : World) (h : Told w p n c l) :
    Calls Try.prog 8 #[.slice p n c] w (LDone l w) := by
  have HT := Lib.hid h
  have hm := h.max
  have hc := h.le
  clear h
  go_enter Try.func8, Try.ntmps8
  go_wp2_with fail
  go_loop [3] (fun i => ∃ k : Nat, k ≤ n ∧ i = .int .i64 k ∧ k ≤ 61 ∧ Hid (∀ x ∈ l.take k, x.B.length ≤ 200)) (fun i => n - (intOf i).toNat)
  case atStart => exact ⟨0, by omega, rfl, by omega, Lib.hid (by simp)⟩
  case round =>
    obtain ⟨k, hk, rfl, hk61, HK⟩ := hrel
    by_cases hlt : k < n
    · by_cases h61 : k < 61
      · obtain ⟨b, off, q, qc, rfl, hr, hg⟩ := HT.out.items.get k (by rw [← HT.out.len]; exact hlt)
        obtain ⟨m, hm2⟩ : ∃ m, m = (l[k]'(by rw [← HT.out.len]; exact hlt)).B.length := ⟨_, rfl⟩
        have c1 : w.cell? ⟨b, off + k * 34 + 1, none⟩ = some (.slice q m qc) := by rw [hm2]; exact hr 1 _ (icells_1 _ _ _)
        have HM2 := Lib.hid hm2
        clear hr hg hm2
        by_cases h200 : 200 < m
        · go_wp2_with fail
          go_ret
          exact ⟨true, rfl, by simp, rfl⟩
        · go_wp2_with fail
          go_round
          case rel =>
            refine ⟨k + 1, by omega, by go_num, by omega, Lib.hid fun x hx => ?_⟩
            rw [List.take_succ_eq_append_getElem (by rw [← HT.out.len]; exact hlt)] at hx
            rcases List.mem_append.1 hx with hx | hx
            · exact HK.out x hx
            · rw [List.mem_singleton.1 hx, ← HM2.out]; omega
          case measure => simp [intOf]; omega
      · go_wp2_with fail
        go_ret
        exact ⟨_, rfl, by have := HT.out.len; simp; omega, rfl⟩
    · obtain rfl : k = n := by omega
      go_wp2_with fail
      go_ret
      refine ⟨_, rfl, fun hb => ?_, rfl⟩
      have hl := HT.out.len
      have h60 : ¬ (60 : Nat) < k := by simp at hb; omega
      exact ⟨by omega, fun x hx => HK.out x (by rw [List.take_of_length_le (by omega)]; exact hx)⟩
end Go.Proofs.Ytgakmkglejddeaa
