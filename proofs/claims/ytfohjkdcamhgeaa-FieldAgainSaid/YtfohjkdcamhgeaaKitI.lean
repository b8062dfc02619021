/-
  The kit's LongItems, SameItem and SameItems.
-/
import Derived.Test.YtfohjkdcamhgeaaItm
import Derived.Test.YtfohjkdcamhgeaaStr
import Derived.Deep.RegionLaw
import Derived.WalkSpells
import Derived.IntWalk
import Derived.WalkLawsBesides
namespace Go.Proofs.Ytfohjkdcamhgeaa
set_option linter.unusedSimpArgs false
set_option linter.unusedVariables false
open Go.RowKit Sha
open Fld (Itm)
def LDone (l : List Itm) (w : World) (e : Ending) (w' : World) : Prop := ∃ b : Bool, e = .returned (.bool b) ∧ (b = false → l.length ≤ 60) ∧ w = w'
set_option maxRecDepth 100000 in
set_option maxHeartbeats 1000000 in
theorem longItems_any (p : Option Addr) (n c : Nat) (l : List Itm) (w : World) (h : Told w p n c l) :
    Calls Try.prog 8 #[.slice p n c] w (LDone l w) := by
  have HT := Lib.hid h
  have hm := h.max
  have hc := h.le
  clear h
  go_enter Try.func8, Try.ntmps8
  go_wp2_with fail
  go_loop [3] (fun i => ∃ k : Nat, k ≤ n ∧ i = .int .i64 k) (fun i => n - (intOf i).toNat)
  case atStart => exact ⟨0, by omega, rfl⟩
  case round =>
    obtain ⟨k, hk, rfl⟩ := hrel
    by_cases hlt : k < n
    · by_cases h61 : k < 61
      · obtain ⟨b, off, q, qc, rfl, hr, hg⟩ := HT.out.items.get k (by rw [← HT.out.len]; exact hlt)
        obtain ⟨m, hm2⟩ : ∃ m, m = (l[k]'(by rw [← HT.out.len]; exact hlt)).B.length := ⟨_, rfl⟩
        have c1 : w.cell? ⟨b, off + k * 34 + 1, none⟩ = some (.slice q m qc) := by rw [hm2]; exact hr 1 _ (icells_1 _ _ _)
        clear hr hg hm2
        by_cases h200 : 200 < m
        · go_wp2_with fail
          go_ret
          exact ⟨true, rfl, by simp, rfl⟩
        · go_wp2_with fail
          go_round
          case rel => exact ⟨k + 1, by omega, by go_num⟩
          case measure => simp [intOf]; omega
      · go_wp2_with fail
        go_ret
        exact ⟨_, rfl, by have := HT.out.len; simp; omega, rfl⟩
    · obtain rfl : k = n := by omega
      go_wp2_with fail
      go_ret
      exact ⟨_, rfl, by have := HT.out.len; simp; omega, rfl⟩
end Go.Proofs.Ytfohjkdcamhgeaa
