/-
  GossipOften's question: is no word told more than once more often than another one?
-/
import Derived.Test.YtgohapbobbkaeaaGlC
import Derived.Test.YtgohapbobbkaeaaGsO
import Derived.Deep.QuietTactic
namespace Go.Proofs.Ytgohapbobbkaeaa
set_option linter.unusedSimpArgs false
set_option linter.unusedVariables false
open Go.RowKit Sha
abbrev bcs (tb : List Bool) : List Value := tb.map Value.bool
abbrev ncs (to : List Nat) : List Value := to.map fun (k : Nat) => Value.int .i64 (k : Int)
theorem bcs_get (tb : List Bool) (k : Nat) (h : k < tb.length) : (bcs tb)[k]? = some (.bool (tb.getD k false)) := by
  rw [List.getElem?_map, List.getD_eq_getElem?_getD, List.getElem?_eq_getElem h]; rfl
theorem ncs_get (to : List Nat) (k : Nat) (h : k < to.length) : (ncs to)[k]? = some (.int .i64 ((to.getD k 0 : Nat) : Int)) := by
  rw [List.getElem?_map, List.getD_eq_getElem?_getD, List.getElem?_eq_getElem h]; rfl
set_option maxRecDepth 100000 in
set_option maxHeartbeats 4000000 in
theorem even_any (tb : List Bool) (to : List Nat) (nn c gb gi : Nat) (t1 t2 : TypeId) (w : World) (h1 : tb.length = nn) (h2 : to.length = nn) (hs : nn ≤ 65) (hc : c ≤ 21) (hall : ∀ i, tb.getD i false = true → c ≤ to.getD i 0 ∧ to.getD i 0 ≤ c + 1) (k1 : Blk w gb (bcs tb) t1) (k2 : Blk w gi (ncs to) t2) :
    Calls Try.prog 24 #[.slice (some ⟨gb, 0, none⟩) nn nn, .slice (some ⟨gi, 0, none⟩) nn nn] w (BoolDone true w) := by
  have H1 := Lib.hid h1
  have H2 := Lib.hid h2
  have HA := Lib.hid hall
  have K1 := Lib.hid k1
  have K2 := Lib.hid k2
  clear h1 h2 hall k1 k2
  go_enter Try.func24, Try.ntmps24
  go_wp2_with fail
  go_loopw [5, 6, 7] (fun lv hv iv wr => ∃ (lo hi k : Nat), lv = .int .i64 lo ∧ hv = .int .i64 hi ∧ iv = .int .i64 k ∧ k ≤ nn ∧ c ≤ lo ∧ lo ≤ 1073741824 ∧ hi ≤ c + 1 ∧ Hid (Below w.heap.size w wr)) (fun _ _ iv _ => nn - (intOf iv).toNat)
  case atStart => exact ⟨1073741824, 0, 0, rfl, rfl, rfl, by omega, by omega, by omega, by omega, Lib.hid (Below.refl _ _)⟩
  case round =>
    obtain ⟨lo, hi, k, rfl, rfl, rfl, hk, hlo, hlo2, hhi, HB⟩ := hrel
    by_cases hlt : k < nn
    · have c1 : wr.cell? ⟨gb, k, none⟩ = some (.bool (tb.getD k false)) := ((K1.out.upon HB.out).cell k).trans (bcs_get tb k (by rw [H1.out]; exact hlt))
      have c2 : wr.cell? ⟨gi, k, none⟩ = some (.int .i64 ((to.getD k 0 : Nat) : Int)) := ((K2.out.upon HB.out).cell k).trans (ncs_get to k (by rw [H2.out]; exact hlt))
      have jk : (0 : Int) ≤ (k : Int) ∧ (k : Int) < (nn : Int) := by omega
      have hall := HA.out k
      generalize to.getD k 0 = t at *
      generalize tb.getD k false = z at *
      cases z with
      | false =>
        clear hall
        go_wp2_with fail
        go_roundw
        case rel => exact ⟨lo, hi, k + 1, rfl, rfl, by go_num, by omega, by omega, by omega, by omega, HB⟩
        case measure => simp [intOf]; omega
      | true =>
        obtain ⟨ht1, ht2⟩ := hall rfl
        go_wp2_with fail
        go_quiet (fail)
        have e1 : (if t < lo then (t : Int) else (lo : Int)) = (((if t < lo then t else lo) : Nat) : Int) := by split <;> rfl
        have e2 : (if hi < t then (t : Int) else (hi : Int)) = (((if hi < t then t else hi) : Nat) : Int) := by split <;> rfl
        rw [e1, e2]
        have b1 : c ≤ (if t < lo then t else lo) ∧ (if t < lo then t else lo) ≤ 1073741824 := by split <;> omega
        have b2 : (if hi < t then t else hi) ≤ c + 1 := by split <;> omega
        generalize (if t < lo then t else lo) = lo2 at *
        generalize (if hi < t then t else hi) = hi2 at *
        have B2 := Lib.hid (below_drewN HB.out nq)
        clear e1 e2 hall
        generalize wr.drewN nq = wv at *
        obtain ⟨b1, b3⟩ := b1
        go_wp2_with fail
        go_roundw
        case rel => exact ⟨lo2, hi2, k + 1, rfl, rfl, by go_num, by omega, by omega, by omega, by omega, B2⟩
        case measure => simp [intOf]; omega
    · obtain rfl : k = nn := by omega
      have i1 : IntKind.i64.wrap ((lo : Int) + 1) = (lo : Int) + 1 := IntWalk.i64_in _ (by omega)
      have i2 : decide ((hi : Int) ≤ (lo : Int) + 1) = true := decide_eq_true (by omega)
      have i3 : decide (hi ≤ lo + 1) = true := decide_eq_true (by omega)
      go_wp2_with fail
      go_ret
      exact ⟨rfl, HB.out⟩
end Go.Proofs.Ytgohapbobbkaeaa
