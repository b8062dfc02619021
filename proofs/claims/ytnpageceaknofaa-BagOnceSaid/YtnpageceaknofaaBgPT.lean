/-
  The program's ring of texts: cut, place, at.
-/
import Derived.Test.YtnpageceaknofaaRin
import Derived.Test.YtnpageceaknofaaIter
import Derived.Test.YtnpageceaknofaaBgA
import Derived.Deep.QuietTactic
import Derived.BigQuiet
import Derived.BigRegion
namespace Go.Proofs.Ytnpageceaknofaa
set_option linter.unusedSimpArgs false
set_option linter.unusedVariables false
open Go.RowKit Go.Shelf Sha Rin
def CutDoneT (g f c n : Nat) (w : World) (e : Ending) (w' : World) : Prop :=
  ∃ q1 q2, e = .returned (.tuple #[.slice q1 (min (f + n) c - f) (c - f), .slice q2 (n - (min (f + n) c - f)) c]) ∧ (0 < min (f + n) c - f → q1 = some ⟨g, f, none⟩) ∧ (0 < n - (min (f + n) c - f) → q2 = some ⟨g, 0, none⟩) ∧ ∃ k, w' = w.drewN k
theorem oneT : (Try.prog.info? 9).map (fun i => i.size) = some 1 := by kernel_rfl
set_option maxRecDepth 100000 in
set_option maxHeartbeats 1000000 in
theorem cutT_any (b g : Nat) (p : Option Addr) (c f n : Nat) (w : World) (h2 : w.cell? ⟨b, 2, none⟩ = some (.slice p c c)) (h3 : w.cell? ⟨b, 3, none⟩ = some (.int .i64 f)) (h4 : w.cell? ⟨b, 4, none⟩ = some (.int .i64 n))
    (hp : p = none ∧ c = 0 ∨ p = some ⟨g, 0, none⟩) (hf : f < c ∨ c = 0 ∧ f = 0) (hn : n ≤ c) (hc : c ≤ 2000) :
    Calls Try.prog 54 #[.pointer (some ⟨b, 2, none⟩)] w (CutDoneT g f c n w) := by
  by_cases hw : (c : Int) < (f : Int) + (n : Int)
  · have e1 : min (f + n) c = c := by omega
    have HE := Lib.hid e1
    have hi1 : (0 : Int) ≤ (n : Int) - ((c - f : Nat) : Int) := by omega
    have hi2 : (n : Int) - ((c - f : Nat) : Int) ≤ (c : Int) := by omega
    have hi3 : (f : Int) ≤ (c : Int) := by omega
    have HN := Lib.hid (show ((n : Int) - ((c - f : Nat) : Int)).toNat = n - (c - f) by omega)
    have hcf : ¬ (c = f) := by omega
    have hc0 : ¬ (c = 0) := by omega
    have HP := Lib.hid (show p = some ⟨g, 0, none⟩ by rcases hp with ⟨_, h⟩ | h; omega; exact h)
    have hfc : f ≤ 2000 := by omega
    clear hp hf e1
    go_enter Try.func54, Try.ntmps54
    go_wp2_with fail
    go_quiet (fail)
    go_wp2_with fail
    go_quiet (fail)
    go_wp2_with fail
    go_ret2
    refine ⟨some ⟨g, f, none⟩, some ⟨g, 0, none⟩, ?_, fun _ => rfl, fun _ => rfl, _, World.drewN_drewN _ _ _⟩
    rw [HE.out, HP.out]
    simp [Addr.add_mid]
  · by_cases hc0 : c = 0
    · obtain ⟨rfl, rfl, rfl⟩ : c = 0 ∧ f = 0 ∧ n = 0 := by omega
      clear hp hf
      have hw' : ¬ ((0 : Int) < 0) := by omega
      go_enter Try.func54, Try.ntmps54
      go_wp2_with fail
      go_quiet (fail)
      go_wp2_with fail
      go_quiet (fail)
      go_wp2_with fail
      go_ret2
      refine ⟨p, p, ?_, fun h => by simp at h, fun h => by simp at h, _, World.drewN_drewN _ _ _⟩
      simp
    · have hcf : ¬ (c = f) := by omega
      have HE := Lib.hid (show min (f + n) c = f + n by omega)
      have HP := Lib.hid (show p = some ⟨g, 0, none⟩ by rcases hp with ⟨_, h⟩ | h; omega; exact h)
      have hfc : f ≤ 2000 := by omega
      have hi3 : (f : Int) + (n : Int) ≤ (c : Int) := by omega
      have hn2 : ((f : Int) + (n : Int)).toNat - f = n := by omega
      clear hp hf
      go_enter Try.func54, Try.ntmps54
      go_wp2_with fail
      go_quiet (fail)
      go_wp2_with fail
      go_quiet (fail)
      go_wp2_with fail
      go_ret2
      refine ⟨some ⟨g, f, none⟩, some ⟨g, 0, none⟩, ?_, fun _ => rfl, fun _ => rfl, _, World.drewN_drewN _ _ _⟩
      rw [HE.out, HP.out]
      simp [Addr.add_mid]
set_option maxRecDepth 100000 in
set_option maxHeartbeats 1000000 in
theorem placeT_any (b : Nat) (p : Option Addr) (c f : Nat) (i : Int) (w : World) (h2 : w.cell? ⟨b, 2, none⟩ = some (.slice p c c)) (h3 : w.cell? ⟨b, 3, none⟩ = some (.int .i64 f)) (hf : f < c) (hc : c ≤ 2000) (hi : 0 ≤ i) (hi2 : i ≤ 2000) :
    Calls Try.prog 51 #[.pointer (some ⟨b, 2, none⟩), .int .i64 i] w fun e w' => e = .returned (.int .i64 (((f + i.toNat) % c : Nat) : Int)) ∧ ∃ k, w' = w.drewN k := by
  have hc0 : ¬ ((c : Int) = 0) := by omega
  have HM := Lib.hid (show ((f : Int) + i) % (c : Int) = (((f + i.toNat) % c : Nat) : Int) by
    rw [Int.natCast_emod]; congr 1; omega)
  go_enter Try.func51, Try.ntmps51
  go_wp2_with fail
  go_quiet (fail)
  go_wp2_with fail
  go_ret
  exact ⟨by rw [← HM.out]; rfl, _, rfl⟩
/-- A thing by its number. -/
theorem atT_any (b g : Nat) (p : Option Addr) (c f n : Nat) (l : List ByteArray) (i : Int) (w : World) (h2 : w.cell? ⟨b, 2, none⟩ = some (.slice p c c)) (h3 : w.cell? ⟨b, 3, none⟩ = some (.int .i64 f)) (h4 : w.cell? ⟨b, 4, none⟩ = some (.int .i64 n))
    (hp : p = none ∧ c = 0 ∨ p = some ⟨g, 0, none⟩) (cs : List ByteArray) (hcs : cs.length = c) (hln : l.length = n) (hr : Is cs f l) (hc : c ≤ 2000) (hg : ∀ j x, cs[j]? = some x → w.cell? ⟨g, j, none⟩ = some (Value.string x)) (hi : 0 ≤ i) (hi2 : i < n) :
    Calls Try.prog 50 #[.pointer (some ⟨b, 2, none⟩), .int .i64 i] w fun e w' => e = .returned (Value.string (l.getD i.toNat ByteArray.empty)) ∧ ∃ k, w' = w.drewN k := by
  have hn := hr.le
  rw [hcs, hln] at hn
  have hf : f < c ∨ c = 0 ∧ f = 0 := by rw [← hcs]; exact hr.first
  have HC := Lib.hid (cutT_any b g p c f n w h2 h3 h4 hp hf hn hc)
  obtain ⟨k, rfl⟩ := Int.eq_ofNat_of_zero_le hi
  have hkn : k < n := by omega
  have HV := Lib.hid (show l.getD ((k : Int)).toNat ByteArray.empty = l[k]'(by omega) by rw [Int.toNat_natCast, List.getD_eq_getElem?_getD, List.getElem?_eq_getElem (by omega)]; rfl)
  obtain ⟨x, hx⟩ : ∃ x, x = l[k]'(by omega) := ⟨_, rfl⟩
  rw [← hx] at HV
  by_cases hk : k < min (f + n) c - f
  · have hcell := hg (f + k) _ (hr.front (j := k) (by omega) (by omega))
    rw [← hx] at hcell
    obtain ⟨a, ha⟩ : ∃ a, a = min (f + n) c - f := ⟨_, rfl⟩
    have HA := Lib.hid ha
    rw [← ha] at hk
    clear hr hx hp hg ha
    go_enter Try.func50, Try.ntmps50
    go_wp2_with (go_at_call 54; refine HC.out.mono ?_; rintro e w1 ⟨q1, q2, rfl, hq1, hq2, m, rfl⟩; rw [← HA.out] at hq1 hq2 ⊢; obtain rfl := hq1 (by omega); clear hq1 hq2)
    go_ret
    exact ⟨by rw [HV.out]; rfl, _, rfl⟩
  · have hcell := hg (k - (min (f + n) c - f)) _ (show cs[k - (min (f + n) c - f)]? = some (l[k]'(by omega)) by
      have h1 := hr.back (i := k - (min (f + n) c - f)) (by rw [hcs, hln]; omega)
      rw [h1]; congr 2; rw [hcs]; omega)
    rw [← hx] at hcell
    obtain ⟨a, ha⟩ : ∃ a, a = min (f + n) c - f := ⟨_, rfl⟩
    have HA := Lib.hid ha
    rw [← ha] at hk hcell
    have hkc : k - a < n - a := by omega
    have hia : ((k : Int) - (a : Int)).toNat = k - a := by omega
    have hi3 : (0 : Int) ≤ (k : Int) - (a : Int) := by omega
    have hi4 : (k : Int) - (a : Int) < ((n - a : Nat) : Int) := by omega
    clear hr hx hp hg ha
    go_enter Try.func50, Try.ntmps50
    go_wp2_with (go_at_call 54; refine HC.out.mono ?_; rintro e w1 ⟨q1, q2, rfl, hq1, hq2, m, rfl⟩; rw [← HA.out] at hq1 hq2 ⊢; obtain rfl := hq2 (by omega); clear hq1 hq2)
    go_ret
    exact ⟨by rw [HV.out]; rfl, _, rfl⟩
end Go.Proofs.Ytnpageceaknofaa
