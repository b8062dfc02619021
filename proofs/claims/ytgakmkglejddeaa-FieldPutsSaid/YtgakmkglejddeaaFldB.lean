/-
  Which errors an item beyond its letter's bounds has: the contract of bounded.
-/
import Derived.Test.YtgakmkglejddeaaItm
import Derived.Test.YtgakmkglejddeaaFld2
import Derived.WalkSpells
import Derived.IntWalk
import Derived.WalkLawsBesides
namespace Go.Proofs.Ytgakmkglejddeaa
set_option linter.unusedSimpArgs false
set_option linter.unusedVariables false
open Go.RowKit Sha
open Fld (Itm)
set_option maxRecDepth 100000 in
set_option maxHeartbeats 1000000 in
theorem bounded_any (c : Int) (x : Itm) (q : Option Addr) (cap : Nat) (w : World) (hx : x.ok) (hc : Fld.isC c) :
    Calls Try.prog 36 #[.int .i32 c, .agg (icells x q cap).toArray] w fun e w' => e = .returned (.int .i64 (Fld.bound c x)) ∧ Below w.heap.size w w' := by
  have n0 := hx.N0
  have n1 := hx.N1
  obtain ⟨m, hm⟩ : ∃ m, m = x.B.length := ⟨_, rfl⟩
  have HM := Lib.hid hm
  obtain ⟨n, hn⟩ : ∃ n, n = x.N := ⟨_, rfl⟩
  have HN := Lib.hid hn
  rw [← hn] at n0 n1
  have HB := Lib.hid (show Fld.bound c x = if n < 0 ∨ 4611686018427387903 < n then 5 else if 4000 < m ∨ (c = 40 ∧ 4000 < n) then 3 else 0 by rw [hn, hm]; rfl)
  clear hx hm hn
  rcases hc with rfl | rfl | rfl | rfl
  all_goals by_cases h1 : n < 0
  all_goals by_cases h3 : 4611686018427387903 < n
  all_goals by_cases h4 : 4000 < m
  all_goals by_cases h6 : 4000 < n
  all_goals try omega
  all_goals
    go_enter Try.func36, Try.ntmps36
    go_wp2_with (refine wpList_box_new rfl 40 _ rfl _ rfl ?_; intro w1 g K1 B1 G1; have c0 : w1.cell? ⟨g, 0, none⟩ = some (.int .i64 n) := (by rw [HN.out]; exact (K1.cell 0).trans (icells_0 _ _ _)); have c1 : w1.cell? ⟨g, 1, none⟩ = some (.slice q m cap) := (by rw [HM.out]; exact (K1.cell 1).trans (icells_1 _ _ _)); have B1 := Lib.hid B1; clear K1)
    go_ret
    exact ⟨ret_int (by rw [HB.out]; first | (simp [h1, h3, h4, h6]; done) | (simp [h1, h3, h4, h6]; rw [if_neg (by omega), if_neg (by omega)])), B1.out⟩
end Go.Proofs.Ytgakmkglejddeaa
