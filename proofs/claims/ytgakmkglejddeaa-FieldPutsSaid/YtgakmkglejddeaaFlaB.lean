/-
  The law package of fields: puts, fails, refuses.
-/
import Derived.Test.YtgakmkglejddeaaFlaA
import Derived.Laws.StructEq
namespace Go.Proofs.Ytgakmkglejddeaa
set_option linter.unusedSimpArgs false
set_option linter.unusedVariables false
open Go.RowKit Sha
open Fld (Itm)
theorem own_row {w : World} {B n : Nat} {v : Value} {e : TypeId} {xs : List Value} (h : w.ownsRow B e 1 v n xs) : ∃ q c, v = .slice q n c ∧ xs.length = n ∧ At w q xs ∧ n ≤ c ∧ c ≤ 9223372036854775807 ∧ (q = none → c = 0) := by
  rcases h.2 with ⟨hv, h0⟩ | ⟨g, cap, cur, hv, hg, hh, h1, h2, h3, h4⟩
  · have hx := h.1
    rw [h0] at hx
    have : xs = [] := List.eq_nil_of_length_eq_zero (by simpa using hx)
    subst this
    exact ⟨none, 0, by rw [hv, h0], by simp [h0], At.nil _ _, by omega, by omega, fun _ => rfl⟩
  · refine ⟨_, cap, hv, by simpa using h.1, Or.inr ⟨g, 0, rfl, fun i u hu => ?_⟩, h1, by unfold maxLen at h2; omega, fun h => by cases h⟩
    have := h.cells (g := g) (by rw [hv]; rfl) i u hu
    rwa [Addr.add_mid] at this
set_option maxRecDepth 100000 in
set_option maxHeartbeats 400000 in
theorem puts_true (s : ByteArray) (hs : s.size ≤ maxLen) (b : List Int) (hb : ∀ n ∈ b, 0 ≤ n ∧ n ≤ 255) (q : Option Addr) (m d : Nat) (l : List Itm) (p : Option Addr) (n c : Nat) (w : World)
    (hput : Fld.put (nums s) l = (b, 0)) (hm : b.length = m) (hA : At w q (b.map v8)) (h : Told w p n c l) (hn : n ≤ 100000) :
    Calls Try.prog 23 #[.string s, .slice q m d, .slice p n c] w fun e w' => e = .returned (.bool true) ∧ Below w.heap.size w w' := by
  have HP := Lib.hid hput
  have HA := Lib.hid hA
  have HT := Lib.hid h
  have HB := Lib.hid hb
  clear hput hA h hb
  go_enter Try.func23, Try.ntmps23
  go_wp2_with (go_at_call 11; refine (putF_any s hs l p n c w HT.out.len HT.out.items HT.out.le HT.out.max HT.out.nil hn).mono ?_; rw [HP.out]; rintro e w1 ⟨v, rfl, ho, hb1⟩; obtain ⟨q1, c1, rfl, _, hA1, _, _, _⟩ := own_row ho.row; clear ho; have A1 := Lib.hid hA1; have B1 := Lib.hid hb1; clear hA1 hb1; dsimp only)
  go_wp2_with (go_at_call 13; refine (same_true b m m q1 q _ d w1 hm hm A1.out (HA.out.below B1.out) HB.out).mono ?_; rintro e w2 ⟨rfl, rfl⟩)
  go_ret
  exact ⟨rfl, B1.out⟩
set_option maxRecDepth 100000 in
set_option maxHeartbeats 400000 in
theorem refuses_true (s : ByteArray) (hs : s.size ≤ maxLen) (er : Int) (l : List Itm) (p : Option Addr) (n c : Nat) (w : World)
    (hput : Fld.put (nums s) l = ([], er)) (h : Told w p n c l) (hn : n ≤ 100000) :
    Calls Try.prog 19 #[.string s, .int .i64 er, .slice p n c] w fun e w' => e = .returned (.bool true) ∧ Below w.heap.size w w' := by
  have HP := Lib.hid hput
  have HT := Lib.hid h
  clear hput h
  go_enter Try.func19, Try.ntmps19
  go_wp2_with (first
    | (go_at_call 11; refine (putF_any s hs l p n c w HT.out.len HT.out.items HT.out.le HT.out.max HT.out.nil hn).mono ?_; rw [HP.out]; rintro e w1 ⟨v, rfl, ho, hb1⟩; obtain ⟨q1, c1, rfl, _, hA1, _, _, _⟩ := own_row ho.row; clear ho; have B1 := Lib.hid hb1; clear hA1 hb1; dsimp only))
  go_ret
  exact ⟨rfl, B1.out⟩
set_option maxRecDepth 100000 in
set_option maxHeartbeats 400000 in
theorem fails_true (s : ByteArray) (hs : s.size ≤ maxLen) (er at_ : Int) (k : Nat) (b : List Int) (hb : ∀ n ∈ b, 0 ≤ n ∧ n ≤ 255) (p : Option Addr) (n c : Nat) (w : World)
    (hget : Fld.get (nums s) b = ([], er, k)) (hk : (k : Int) = at_) (hl : b.length = n) (hA : At w p (b.map v8)) (hc : n ≤ c) (hm : c ≤ 9223372036854775807) (hp : p = none → c = 0) (hn : n ≤ 1000000) :
    Calls Try.prog 18 #[.string s, .int .i64 er, .int .i64 at_, .slice p n c] w fun e w' => e = .returned (.bool true) ∧ Below w.heap.size w w' := by
  subst hk
  have HP := Lib.hid hget
  have HA := Lib.hid hA
  have HN := Lib.hid hp
  clear hget hA hp
  go_enter Try.func18, Try.ntmps18
  go_wp2_with (first
    | (go_at_call 21; refine (getF_any s hs b p n c w hl hb HA.out hc hm HN.out hn).mono ?_; rw [HP.out]; rintro e w1 ⟨q1, n1, c1, rfl, ht, hb1⟩; obtain rfl : n1 = 0 := ht.len; have B1 := Lib.hid hb1; clear ht hb1; dsimp only))
  go_ret
  exact ⟨rfl, B1.out.alloc B1.out.size _⟩
end Go.Proofs.Ytgakmkglejddeaa
