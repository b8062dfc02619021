/-
  The kit's copy of a list of numbers.
-/
import Derived.Test.YtfoomffbjjcjjaaNums
namespace Go.Proofs.Ytfoomffbjjcjjaa
set_option linter.unusedSimpArgs false
set_option linter.unusedVariables false
open Go.RowKit Sha
set_option maxHeartbeats 400000 in
theorem copyN_any (zs : List Int) (n : Nat) (p : Option Addr) (cap : Nat) (w : World) (hn : zs.length = n) (h : GoodN w zs p cap) (hm : n ≤ 10000000) :
    Calls Try.prog 11 #[.slice p n cap] w (NumsDone w zs w) := by
  have G := Lib.hid h
  have Hn := Lib.hid hn
  have hc : n ≤ cap := by rw [← hn]; exact h.le
  have hcm := h.max
  have HO := Lib.hid (Own64.mk (World.ownsRow_made (base := w.heap.size) (size := 1) (e := 3) w #[] 0 (Nat.le_refl _) (by decide) rfl) (ints64_block (n := 0) (c := 0) (heap_alloc_new _ _) (by simp)))
  clear h hn
  go_enter Try.func11, Try.ntmps11
  go_wp2_with (at_builtin; refine wpList_app64 rfl (.tmp 3) (.tmp 4) 22 rfl w.heap.size 3 Try.underlying22 knum_info _ 0 [] rfl HO.out p n cap (zs.map v64) rfl (G.out.at_.alloc _) (by rw [List.length_map]; exact Hn.out) G.out.nil hc (ints64_map _) (by omega) (by unfold maxLen; omega) (by simp) ?_; intro v2 w2 hown2 _ hb2 hs2; simp only [Nat.zero_add, List.nil_append] at hown2; have O2 := Lib.hid hown2; have B2 := Lib.hid (((Below.refl w.heap.size w).alloc (Nat.le_refl _) _).trans hb2); clear hown2 hb2)
  go_ret
  exact ⟨_, rfl, by rw [Hn.out]; exact O2.out, B2.out⟩
end Go.Proofs.Ytfoomffbjjcjjaa
