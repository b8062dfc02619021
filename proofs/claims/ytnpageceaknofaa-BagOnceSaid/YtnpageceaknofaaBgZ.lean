/-
  The program's bags: of numbers, of texts, and bags that nobody made.
-/
import Derived.Test.YtnpageceaknofaaBgXN
import Derived.Test.YtnpageceaknofaaBgXT
import Derived.Test.YtnpageceaknofaaBgG
namespace Go.Proofs.Ytnpageceaknofaa
set_option linter.unusedSimpArgs false
set_option linter.unusedVariables false
open Go.RowKit Go.Shelf Sha Rin Bag
theorem numBagOK : NumBagOK ProgBagN := ⟨bagOKN, bagMoreN, copyN_any⟩
theorem textBagOK : TextBagOK ProgBagT := ⟨bagOKT, bagMoreT⟩
theorem noneZ_any (p : Option Addr) (w : World) (h : NoBag p w) : Calls Try.prog 30 #[.pointer p] w fun e w' => e = .returned (.bool true) ∧ w' = w := by
  cases p with
  | none =>
    go_enter Try.func30, Try.ntmps30
    go_wp2_with fail
    go_ret
    exact ⟨rfl, rfl⟩
  | some a =>
    obtain ⟨b, rfl, hb⟩ := h a rfl
    have c0 : w.cell? ⟨b, 0, none⟩ = some (.pointer none) := hb.cell 0
    have hq := run_neq_ptr_nil (P := Try.prog) ⟨b, 0, none⟩ Try.underlying23
    clear h hb
    go_enter Try.func30, Try.ntmps30
    go_wp2_with fail
    go_ret
    exact ⟨rfl, rfl⟩
set_option maxHeartbeats 1000000 in
theorem atZ_any (p : Option Addr) (i : Int) (w : World) (h : NoBag p w) (hi : numK.fit i) : Calls Try.prog 20 #[.pointer p, v64 i] w (StillDone (.tuple #[v64 0, v64 1]) w) := by
  have HC := Lib.hid (noneZ_any p w h)
  clear h hi
  go_enter Try.func20, Try.ntmps20
  go_wp2_with (go_at_call 30; refine HC.out.mono ?_; rintro e w1 ⟨rfl, rfl⟩)
  go_ret2
  exact ⟨rfl, Below.refl _ _⟩
theorem bagsNone : BagsNone where
  put := fun p x w h hx => by
    have HC := Lib.hid (noneZ_any p w h)
    clear h hx
    go_enter Try.func12, Try.ntmps12
    go_wp2_with (go_at_call 30; refine HC.out.mono ?_; rintro e w1 ⟨rfl, rfl⟩)
    go_ret
    exact ⟨rfl, Below.refl _ _⟩
  take := fun p i w h hi => by
    have HA := Lib.hid (atZ_any p i w h hi)
    clear h hi
    go_enter Try.func13, Try.ntmps13
    go_wp2_with (go_at_call 20; refine HA.out.mono ?_; rintro e w1 ⟨rfl, hb⟩; have HB := Lib.hid hb; clear hb)
    go_ret2
    exact ⟨rfl, HB.out⟩
  at_ := atZ_any
  len := fun p w h => by
    have HC := Lib.hid (noneZ_any p w h)
    clear h
    go_enter Try.func17, Try.ntmps17
    go_wp2_with (go_at_call 30; refine HC.out.mono ?_; rintro e w1 ⟨rfl, rfl⟩)
    go_ret
    exact ⟨rfl, Below.refl _ _⟩
  room := fun p w h => by
    have HC := Lib.hid (noneZ_any p w h)
    clear h
    go_enter Try.func18, Try.ntmps18
    go_wp2_with (go_at_call 30; refine HC.out.mono ?_; rintro e w1 ⟨rfl, rfl⟩)
    go_ret
    exact ⟨rfl, Below.refl _ _⟩
  all := fun p w h => by
    have HC := Lib.hid (noneZ_any p w h)
    clear h
    go_enter Try.func15, Try.ntmps15
    go_wp2_with (go_at_call 30; refine HC.out.mono ?_; rintro e w1 ⟨rfl, rfl⟩)
    go_ret
    exact ⟨none, 0, rfl, Below.refl _ _⟩
  copy := fun p w h => by
    have HC := Lib.hid (noneZ_any p w h)
    clear h
    go_enter Try.func11, Try.ntmps11
    go_wp2_with (go_at_call 30; refine HC.out.mono ?_; rintro e w1 ⟨rfl, rfl⟩)
    go_ret
    exact ⟨rfl, Below.refl _ _⟩
end Go.Proofs.Ytnpageceaknofaa
