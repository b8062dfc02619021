/-
  Disks that nobody made do what is asked of them: nothing.
-/
import Derived.Test.YtooljhdfmfkpeaaDkP
import Derived.Test.YtooljhdfmfkpeaaDkZa
namespace Go.Proofs.Ytooljhdfmfkpeaa
set_option linter.unusedSimpArgs false
set_option linter.unusedVariables false
open Go.RowKit Sha Dsk
theorem znone_any (p : Option Addr) (w : World) (h : NoDisk p w) :
    Calls Try.prog 36 #[.pointer p] w fun e w' => e = .returned (.bool true) ∧ w' = w := by
  cases p with
  | none =>
    go_enter Try.func36, Try.ntmps36
    go_wp2_with fail
    go_ret
    exact ⟨rfl, rfl⟩
  | some a =>
    obtain ⟨b, rfl, hb⟩ := h a rfl
    have c0 : w.cell? ⟨b, 0, none⟩ = some (.pointer none) := hb.cell 0
    have hq := run_neq_ptr_nil (P := Try.prog) ⟨b, 0, none⟩ Try.underlying23
    clear h hb
    go_enter Try.func36, Try.ntmps36
    go_wp2_with fail
    go_ret
    exact ⟨rfl, rfl⟩
theorem zbarred_any (p : Option Addr) (w : World) (h : NoDisk p w) :
    Calls Try.prog 51 #[.pointer p] w fun e w' => e = .returned (i64v 1) ∧ w' = w := by
  have HC := Lib.hid (znone_any p w h)
  clear h
  go_enter Try.func51, Try.ntmps51
  go_wp2_with fail
  refine HC.out.mono ?_
  rintro e w1 ⟨rfl, rfl⟩
  go_wp2_with fail
  go_ret
  exact ⟨rfl, rfl⟩
theorem zcrowded_any (p : Option Addr) (n : Int) (w : World) (h : NoDisk p w) :
    Calls Try.prog 52 #[.pointer p, i64v n] w fun e w' => e = .returned (i64v 1) ∧ w' = w := by
  have HC := Lib.hid (zbarred_any p w h)
  clear h
  go_enter Try.func52, Try.ntmps52
  go_wp2_with fail
  refine HC.out.mono ?_
  rintro e w1 ⟨rfl, rfl⟩
  go_wp2_with fail
  go_ret
  exact ⟨rfl, rfl⟩
theorem zread_any (p : Option Addr) (w : World) (h : NoDisk p w) :
    Calls Try.prog 16 #[.pointer p] w (NoneRead w) := by
  have HC := Lib.hid (zbarred_any p w h)
  clear h
  go_enter Try.func16, Try.ntmps16
  go_wp2_with fail
  refine HC.out.mono ?_
  rintro e w1 ⟨rfl, rfl⟩
  go_wp2_with fail
  go_ret2
  exact ⟨_, _, rfl, Below.refl _ _⟩
theorem zlen_any (p : Option Addr) (w : World) (h : NoDisk p w) :
    Calls Try.prog 17 #[.pointer p] w (StillDone (i64v 0) w) := by
  have HC := Lib.hid (znone_any p w h)
  clear h
  go_enter Try.func17, Try.ntmps17
  go_wp2_with fail
  refine HC.out.mono ?_
  rintro e w1 ⟨rfl, rfl⟩
  go_wp2_with fail
  go_ret
  exact ⟨rfl, Below.refl _ _⟩
theorem zfirm_any (p : Option Addr) (w : World) (h : NoDisk p w) :
    Calls Try.prog 18 #[.pointer p] w (StillDone (i64v 0) w) := by
  have HC := Lib.hid (znone_any p w h)
  clear h
  go_enter Try.func18, Try.ntmps18
  go_wp2_with fail
  refine HC.out.mono ?_
  rintro e w1 ⟨rfl, rfl⟩
  go_wp2_with fail
  go_ret
  exact ⟨rfl, Below.refl _ _⟩
theorem zsteps_any (p : Option Addr) (w : World) (h : NoDisk p w) :
    Calls Try.prog 19 #[.pointer p] w (StillDone (i64v 0) w) := by
  have HC := Lib.hid (znone_any p w h)
  clear h
  go_enter Try.func19, Try.ntmps19
  go_wp2_with fail
  refine HC.out.mono ?_
  rintro e w1 ⟨rfl, rfl⟩
  go_wp2_with fail
  go_ret
  exact ⟨rfl, Below.refl _ _⟩
theorem zup_any (p : Option Addr) (w : World) (h : NoDisk p w) :
    Calls Try.prog 20 #[.pointer p] w (StillDone (.bool false) w) := by
  have HC := Lib.hid (zbarred_any p w h)
  clear h
  go_enter Try.func20, Try.ntmps20
  go_wp2_with fail
  refine HC.out.mono ?_
  rintro e w1 ⟨rfl, rfl⟩
  go_wp2_with fail
  go_ret
  exact ⟨rfl, Below.refl _ _⟩
theorem zcopy_any (p : Option Addr) (w : World) (h : NoDisk p w) :
    Calls Try.prog 12 #[.pointer p] w (StillDone (.pointer none) w) := by
  have HC := Lib.hid (znone_any p w h)
  clear h
  go_enter Try.func12, Try.ntmps12
  go_wp2_with fail
  refine HC.out.mono ?_
  rintro e w1 ⟨rfl, rfl⟩
  go_wp2_with fail
  go_ret
  exact ⟨rfl, Below.refl _ _⟩
theorem zappend_any (p : Option Addr) (n : Nat) (q : Option Addr) (c : Nat) (w : World) (h : NoDisk p w) :
    Calls Try.prog 21 #[.pointer p, .slice q n c] w (StillDone (i64v 1) w) := by
  have HC := Lib.hid (zcrowded_any p (n : Int) w h)
  clear h
  go_enter Try.func21, Try.ntmps21
  go_wp2_with fail
  refine HC.out.mono ?_
  rintro e w1 ⟨rfl, rfl⟩
  go_wp2_with fail
  go_ret
  exact ⟨rfl, Below.refl _ _⟩
theorem zsync_any (p : Option Addr) (w : World) (h : NoDisk p w) :
    Calls Try.prog 22 #[.pointer p] w (StillDone (i64v 1) w) := by
  have HC := Lib.hid (zbarred_any p w h)
  clear h
  go_enter Try.func22, Try.ntmps22
  go_wp2_with fail
  refine HC.out.mono ?_
  rintro e w1 ⟨rfl, rfl⟩
  go_wp2_with fail
  go_ret
  exact ⟨rfl, Below.refl _ _⟩
theorem znext_any (p : Option Addr) (n : Nat) (q : Option Addr) (c : Nat) (w : World) (h : NoDisk p w) :
    Calls Try.prog 23 #[.pointer p, .slice q n c] w (StillDone (i64v 1) w) := by
  have HC := Lib.hid (zcrowded_any p (n : Int) w h)
  clear h
  go_enter Try.func23, Try.ntmps23
  go_wp2_with fail
  refine HC.out.mono ?_
  rintro e w1 ⟨rfl, rfl⟩
  go_wp2_with fail
  go_ret
  exact ⟨rfl, Below.refl _ _⟩
theorem zswitch_any (p : Option Addr) (w : World) (h : NoDisk p w) :
    Calls Try.prog 24 #[.pointer p] w (StillDone (i64v 1) w) := by
  have HC := Lib.hid (zbarred_any p w h)
  clear h
  go_enter Try.func24, Try.ntmps24
  go_wp2_with fail
  refine HC.out.mono ?_
  rintro e w1 ⟨rfl, rfl⟩
  go_wp2_with fail
  go_ret
  exact ⟨rfl, Below.refl _ _⟩
theorem zroom_any (p : Option Addr) (n : Int) (w : World) (h : NoDisk p w) :
    Calls Try.prog 25 #[.pointer p, i64v n] w (StillDone (i64v 1) w) := by
  have HC := Lib.hid (znone_any p w h)
  clear h
  go_enter Try.func25, Try.ntmps25
  go_wp2_with fail
  refine HC.out.mono ?_
  rintro e w1 ⟨rfl, rfl⟩
  go_wp2_with fail
  go_ret
  exact ⟨rfl, Below.refl _ _⟩
theorem zfuse_any (p : Option Addr) (n : Int) (w : World) (h : NoDisk p w) :
    Calls Try.prog 26 #[.pointer p, i64v n] w (StillDone (i64v 1) w) := by
  have HC := Lib.hid (znone_any p w h)
  clear h
  go_enter Try.func26, Try.ntmps26
  go_wp2_with fail
  refine HC.out.mono ?_
  rintro e w1 ⟨rfl, rfl⟩
  go_wp2_with fail
  go_ret
  exact ⟨rfl, Below.refl _ _⟩
theorem zcrash_any (p : Option Addr) (n : Int) (w : World) (h : NoDisk p w) :
    Calls Try.prog 27 #[.pointer p, i64v n] w (StillDone (i64v 1) w) := by
  have HC := Lib.hid (znone_any p w h)
  clear h
  go_enter Try.func27, Try.ntmps27
  go_wp2_with fail
  refine HC.out.mono ?_
  rintro e w1 ⟨rfl, rfl⟩
  go_wp2_with fail
  go_ret
  exact ⟨rfl, Below.refl _ _⟩
theorem zwipe_any (p : Option Addr) (w : World) (h : NoDisk p w) :
    Calls Try.prog 13 #[.pointer p] w (StillDone (i64v 1) w) := by
  have HC := Lib.hid (znone_any p w h)
  clear h
  go_enter Try.func13, Try.ntmps13
  go_wp2_with fail
  refine HC.out.mono ?_
  rintro e w1 ⟨rfl, rfl⟩
  go_wp2_with fail
  go_ret
  exact ⟨rfl, Below.refl _ _⟩
theorem disksNone : DisksNone where
  read := fun p w h => zread_any p w h
  len := fun p w h => zlen_any p w h
  firm := fun p w h => zfirm_any p w h
  steps := fun p w h => zsteps_any p w h
  up := fun p w h => zup_any p w h
  copy := fun p w h => zcopy_any p w h
  append := fun p zs n q c w h _ _ => zappend_any p n q c w h
  sync := fun p w h => zsync_any p w h
  next := fun p zs n q c w h _ _ => znext_any p n q c w h
  switch := fun p w h => zswitch_any p w h
  room := fun p n w h _ => zroom_any p n w h
  fuse := fun p n w h _ => zfuse_any p n w h
  crash := fun p n w h _ => zcrash_any p n w h
  wipe := fun p w h => zwipe_any p w h
end Go.Proofs.Ytooljhdfmfkpeaa
