/-
  Buffers that nobody made, and the law GossipNone.
-/
import Derived.Test.YtgohapbobbkaeaaGlB
import Derived.Test.YtgohapbobbkaeaaGsB
import Derived.Deep.QuietTactic
namespace Go.Proofs.Ytgohapbobbkaeaa
set_option linter.unusedSimpArgs false
set_option linter.unusedVariables false
open Go.RowKit Sha
/-- The cells of a buffer that nobody made. -/
def zeroG : Array Value := #[.pointer none, .int .i64 0, .slice none 0 0, .nilFunc]
theorem built_zeroG : Try.prog.built gt [] = some zeroG := by kernel_rfl
def GStill (v : Value) (w : World) (e : Ending) (w' : World) : Prop := e = .returned v ∧ Below w.heap.size w w'
def NoG (p : Option Addr) (w : World) : Prop := ∀ a, p = some a → ∃ b, a = ⟨b, 0, none⟩ ∧ Blk w b zeroG.toList gt
theorem noneG_any (p : Option Addr) (w : World) (h : NoG p w) : Calls Try.prog 28 #[.pointer p] w fun e w' => e = .returned (.bool true) ∧ w' = w := by
  cases p with
  | none =>
    go_enter Try.func28, Try.ntmps28
    go_wp2_with fail
    go_ret
    exact ⟨rfl, rfl⟩
  | some a =>
    obtain ⟨b, rfl, hb⟩ := h a rfl
    have c0 : w.cell? ⟨b, 0, none⟩ = some (.pointer none) := hb.cell 0
    have hq := run_neq_ptr_nilG (P := Try.prog) ⟨b, 0, none⟩ Try.underlying23
    clear h hb
    go_enter Try.func28, Try.ntmps28
    go_wp2_with fail
    go_ret
    exact ⟨rfl, rfl⟩
section
attribute [local go_sem ↓] execOp_loadM execOp_storeM execOp_eqlM execOp_buildM
theorem noAdd (p : Option Addr) (m : Mb) (w : World) (h : NoG p w) : Calls Try.prog 14 #[.pointer p, mv m] w (GStill (.tuple #[.bool false, v64 1]) w) := by
  have BA := Lib.hid (show Below w.heap.size w (w.alloc (.cells (mc m).toArray mt)) from (Below.refl _ _).alloc (Nat.le_refl _) _)
  have HC := Lib.hid (noneG_any p (w.alloc (.cells (mc m).toArray mt)) (fun a e => by
    obtain ⟨b, hb, hk⟩ := h a e
    exact ⟨b, hb, hk.upon BA.out⟩))
  clear h
  go_enter Try.func14, Try.ntmps14
  go_wp2_with (go_at_call 28; refine HC.out.mono ?_; rintro e w1 ⟨rfl, rfl⟩)
  go_ret2
  exact ⟨rfl, BA.out⟩
theorem noTake (p : Option Addr) (n : Int) (w : World) (h : NoG p w) : Calls Try.prog 11 #[.pointer p, v64 n] w (GStill (.slice none 0 0) w) := by
  have HC := Lib.hid (noneG_any p w h)
  clear h
  go_enter Try.func11, Try.ntmps11
  go_wp2_with (go_at_call 28; refine HC.out.mono ?_; rintro e w1 ⟨rfl, rfl⟩)
  go_ret
  exact ⟨rfl, Below.refl _ _⟩
theorem noLen (p : Option Addr) (w : World) (h : NoG p w) : Calls Try.prog 16 #[.pointer p] w (GStill (v64 0) w) := by
  have HC := Lib.hid (noneG_any p w h)
  clear h
  go_enter Try.func16, Try.ntmps16
  go_wp2_with (go_at_call 28; refine HC.out.mono ?_; rintro e w1 ⟨rfl, rfl⟩)
  go_ret
  exact ⟨rfl, Below.refl _ _⟩
theorem noLim (p : Option Addr) (w : World) (h : NoG p w) : Calls Try.prog 18 #[.pointer p] w (GStill (v64 0) w) := by
  have HC := Lib.hid (noneG_any p w h)
  clear h
  go_enter Try.func18, Try.ntmps18
  go_wp2_with (go_at_call 28; refine HC.out.mono ?_; rintro e w1 ⟨rfl, rfl⟩)
  go_ret
  exact ⟨rfl, Below.refl _ _⟩
theorem NoG.on {p : Option Addr} {w w' : World} (h : NoG p w) (hb : Below w.heap.size w w') : NoG p w' := fun a e => by
  obtain ⟨b, h1, hk⟩ := h a e
  exact ⟨b, h1, hk.upon hb⟩
/-- What lies there in the law: the word, the two. -/
structure NoneIn (w0 w : World) (m : Mb) (gs gz : Nat) : Prop where
  word : Blk w w0.heap.size (mc m) mt
  row : Blk w gs [.pointer none, optr gz] 23
  zero : Blk w gz zeroG.toList gt
  below : Below w0.heap.size w0 w
theorem NoneIn.on {w0 w w' : World} {m : Mb} {gs gz : Nat} (h : NoneIn w0 w m gs gz) (hb : Below w.heap.size w w') : NoneIn w0 w' m gs gz := ⟨h.word.upon hb, h.row.upon hb, h.zero.upon hb, below_next h.below hb⟩
theorem NoneIn.get {w0 w : World} {m : Mb} {gs gz : Nat} (h : NoneIn w0 w m gs gz) (k : Nat) (hk : k < 2) : ∃ p : Option Addr, (∀ W, Below w.heap.size w W → W.cell? ⟨gs, k, none⟩ = some (.pointer p)) ∧ NoG p w := by
  have hk2 : k = 0 ∨ k = 1 := by omega
  rcases hk2 with rfl | rfl
  · exact ⟨none, fun W hb => (h.row.upon hb).cell 0, fun a ha => by cases ha⟩
  · exact ⟨some ⟨gz, 0, none⟩, fun W hb => (h.row.upon hb).cell 1, fun a ha => by cases ha; exact ⟨_, rfl, h.zero⟩⟩
set_option maxRecDepth 100000 in
set_option maxHeartbeats 4000000 in
theorem gnonelaw_any {R : GRepT} (F : PGossip R) (m : Mb) (n : Int) (w : World) :
    Calls Try.prog 4 #[mv m, v64 n] w (BoolDone true w) := by
  go_enter Try.func4, Try.ntmps4
  go_wp2_with (first
    | (refine wpList_build' rfl gt _ rfl zeroG built_zeroG ?_)
    | (refine wpList_box_arr rfl gt _ rfl zeroG rfl ?_))
  have N0 := Lib.hid (show NoneIn w (((w.alloc (.cells (mc m).toArray mt)).alloc (.cells zeroG gt)).alloc (.cells #[Value.pointer none, optr (w.heap.size + 1)] 23)) m (w.heap.size + 1 + 1) (w.heap.size + 1) from by
    have k0 := Blk.new w (mc m).toArray mt
    have k1 := Blk.new (w.alloc (.cells (mc m).toArray mt)) zeroG gt
    have k2 := Blk.new ((w.alloc (.cells (mc m).toArray mt)).alloc (.cells zeroG gt)) #[Value.pointer none, optr (w.heap.size + 1)] 23
    simp only [World.size_alloc] at k1 k2
    exact ⟨(k0.old _).old _, k2, k1.old _, (((Below.refl w.heap.size w).alloc (Nat.le_refl _) _).alloc (by simp) _).alloc (by simp; omega) _⟩)
  generalize ((w.alloc (.cells (mc m).toArray mt)).alloc (.cells zeroG gt)).alloc (.cells #[Value.pointer none, optr (w.heap.size + 1)] 23) = w2 at *
  obtain ⟨gw, hgw⟩ : ∃ g, g = w.heap.size := ⟨_, rfl⟩
  have HGW := Lib.hid hgw
  rw [← hgw] at N0 ⊢
  obtain ⟨gs, hgs⟩ : ∃ g, g = gw + 1 + 1 := ⟨_, rfl⟩
  obtain ⟨gz, hgz⟩ : ∃ g, g = gw + 1 := ⟨_, rfl⟩
  rw [← hgs, ← hgz] at N0
  rw [← hgs]
  clear hgw hgs hgz
  go_loopw [6] (fun iv wr => ∃ k : Nat, iv = .int .i64 k ∧ k ≤ 2 ∧ Hid (NoneIn w wr m gs gz)) (fun iv _ => 2 - (intOf iv).toNat)
  case atStart => exact ⟨0, rfl, by omega, N0⟩
  case round =>
    clear N0
    obtain ⟨k, rfl, hk, S⟩ := hrel
    by_cases hlt : k < 2
    · obtain ⟨p, hp, hz⟩ := S.out.get k hlt
      have HP := Lib.hid hp
      have HZ := Lib.hid hz
      have i1 : (0 : Int) ≤ (k : Int) := by omega
      have i2 : (k : Int) < 2 := by omega
      obtain ⟨I, W, hC⟩ := cls_of wr
      have hne : Nonempty I := hC.ne
      have c0 := fun n => hp _ (hC.back n)
      have l1 := fun n => run_loadM (rangeM_of (S.out.word.upon (hC.back n)))
      rw [← HGW.out] at l1
      have QA := Lib.hid (hC.call (P := Try.prog) (f := 14) (args := #[.pointer p, mv m]) (v := .tuple #[.bool false, v64 1]) (fun w' hb => noAdd p m w' (HZ.out.on hb)))
      have HC := Lib.hid hC
      clear hp hz hC
      go_wp2_with fail
      refine wp_region_cls W (by kernel_rfl) (by kernel_rfl) HC.out.one ?_
      repeat go_big_quiet_step ((go_at_call 14; exact QA.out _))
      refine wpQuiet_nil ?_
      rintro _ ⟨mm, rfl⟩
      have S2 := Lib.hid (S.out.on (HC.out.back mm))
      have HP2 := Lib.hid (fun w' (hb : Below (W mm).heap.size (W mm) w') => HP.out w' ((HC.out.back mm).trans (hb.mono (HC.out.back mm).size)))
      have HZ2 := Lib.hid (HZ.out.on (HC.out.back mm))
      clear c0 l1 QA HC S HP HZ
      generalize W mm = w3 at *
      clear W hne
      have c3 := HP2.out w3 (Below.refl _ _)
      go_wp2_with fail
      refine (noTake p n w3 HZ2.out).mono ?_
      rintro e w4 ⟨rfl, hb4⟩
      have S4 := Lib.hid (S2.out.on hb4)
      have c4 := HP2.out w4 hb4
      have Z4 := Lib.hid (HZ2.out.on hb4)
      have B4 := Lib.hid hb4
      clear hb4 c3 S2
      go_wp2_with fail
      refine (noLen p w4 Z4.out).mono ?_
      rintro e w5 ⟨rfl, hb5⟩
      have S5 := Lib.hid (S4.out.on hb5)
      have c5 := HP2.out w5 (below_next B4.out hb5)
      have Z5 := Lib.hid (Z4.out.on hb5)
      clear hb5 c4 S4
      go_wp2_with fail
      refine (noLim p w5 Z5.out).mono ?_
      rintro e w6 ⟨rfl, hb6⟩
      have S6 := Lib.hid (S5.out.on hb6)
      clear hb6 c5 S5
      go_wp2_with fail
      go_roundw
      case rel => exact ⟨k + 1, by go_num, by omega, S6⟩
      case measure => simp [intOf]; omega
    · obtain rfl : k = 2 := by omega
      go_wp2_with fail
      refine (gawake_any F wr).mono ?_
      rintro e w3 ⟨rfl, hb3⟩
      have S3 := Lib.hid (S.out.on hb3)
      go_wp2_with fail
      go_ret
      exact ⟨rfl, S3.out.below⟩
end
end Go.Proofs.Ytgohapbobbkaeaa
