/-
  The law LotNone, over what lots that nobody made are asked to do.
-/
import Derived.Test.YtjdlmpmdjlmdnaaLtC
namespace Go.Proofs.Ytjdlmpmdjlmdnaa
set_option linter.unusedSimpArgs false
set_option linter.unusedVariables false
open Go.RowKit Sha Lot
/-- The cells of lots that nobody made. -/
def zeroLot : Array Value := #[.pointer none, .slice none 0 0, .int .i64 0]
def StillDone (v : Value) (w : World) (e : Ending) (w' : World) : Prop := e = .returned v ∧ Below w.heap.size w w'
def NoneDone (w : World) (e : Ending) (w' : World) : Prop := ∃ q c, e = .returned (.slice q 0 c) ∧ Below w.heap.size w w'
structure LotsNone : Prop where
  draw : ∀ (p : Option Addr) (w : World), (∀ a, p = some a → ∃ b, a = ⟨b, 0, none⟩ ∧ Blk w b zeroLot.toList 41) → Calls Try.prog 17 #[.pointer p] w (StillDone (v64 0) w)
  pick : ∀ (p : Option Addr) (n : Int) (w : World), (∀ a, p = some a → ∃ b, a = ⟨b, 0, none⟩ ∧ Blk w b zeroLot.toList 41) → -9223372036854775808 ≤ n ∧ n ≤ 9223372036854775807 → Calls Try.prog 19 #[.pointer p, .int .i64 n] w (StillDone (v64 0) w)
  shuffle : ∀ (p : Option Addr) (n : Int) (w : World), (∀ a, p = some a → ∃ b, a = ⟨b, 0, none⟩ ∧ Blk w b zeroLot.toList 41) → -9223372036854775808 ≤ n ∧ n ≤ 9223372036854775807 → Calls Try.prog 15 #[.pointer p, .int .i64 n] w (NoneDone w)
  used : ∀ (p : Option Addr) (w : World), (∀ a, p = some a → ∃ b, a = ⟨b, 0, none⟩ ∧ Blk w b zeroLot.toList 41) → Calls Try.prog 21 #[.pointer p] w (StillDone (v64 0) w)
theorem built_zero : Try.prog.built 41 [] = some zeroLot := by kernel_rfl
set_option maxRecDepth 100000 in
set_option maxHeartbeats 1000000 in
theorem none_any {R : LotRep} (F : LotsOK R) (Z : LotsNone) (n : Int) (w : World) (hn : -9223372036854775808 ≤ n ∧ n ≤ 9223372036854775807) :
    Calls Try.prog 4 #[.int .i64 n] w fun e w' => e = .returned (.bool true) ∧ Below w.heap.size w w' := by
  go_enter Try.func4, Try.ntmps4
  have HN := Lib.hid hn
  clear hn
  go_wp2_with (first
    | (refine wpList_build' rfl 41 _ rfl zeroLot built_zero ?_)
    | (refine wpList_box_arr rfl 41 _ rfl zeroLot rfl ?_; have hz := Blk.new w zeroLot 41; have hb := (Below.refl w.heap.size w).alloc (Nat.le_refl _) (.cells zeroLot 41); have hlt := World.size_alloc w (.cells zeroLot 41); obtain ⟨w1, hw1⟩ : ∃ x, x = w.alloc (.cells zeroLot 41) := ⟨_, rfl⟩; rw [← hw1] at hz hb hlt ⊢; have HZ := Lib.hid hz; have HB := Lib.hid hb; have HL := Lib.hid hlt; clear hw1 hz hb hlt))
  have hk2 := Blk.new w1 #[Value.pointer none, Value.pointer (some ⟨w.heap.size, 0, none⟩)] 25
  have hb2 := (Below.refl w1.heap.size w1).alloc (Nat.le_refl _) (Obj.cells #[Value.pointer none, Value.pointer (some ⟨w.heap.size, 0, none⟩)] 25)
  have hz2 := HZ.out.below hb2 HZ.out.lt
  obtain ⟨w2, hw2⟩ : ∃ x, x = w1.alloc (Obj.cells #[Value.pointer none, Value.pointer (some ⟨w.heap.size, 0, none⟩)] 25) := ⟨_, rfl⟩
  rw [← hw2] at hk2 hb2 hz2 ⊢
  have HC := Lib.hid (fun (k : Nat) W (hb : Below w2.heap.size w2 W) => show W.cell? ⟨w1.heap.size, k, none⟩ = [Value.pointer none, Value.pointer (some ⟨w.heap.size, 0, none⟩)][k]? from (hk2.below hb hk2.lt).cell k)
  have HP := Lib.hid (fun W (hb : Below w2.heap.size w2 W) => hz2.below hb hz2.lt)
  have HW := Lib.hid (HB.out.trans (hb2.mono HB.out.size))
  clear hw2 hk2 hb2 hz2 HZ HB HL
  generalize w1.heap.size = g1 at *
  go_loopw [4] (fun i wr => ∃ k : Nat, i = .int .i64 k ∧ k ≤ 2 ∧ Hid (Below w2.heap.size w2 wr)) (fun i _ => 2 - (intOf i).toNat)
  case atStart => exact ⟨0, rfl, by omega, Lib.hid (Below.refl _ _)⟩
  case round =>
    obtain ⟨k, rfl, hk, S⟩ := hrel
    by_cases hlt : k < 2
    · obtain ⟨p, hp, hpz⟩ : ∃ p : Option Addr, (∀ W, Below w2.heap.size w2 W → W.cell? ⟨g1, k, none⟩ = some (.pointer p)) ∧ (∀ W, Below w2.heap.size w2 W → ∀ a, p = some a → ∃ b, a = ⟨b, 0, none⟩ ∧ Blk W b zeroLot.toList 41) := by
        have hk2 : k = 0 ∨ k = 1 := by omega
        rcases hk2 with rfl | rfl
        · exact ⟨none, fun W hb => HC.out 0 W hb, fun W hb a ha => by cases ha⟩
        · exact ⟨some ⟨w.heap.size, 0, none⟩, fun W hb => HC.out 1 W hb, fun W hb a ha => by cases ha; exact ⟨_, rfl, HP.out W hb⟩⟩
      have HPC := Lib.hid hp
      have HPZ := Lib.hid hpz
      have c0 := hp wr S.out
      have i1 : (0 : Int) ≤ (k : Int) := by omega
      have i2 : (k : Int) < 2 := by omega
      clear hp hpz
      go_wp2_with fail
      refine (Z.draw p wr (HPZ.out wr S.out)).mono ?_
      rintro e W3 ⟨rfl, hb3⟩
      have S3 := Lib.hid (S.out.trans (hb3.mono S.out.size))
      have c3 := HPC.out W3 S3.out
      clear hb3
      go_wp2_with fail
      refine (Z.pick p n W3 (HPZ.out W3 S3.out) HN.out).mono ?_
      rintro e W4 ⟨rfl, hb4⟩
      have S4 := Lib.hid (S3.out.trans (hb4.mono S3.out.size))
      have c4 := HPC.out W4 S4.out
      clear hb4 c3
      go_wp2_with fail
      refine (Z.shuffle p n W4 (HPZ.out W4 S4.out) HN.out).mono ?_
      rintro e W5 ⟨q, cc, rfl, hb5⟩
      have S5 := Lib.hid (S4.out.trans (hb5.mono S4.out.size))
      have c5 := HPC.out W5 S5.out
      clear hb5 c4
      go_wp2_with fail
      refine (Z.used p W5 (HPZ.out W5 S5.out)).mono ?_
      rintro e W6 ⟨rfl, hb6⟩
      have S6 := Lib.hid (S5.out.trans (hb6.mono S5.out.size))
      clear hb6 c5
      go_wp2_with fail
      go_roundw
      case rel => exact ⟨k + 1, by go_num, by omega, S6⟩
      case measure => simp [intOf]; omega
    · obtain rfl : k = 2 := by omega
      have BW := Lib.hid (HW.out.trans (S.out.mono HW.out.size))
      go_wp2_with fail
      refine (awake_any F wr).mono ?_
      rintro e W7 ⟨rfl, hb7⟩
      have B7 := Lib.hid (BW.out.trans (hb7.mono BW.out.size))
      clear hb7
      go_wp2_with fail
      go_ret
      exact ⟨rfl, B7.out⟩
end Go.Proofs.Ytjdlmpmdjlmdnaa
