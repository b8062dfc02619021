/-
  The law BagNone, over what a bag that nobody made is asked to do.
-/
import Derived.Test.YtnpageceaknofaaBgC
namespace Go.Proofs.Ytnpageceaknofaa
set_option linter.unusedSimpArgs false
set_option linter.unusedVariables false
open Go.RowKit Sha Bag
/-- The cells of a bag of numbers that nobody made (by the landed struct). -/
def zeroBag : Array Value := #[.pointer none, .int .i64 0, .slice none 0 0, .int .i64 0, .int .i64 0]
def StillDone (v : Value) (w : World) (e : Ending) (w' : World) : Prop := e = .returned v ∧ Below w.heap.size w w'
def NoneDone (w : World) (e : Ending) (w' : World) : Prop := ∃ q c, e = .returned (.slice q 0 c) ∧ Below w.heap.size w w'
def NoBag (p : Option Addr) (w : World) : Prop := ∀ a, p = some a → ∃ b, a = ⟨b, 0, none⟩ ∧ Blk w b zeroBag.toList 49
structure BagsNone : Prop where
  put : ∀ (p : Option Addr) (x : Int) (w : World), NoBag p w → numK.fit x → Calls Try.prog 12 #[.pointer p, v64 x] w (StillDone (v64 1) w)
  take : ∀ (p : Option Addr) (i : Int) (w : World), NoBag p w → numK.fit i → Calls Try.prog 13 #[.pointer p, v64 i] w (StillDone (.tuple #[v64 0, v64 1]) w)
  at_ : ∀ (p : Option Addr) (i : Int) (w : World), NoBag p w → numK.fit i → Calls Try.prog 20 #[.pointer p, v64 i] w (StillDone (.tuple #[v64 0, v64 1]) w)
  len : ∀ (p : Option Addr) (w : World), NoBag p w → Calls Try.prog 17 #[.pointer p] w (StillDone (v64 0) w)
  room : ∀ (p : Option Addr) (w : World), NoBag p w → Calls Try.prog 18 #[.pointer p] w (StillDone (v64 0) w)
  all : ∀ (p : Option Addr) (w : World), NoBag p w → Calls Try.prog 15 #[.pointer p] w (NoneDone w)
  copy : ∀ (p : Option Addr) (w : World), NoBag p w → Calls Try.prog 11 #[.pointer p] w (StillDone (.pointer none) w)
theorem built_zero : Try.prog.built 49 [] = some zeroBag := by kernel_rfl
set_option maxRecDepth 100000 in
set_option maxHeartbeats 1000000 in
theorem none_any {R : BagRep Int} (F : NumBagOK R) (Z : BagsNone) (x i : Int) (w : World) (hx : numK.fit x) (hi : numK.fit i) :
    Calls Try.prog 4 #[v64 x, v64 i] w fun e w' => e = .returned (.bool true) ∧ Below w.heap.size w w' := by
  go_enter Try.func4, Try.ntmps4
  have HX := Lib.hid hx
  have HI := Lib.hid hi
  clear hx hi
  go_wp2_with (first
    | (refine wpList_build' rfl 49 _ rfl zeroBag built_zero ?_)
    | (refine wpList_box_arr rfl 49 _ rfl zeroBag rfl ?_; have hz := Blk.new w zeroBag 49; have hb := (Below.refl w.heap.size w).alloc (Nat.le_refl _) (.cells zeroBag 49); have hlt := World.size_alloc w (.cells zeroBag 49); obtain ⟨w1, hw1⟩ : ∃ x, x = w.alloc (.cells zeroBag 49) := ⟨_, rfl⟩; rw [← hw1] at hz hb hlt ⊢; have HZ := Lib.hid hz; have HB := Lib.hid hb; have HL := Lib.hid hlt; clear hw1 hz hb hlt))
  have hk2 := Blk.new w1 #[Value.pointer none, Value.pointer (some ⟨w.heap.size, 0, none⟩)] 23
  have hb2 := (Below.refl w1.heap.size w1).alloc (Nat.le_refl _) (Obj.cells #[Value.pointer none, Value.pointer (some ⟨w.heap.size, 0, none⟩)] 23)
  have hz2 := HZ.out.below hb2 HZ.out.lt
  obtain ⟨w2, hw2⟩ : ∃ x, x = w1.alloc (Obj.cells #[Value.pointer none, Value.pointer (some ⟨w.heap.size, 0, none⟩)] 23) := ⟨_, rfl⟩
  rw [← hw2] at hk2 hb2 hz2 ⊢
  have HC := Lib.hid (fun (k : Nat) W (hb : Below w2.heap.size w2 W) => show W.cell? ⟨w1.heap.size, k, none⟩ = [Value.pointer none, Value.pointer (some ⟨w.heap.size, 0, none⟩)][k]? from (hk2.below hb hk2.lt).cell k)
  have HP := Lib.hid (fun W (hb : Below w2.heap.size w2 W) => hz2.below hb hz2.lt)
  have HW := Lib.hid (HB.out.trans (hb2.mono HB.out.size))
  clear hw2 hk2 hb2 hz2 HZ HB HL
  generalize w1.heap.size = g1 at *
  go_loopw [6] (fun iv wr => ∃ k : Nat, iv = .int .i64 k ∧ k ≤ 2 ∧ Hid (Below w2.heap.size w2 wr)) (fun iv _ => 2 - (intOf iv).toNat)
  case atStart => exact ⟨0, rfl, by omega, Lib.hid (Below.refl _ _)⟩
  case round =>
    obtain ⟨k, rfl, hk, S⟩ := hrel
    by_cases hlt : k < 2
    · obtain ⟨p, hp, hpz⟩ : ∃ p : Option Addr, (∀ W, Below w2.heap.size w2 W → W.cell? ⟨g1, k, none⟩ = some (.pointer p)) ∧ (∀ W, Below w2.heap.size w2 W → NoBag p W) := by
        have hk2 : k = 0 ∨ k = 1 := by omega
        rcases hk2 with rfl | rfl
        · exact ⟨none, fun W hb => HC.out 0 W hb, fun W hb a ha => by cases ha⟩
        · exact ⟨some ⟨w.heap.size, 0, none⟩, fun W hb => HC.out 1 W hb, fun W hb a ha => by cases ha; exact ⟨_, rfl, HP.out W hb⟩⟩
      have HPC := Lib.hid hp
      have HPZ := Lib.hid hpz
      have c0 := hp wr S.out
      have i1 : (0 : Int) ≤ (k : Int) := by omega
      have i2 : (k : Int) < 2 := by omega
      clear hp hpz
      go_wp2_with fail
      refine (Z.take p i wr (HPZ.out wr S.out) HI.out).mono ?_
      rintro e W3 ⟨rfl, hb3⟩
      have S3 := Lib.hid (S.out.trans (hb3.mono S.out.size))
      clear hb3
      go_wp2_with fail
      refine (Z.at_ p i W3 (HPZ.out W3 S3.out) HI.out).mono ?_
      rintro e W4 ⟨rfl, hb4⟩
      have S4 := Lib.hid (S3.out.trans (hb4.mono S3.out.size))
      clear hb4
      go_wp2_with fail
      refine (Z.put p x W4 (HPZ.out W4 S4.out) HX.out).mono ?_
      rintro e W5 ⟨rfl, hb5⟩
      have S5 := Lib.hid (S4.out.trans (hb5.mono S4.out.size))
      clear hb5
      go_wp2_with fail
      refine (Z.len p W5 (HPZ.out W5 S5.out)).mono ?_
      rintro e W6 ⟨rfl, hb6⟩
      have S6 := Lib.hid (S5.out.trans (hb6.mono S5.out.size))
      clear hb6
      go_wp2_with fail
      refine (Z.room p W6 (HPZ.out W6 S6.out)).mono ?_
      rintro e W7 ⟨rfl, hb7⟩
      have S7 := Lib.hid (S6.out.trans (hb7.mono S6.out.size))
      clear hb7
      go_wp2_with fail
      refine (Z.all p W7 (HPZ.out W7 S7.out)).mono ?_
      rintro e W8 ⟨q, cc, rfl, hb8⟩
      have S8 := Lib.hid (S7.out.trans (hb8.mono S7.out.size))
      clear hb8
      go_wp2_with fail
      refine (Z.copy p W8 (HPZ.out W8 S8.out)).mono ?_
      rintro e W9 ⟨rfl, hb9⟩
      have S9 := Lib.hid (S8.out.trans (hb9.mono S8.out.size))
      clear hb9
      go_wp2_with fail
      go_roundw
      case rel => exact ⟨k + 1, by go_num, by omega, S9⟩
      case measure => simp [intOf]; omega
    · obtain rfl : k = 2 := by omega
      have BW := Lib.hid (HW.out.trans (S.out.mono HW.out.size))
      go_wp2_with fail
      refine (awake_any F wr).mono ?_
      rintro e W7 ⟨rfl, hb7⟩
      have B7 := Lib.hid (BW.out.trans (hb7.mono BW.out.size))
      clear hb7
      go_wp2_with fail
      go_ret
      exact ⟨rfl, B7.out⟩
end Go.Proofs.Ytnpageceaknofaa
