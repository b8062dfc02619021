/-
  The law DiskNone, over what disks that nobody made are asked to do.
-/
import Derived.Test.YtooljhdfmfkpeaaDkF
namespace Go.Proofs.Ytooljhdfmfkpeaa
set_option linter.unusedSimpArgs false
set_option linter.unusedVariables false
open Go.RowKit Sha Dsk
/-- The cells of a disk that nobody made. -/
def zeroDisk : Array Value := #[.pointer none, .slice none 0 0, .int .i64 0, .slice none 0 0, .int .i64 0, .int .i64 0, .int .i64 0, .bool false]
def StillDone (v : Value) (w : World) (e : Ending) (w' : World) : Prop := e = .returned v ∧ Below w.heap.size w w'
def NoneRead (w : World) (e : Ending) (w' : World) : Prop := ∃ q c, e = .returned (.tuple #[.slice q 0 c, i64v 1]) ∧ Below w.heap.size w w'
def NoDisk (p : Option Addr) (w : World) : Prop := ∀ a, p = some a → ∃ b, a = ⟨b, 0, none⟩ ∧ Blk w b zeroDisk.toList 47
structure DisksNone : Prop where
  read : ∀ (p : Option Addr) (w : World), NoDisk p w → Calls Try.prog 16 #[.pointer p] w (NoneRead w)
  len : ∀ (p : Option Addr) (w : World), NoDisk p w → Calls Try.prog 17 #[.pointer p] w (StillDone (i64v 0) w)
  firm : ∀ (p : Option Addr) (w : World), NoDisk p w → Calls Try.prog 18 #[.pointer p] w (StillDone (i64v 0) w)
  steps : ∀ (p : Option Addr) (w : World), NoDisk p w → Calls Try.prog 19 #[.pointer p] w (StillDone (i64v 0) w)
  up : ∀ (p : Option Addr) (w : World), NoDisk p w → Calls Try.prog 20 #[.pointer p] w (StillDone (.bool false) w)
  copy : ∀ (p : Option Addr) (w : World), NoDisk p w → Calls Try.prog 12 #[.pointer p] w (StillDone (.pointer none) w)
  append : ∀ (p : Option Addr) (zs : List Int) (n : Nat) (q : Option Addr) (c : Nat) (w : World), NoDisk p w → zs.length = n → GoodC w zs q c → Calls Try.prog 21 #[.pointer p, .slice q n c] w (StillDone (i64v 1) w)
  sync : ∀ (p : Option Addr) (w : World), NoDisk p w → Calls Try.prog 22 #[.pointer p] w (StillDone (i64v 1) w)
  next : ∀ (p : Option Addr) (zs : List Int) (n : Nat) (q : Option Addr) (c : Nat) (w : World), NoDisk p w → zs.length = n → GoodC w zs q c → Calls Try.prog 23 #[.pointer p, .slice q n c] w (StillDone (i64v 1) w)
  switch : ∀ (p : Option Addr) (w : World), NoDisk p w → Calls Try.prog 24 #[.pointer p] w (StillDone (i64v 1) w)
  room : ∀ (p : Option Addr) (n : Int) (w : World), NoDisk p w → fit64 n → Calls Try.prog 25 #[.pointer p, i64v n] w (StillDone (i64v 1) w)
  fuse : ∀ (p : Option Addr) (n : Int) (w : World), NoDisk p w → fit64 n → Calls Try.prog 26 #[.pointer p, i64v n] w (StillDone (i64v 1) w)
  crash : ∀ (p : Option Addr) (n : Int) (w : World), NoDisk p w → fit64 n → Calls Try.prog 27 #[.pointer p, i64v n] w (StillDone (i64v 1) w)
  wipe : ∀ (p : Option Addr) (w : World), NoDisk p w → Calls Try.prog 13 #[.pointer p] w (StillDone (i64v 1) w)
theorem built_zero : Try.prog.built 47 [] = some zeroDisk := by kernel_rfl
set_option maxRecDepth 100000 in
set_option maxHeartbeats 4000000 in
theorem none_any {R : DiskRep} (F : DisksOK R) (Z : DisksNone) (zs : List Int) (n : Nat) (q : Option Addr) (c : Nat) (x : Int) (w : World) (hn : zs.length = n) (hz : GoodC w zs q c) (hx : fit64 x) :
    Calls Try.prog 4 #[.slice q n c, i64v x] w fun e w' => e = .returned (.bool true) ∧ Below w.heap.size w w' := by
  go_enter Try.func4, Try.ntmps4
  have HX := Lib.hid hx
  have HN := Lib.hid hn
  have GZ := Lib.hid hz
  clear hn hz hx
  go_wp2_with (first
    | (refine wpList_build' rfl 47 _ rfl zeroDisk built_zero ?_)
    | (refine wpList_box_arr rfl 47 _ rfl zeroDisk rfl ?_; have hz := Blk.new w zeroDisk 47; have hb := (Below.refl w.heap.size w).alloc (Nat.le_refl _) (.cells zeroDisk 47); have hlt := World.size_alloc w (.cells zeroDisk 47); obtain ⟨w1, hw1⟩ : ∃ x, x = w.alloc (.cells zeroDisk 47) := ⟨_, rfl⟩; rw [← hw1] at hz hb hlt ⊢; have HZ := Lib.hid hz; have HB := Lib.hid hb; have HL := Lib.hid hlt; clear hw1 hz hb hlt))
  have hk2 := Blk.new w1 #[Value.pointer none, Value.pointer (some ⟨w.heap.size, 0, none⟩)] 23
  have hb2 := (Below.refl w1.heap.size w1).alloc (Nat.le_refl _) (Obj.cells #[Value.pointer none, Value.pointer (some ⟨w.heap.size, 0, none⟩)] 23)
  have hz2 := HZ.out.below hb2 HZ.out.lt
  obtain ⟨w2, hw2⟩ : ∃ x, x = w1.alloc (Obj.cells #[Value.pointer none, Value.pointer (some ⟨w.heap.size, 0, none⟩)] 23) := ⟨_, rfl⟩
  rw [← hw2] at hk2 hb2 hz2 ⊢
  have HC := Lib.hid (fun (k : Nat) W (hb : Below w2.heap.size w2 W) => show W.cell? ⟨w1.heap.size, k, none⟩ = [Value.pointer none, Value.pointer (some ⟨w.heap.size, 0, none⟩)][k]? from (hk2.below hb hk2.lt).cell k)
  have HP := Lib.hid (fun W (hb : Below w2.heap.size w2 W) => hz2.below hb hz2.lt)
  have HW := Lib.hid (HB.out.trans (hb2.mono HB.out.size))
  clear hw2 hk2 hb2 hz2 HZ HB HL
  generalize w1.heap.size = g1 at *
  have HGZ := Lib.hid (fun W (hb : Below w2.heap.size w2 W) => GZ.out.below (HW.out.trans (hb.mono HW.out.size)))
  go_loopw [6] (fun i wr => ∃ k : Nat, i = .int .i64 k ∧ k ≤ 2 ∧ Hid (Below w2.heap.size w2 wr)) (fun i _ => 2 - (intOf i).toNat)
  case atStart => exact ⟨0, rfl, by omega, Lib.hid (Below.refl _ _)⟩
  case round =>
    obtain ⟨k, rfl, hk, S⟩ := hrel
    by_cases hlt : k < 2
    · obtain ⟨p, hp, hpz⟩ : ∃ p : Option Addr, (∀ W, Below w2.heap.size w2 W → W.cell? ⟨g1, k, none⟩ = some (.pointer p)) ∧ (∀ W, Below w2.heap.size w2 W → NoDisk p W) := by
        have hk2 : k = 0 ∨ k = 1 := by omega
        rcases hk2 with rfl | rfl
        · exact ⟨none, fun W hb => HC.out 0 W hb, fun W hb a ha => by cases ha⟩
        · exact ⟨some ⟨w.heap.size, 0, none⟩, fun W hb => HC.out 1 W hb, fun W hb a ha => by cases ha; exact ⟨_, rfl, HP.out W hb⟩⟩
      have HPZ := Lib.hid hpz
      have c0 := hp wr S.out
      have i1 : (0 : Int) ≤ (k : Int) := by omega
      have i2 : (k : Int) < 2 := by omega
      clear hp hpz
      go_wp2_with fail
      refine (Z.read p wr (HPZ.out wr S.out)).mono ?_
      rintro e W3 ⟨qr, cr, rfl, hb3⟩
      have S3 := Lib.hid (S.out.trans (hb3.mono S.out.size))
      clear hb3 c0
      go_wp2_with fail
      refine (Z.len p W3 (HPZ.out W3 S3.out)).mono ?_
      rintro e W4 ⟨rfl, hb⟩
      have S4 := Lib.hid (S3.out.trans (hb.mono S3.out.size))
      clear hb S3
      go_wp2_with fail
      refine (Z.firm p W4 (HPZ.out W4 S4.out)).mono ?_
      rintro e W5 ⟨rfl, hb⟩
      have S5 := Lib.hid (S4.out.trans (hb.mono S4.out.size))
      clear hb S4
      go_wp2_with fail
      refine (Z.steps p W5 (HPZ.out W5 S5.out)).mono ?_
      rintro e W6 ⟨rfl, hb⟩
      have S6 := Lib.hid (S5.out.trans (hb.mono S5.out.size))
      clear hb S5
      go_wp2_with fail
      refine (Z.up p W6 (HPZ.out W6 S6.out)).mono ?_
      rintro e W7 ⟨rfl, hb⟩
      have S7 := Lib.hid (S6.out.trans (hb.mono S6.out.size))
      clear hb S6
      go_wp2_with fail
      refine (Z.copy p W7 (HPZ.out W7 S7.out)).mono ?_
      rintro e W8 ⟨rfl, hb⟩
      have S8 := Lib.hid (S7.out.trans (hb.mono S7.out.size))
      clear hb S7
      go_wp2_with fail
      refine (Z.append p zs n q c W8 (HPZ.out W8 S8.out) HN.out (HGZ.out W8 S8.out)).mono ?_
      rintro e W9 ⟨rfl, hb⟩
      have S9 := Lib.hid (S8.out.trans (hb.mono S8.out.size))
      clear hb S8
      go_wp2_with fail
      refine (Z.sync p W9 (HPZ.out W9 S9.out)).mono ?_
      rintro e W10 ⟨rfl, hb⟩
      have S10 := Lib.hid (S9.out.trans (hb.mono S9.out.size))
      clear hb S9
      go_wp2_with fail
      refine (Z.next p zs n q c W10 (HPZ.out W10 S10.out) HN.out (HGZ.out W10 S10.out)).mono ?_
      rintro e W11 ⟨rfl, hb⟩
      have S11 := Lib.hid (S10.out.trans (hb.mono S10.out.size))
      clear hb S10
      go_wp2_with fail
      refine (Z.switch p W11 (HPZ.out W11 S11.out)).mono ?_
      rintro e W12 ⟨rfl, hb⟩
      have S12 := Lib.hid (S11.out.trans (hb.mono S11.out.size))
      clear hb S11
      go_wp2_with fail
      refine (Z.room p x W12 (HPZ.out W12 S12.out) HX.out).mono ?_
      rintro e W13 ⟨rfl, hb⟩
      have S13 := Lib.hid (S12.out.trans (hb.mono S12.out.size))
      clear hb S12
      go_wp2_with fail
      refine (Z.fuse p x W13 (HPZ.out W13 S13.out) HX.out).mono ?_
      rintro e W14 ⟨rfl, hb⟩
      have S14 := Lib.hid (S13.out.trans (hb.mono S13.out.size))
      clear hb S13
      go_wp2_with fail
      refine (Z.crash p x W14 (HPZ.out W14 S14.out) HX.out).mono ?_
      rintro e W15 ⟨rfl, hb⟩
      have S15 := Lib.hid (S14.out.trans (hb.mono S14.out.size))
      clear hb S14
      go_wp2_with fail
      refine (Z.wipe p W15 (HPZ.out W15 S15.out)).mono ?_
      rintro e W16 ⟨rfl, hb⟩
      have S16 := Lib.hid (S15.out.trans (hb.mono S15.out.size))
      clear hb S15
      go_wp2_with fail
      go_roundw
      case rel => exact ⟨k + 1, by go_num, by omega, S16⟩
      case measure => simp [intOf]; omega
    · obtain rfl : k = 2 := by omega
      have BW := Lib.hid (HW.out.trans (S.out.mono HW.out.size))
      go_wp2_with fail
      refine (awake_any F wr).mono ?_
      rintro e W7 ⟨rfl, hb7⟩
      have B7 := Lib.hid (BW.out.trans (hb7.mono BW.out.size))
      clear hb7
      go_wp2_with fail
      go_ret
      exact ⟨rfl, B7.out⟩
end Go.Proofs.Ytooljhdfmfkpeaa
