/-
  The law package's act: a call of a disk. (Made by scripts/mkact7.py.)
-/
import Derived.Test.YtooljhdfmfkpeaaDkF
import Derived.Test.YtooljhdfmfkpeaaActD
namespace Go.Proofs.Ytooljhdfmfkpeaa
set_option linter.unusedSimpArgs false
set_option linter.unusedVariables false
open Go.RowKit Sha Dsk
def actS (s : DState) (kd num : Int) (zs : List Int) : DState :=
  if kd = 0 ∨ kd = 1 then appS s zs else if kd = 2 then syncS s else if kd = 3 then nextS s zs else if kd = 4 then swS s else if kd = 5 then roomS s num else if kd = 6 then fuseS s num else if kd = 7 then crashS s num else if kd = 8 then wipeS s else s
theorem steps_act (s : DState) (kd num : Int) (zs : List Int) : (actS s kd num zs).steps ≤ s.steps + 1 := by
  unfold actS
  split; exact steps_app s zs
  split; exact steps_sync s
  split; exact steps_next s zs
  split; exact steps_sw s
  split; rw [steps_room]; omega
  split; rw [steps_fuse]; omega
  split; rw [steps_crash]; omega
  split; exact Nat.le_succ _
  exact Nat.le_succ _
set_option maxRecDepth 100000 in
set_option maxHeartbeats 4000000 in
theorem act_any {R : DiskRep} (F : DisksOK R) (b : Nat) (fp : List Nat) (s : DState) (kd x : Int) (zs : List Int) (n : Nat) (p : Option Addr) (c : Nat) (w : World) (h : R w b fp s) (hx : fit64 x) (hn : zs.length = n) (hm : n ≤ 200) (hz : GoodC w zs p c) (ha : ApartC zs p fp) (hst : s.steps ≤ 1000) :
    Calls Try.prog 31 #[optr b, .agg #[i64v kd, i64v x, .slice p n c]] w (ODone R b fp (actS s kd x zs) (.tuple #[]) w) := by
  have K := Lib.hid F.ok.held
  have HX := Lib.hid hx
  have HA := Lib.hid ha
  have HN := Lib.hid hn
  have HST := Lib.hid hst
  have hb := (Below.refl w.heap.size w).alloc (Nat.le_refl _) (.cells #[i64v kd, i64v x, .slice p n c] 34)
  have HR := Lib.hid (K.out.on h hb)
  have HZ := Lib.hid (hz.below hb)
  have HT := Lib.hid (show Touch fp w _ from Touch.of_below hb)
  have hbx := Blk.new w #[i64v kd, i64v x, .slice p n c] 34
  have hc1 := hz.le
  have hc2 := hz.max
  rw [hn] at hc1
  clear h hx hz hn hst ha hb
  go_enter Try.func31, Try.ntmps31
  generalize hg : w.heap.size = g at *
  obtain ⟨w1, hw1⟩ : ∃ W, W = w.alloc (.cells #[i64v kd, i64v x, .slice p n c] 34) := ⟨_, rfl⟩
  rw [← hw1] at hbx HR HZ HT
  have c0 : w1.cell? ⟨g, 0, none⟩ = some (i64v kd) := hbx.cell 0
  have c1 : w1.cell? ⟨g, 1, none⟩ = some (i64v x) := hbx.cell 1
  have c2 : w1.cell? ⟨g, 2, none⟩ = some (.slice p n c) := hbx.cell 2
  clear hbx
  by_cases k0 : kd = 0
  · subst k0
    have HS := Lib.hid (show actS s 0 x zs = appS s zs from by unfold actS; simp)
    go_wp2_with (refine wpList_box_arr rfl 34 _ rfl _ rfl ?_; rw [hg, ← hw1]; clear hw1)
    refine (F.ok.append b fp s zs n p c w1 HR.out (by have := HST.out; omega) HN.out (by omega) HZ.out HA.out).mono ?_
    rintro e w2 ⟨rfl, fp2, hr, ht, hf⟩
    have R2 := Lib.hid hr
    have T2 := Lib.hid (HT.out.trans ht (From.refl _ _))
    have F2 := Lib.hid (show From fp fp2 w from fun k hk => by rcases hf k hk with h' | h'; exact .inl h'; exact .inr (Nat.le_trans HT.out.size h'))
    clear hr ht hf
    go_wp2_with fail
    go_end0
    exact ⟨rfl, fp2, by rw [HS.out]; exact R2.out, T2.out, F2.out⟩
  have z0 : (kd == 0) = false := by rw [beq_eq_false_iff_ne]; exact k0
  by_cases k1 : kd = 1
  · subst k1
    have HS := Lib.hid (show actS s 1 x zs = appS s zs from by unfold actS; simp)
    go_wp2_with (refine wpList_box_arr rfl 34 _ rfl _ rfl ?_; rw [hg, ← hw1]; clear hw1)
    refine (F.ok.append b fp s zs n p c w1 HR.out (by have := HST.out; omega) HN.out (by omega) HZ.out HA.out).mono ?_
    rintro e w2 ⟨rfl, fp2, hr, ht, hf⟩
    have R2 := Lib.hid hr
    have T2 := Lib.hid (HT.out.trans ht (From.refl _ _))
    have F2 := Lib.hid (show From fp fp2 w from fun k hk => by rcases hf k hk with h' | h'; exact .inl h'; exact .inr (Nat.le_trans HT.out.size h'))
    clear hr ht hf
    go_wp2_with fail
    go_end0
    exact ⟨rfl, fp2, by rw [HS.out]; exact R2.out, T2.out, F2.out⟩
  have z1 : (kd == 1) = false := by rw [beq_eq_false_iff_ne]; exact k1
  by_cases k2 : kd = 2
  · subst k2
    have HS := Lib.hid (show actS s 2 x zs = syncS s from by unfold actS; simp)
    go_wp2_with (refine wpList_box_arr rfl 34 _ rfl _ rfl ?_; rw [hg, ← hw1]; clear hw1)
    refine (F.ok.sync b fp s w1 HR.out (by have := HST.out; omega)).mono ?_
    rintro e w2 ⟨rfl, fp2, hr, ht, hf⟩
    have R2 := Lib.hid hr
    have T2 := Lib.hid (HT.out.trans ht (From.refl _ _))
    have F2 := Lib.hid (show From fp fp2 w from fun k hk => by rcases hf k hk with h' | h'; exact .inl h'; exact .inr (Nat.le_trans HT.out.size h'))
    clear hr ht hf
    go_wp2_with fail
    go_end0
    exact ⟨rfl, fp2, by rw [HS.out]; exact R2.out, T2.out, F2.out⟩
  have z2 : (kd == 2) = false := by rw [beq_eq_false_iff_ne]; exact k2
  by_cases k3 : kd = 3
  · subst k3
    have HS := Lib.hid (show actS s 3 x zs = nextS s zs from by unfold actS; simp)
    go_wp2_with (refine wpList_box_arr rfl 34 _ rfl _ rfl ?_; rw [hg, ← hw1]; clear hw1)
    refine (F.ok.next b fp s zs n p c w1 HR.out (by have := HST.out; omega) HN.out (by omega) HZ.out HA.out).mono ?_
    rintro e w2 ⟨rfl, fp2, hr, ht, hf⟩
    have R2 := Lib.hid hr
    have T2 := Lib.hid (HT.out.trans ht (From.refl _ _))
    have F2 := Lib.hid (show From fp fp2 w from fun k hk => by rcases hf k hk with h' | h'; exact .inl h'; exact .inr (Nat.le_trans HT.out.size h'))
    clear hr ht hf
    go_wp2_with fail
    go_end0
    exact ⟨rfl, fp2, by rw [HS.out]; exact R2.out, T2.out, F2.out⟩
  have z3 : (kd == 3) = false := by rw [beq_eq_false_iff_ne]; exact k3
  by_cases k4 : kd = 4
  · subst k4
    have HS := Lib.hid (show actS s 4 x zs = swS s from by unfold actS; simp)
    go_wp2_with (refine wpList_box_arr rfl 34 _ rfl _ rfl ?_; rw [hg, ← hw1]; clear hw1)
    refine (F.ok.switch b fp s w1 HR.out (by have := HST.out; omega)).mono ?_
    rintro e w2 ⟨rfl, fp2, hr, ht, hf⟩
    have R2 := Lib.hid hr
    have T2 := Lib.hid (HT.out.trans ht (From.refl _ _))
    have F2 := Lib.hid (show From fp fp2 w from fun k hk => by rcases hf k hk with h' | h'; exact .inl h'; exact .inr (Nat.le_trans HT.out.size h'))
    clear hr ht hf
    go_wp2_with fail
    go_end0
    exact ⟨rfl, fp2, by rw [HS.out]; exact R2.out, T2.out, F2.out⟩
  have z4 : (kd == 4) = false := by rw [beq_eq_false_iff_ne]; exact k4
  by_cases k5 : kd = 5
  · subst k5
    have HS := Lib.hid (show actS s 5 x zs = roomS s x from by unfold actS; simp)
    go_wp2_with (refine wpList_box_arr rfl 34 _ rfl _ rfl ?_; rw [hg, ← hw1]; clear hw1)
    refine (F.ok.room b fp s x w1 HR.out HX.out).mono ?_
    rintro e w2 ⟨rfl, fp2, hr, ht, hf⟩
    have R2 := Lib.hid hr
    have T2 := Lib.hid (HT.out.trans ht (From.refl _ _))
    have F2 := Lib.hid (show From fp fp2 w from fun k hk => by rcases hf k hk with h' | h'; exact .inl h'; exact .inr (Nat.le_trans HT.out.size h'))
    clear hr ht hf
    go_wp2_with fail
    go_end0
    exact ⟨rfl, fp2, by rw [HS.out]; exact R2.out, T2.out, F2.out⟩
  have z5 : (kd == 5) = false := by rw [beq_eq_false_iff_ne]; exact k5
  by_cases k6 : kd = 6
  · subst k6
    have HS := Lib.hid (show actS s 6 x zs = fuseS s x from by unfold actS; simp)
    go_wp2_with (refine wpList_box_arr rfl 34 _ rfl _ rfl ?_; rw [hg, ← hw1]; clear hw1)
    refine (F.ok.fuse b fp s x w1 HR.out HX.out).mono ?_
    rintro e w2 ⟨rfl, fp2, hr, ht, hf⟩
    have R2 := Lib.hid hr
    have T2 := Lib.hid (HT.out.trans ht (From.refl _ _))
    have F2 := Lib.hid (show From fp fp2 w from fun k hk => by rcases hf k hk with h' | h'; exact .inl h'; exact .inr (Nat.le_trans HT.out.size h'))
    clear hr ht hf
    go_wp2_with fail
    go_end0
    exact ⟨rfl, fp2, by rw [HS.out]; exact R2.out, T2.out, F2.out⟩
  have z6 : (kd == 6) = false := by rw [beq_eq_false_iff_ne]; exact k6
  by_cases k7 : kd = 7
  · subst k7
    have HS := Lib.hid (show actS s 7 x zs = crashS s x from by unfold actS; simp)
    go_wp2_with (refine wpList_box_arr rfl 34 _ rfl _ rfl ?_; rw [hg, ← hw1]; clear hw1)
    refine (F.ok.crash b fp s x w1 HR.out HX.out).mono ?_
    rintro e w2 ⟨rfl, fp2, hr, ht, hf⟩
    have R2 := Lib.hid hr
    have T2 := Lib.hid (HT.out.trans ht (From.refl _ _))
    have F2 := Lib.hid (show From fp fp2 w from fun k hk => by rcases hf k hk with h' | h'; exact .inl h'; exact .inr (Nat.le_trans HT.out.size h'))
    clear hr ht hf
    go_wp2_with fail
    go_end0
    exact ⟨rfl, fp2, by rw [HS.out]; exact R2.out, T2.out, F2.out⟩
  have z7 : (kd == 7) = false := by rw [beq_eq_false_iff_ne]; exact k7
  by_cases k8 : kd = 8
  · subst k8
    have HS := Lib.hid (show actS s 8 x zs = wipeS s from by unfold actS; simp)
    go_wp2_with (refine wpList_box_arr rfl 34 _ rfl _ rfl ?_; rw [hg, ← hw1]; clear hw1)
    refine (F.ok.wipe b fp s w1 HR.out).mono ?_
    rintro e w2 ⟨rfl, fp2, hr, ht, hf⟩
    have R2 := Lib.hid hr
    have T2 := Lib.hid (HT.out.trans ht (From.refl _ _))
    have F2 := Lib.hid (show From fp fp2 w from fun k hk => by rcases hf k hk with h' | h'; exact .inl h'; exact .inr (Nat.le_trans HT.out.size h'))
    clear hr ht hf
    go_wp2_with fail
    go_end0
    exact ⟨rfl, fp2, by rw [HS.out]; exact R2.out, T2.out, F2.out⟩
  have z8 : (kd == 8) = false := by rw [beq_eq_false_iff_ne]; exact k8
  have HS := Lib.hid (show actS s kd x zs = s from by unfold actS; simp only [k0, k1, k2, k3, k4, k5, k6, k7, k8, or_self, if_false])
  clear k0 k1 k2 k3 k4 k5 k6 k7 k8
  go_wp2_with (refine wpList_box_arr rfl 34 _ rfl _ rfl ?_; rw [hg, ← hw1]; clear hw1)
  go_end0
  exact ⟨rfl, fp, by rw [HS.out]; exact HR.out, HT.out, From.refl _ _⟩
end Go.Proofs.Ytooljhdfmfkpeaa
