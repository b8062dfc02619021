/-
  The reference of frames: stands, Split.
-/
import Derived.Test.YtfjopbgnijfajaaFrB
import Derived.Deep.QuietTactic
import Derived.BigQuiet
namespace Go.Proofs.Ytfjopbgnijfajaa
set_option linter.unusedSimpArgs false
set_option linter.unusedVariables false
open Go.RowKit Sha
theorem cut_at {w : World} {p : Option Addr} {zs : List Int} (l h : Nat) (hA : At w p (((zs.map v8).take h).drop l)) : At w p (((zs.take h).drop l).map v8) := by
  rwa [List.map_drop, List.map_take]
theorem Crc_u32 (zs : List Int) : v32 (Crc.sum zs) = .int .u32 (Frm.sumN zs : Nat) := rfl
/-- Bytes that are only read. -/
structure GoodB (w : World) (y : SHdr) : Prop where
  bytes : ∀ n ∈ y.1, 0 ≤ n ∧ n ≤ 255
  at_ : At w y.2.1 (y.1.map v8)
  le : y.1.length ≤ y.2.2
  max : y.2.2 ≤ 9223372036854775807
/-- What stands tells: a record of the bytes, or none. -/
def StDone (w0 w : World) (x : List Int) (e : Ending) (w' : World) : Prop :=
  ∃ q c, e = .returned (.slice q x.length c) ∧ GoodS w0 (x, q, c) ∧ ∃ m, w' = w.drewN m
theorem good_none (w : World) : GoodS w ([], none, 0) := ⟨by simp, At.nil _ _, by simp, by simp, fun _ => rfl⟩
theorem stands_lt8 {zs : List Int} (h : zs.length < 8) : Frm.stands zs = [] := by unfold Frm.stands; rw [if_pos h]
theorem stands_out {zs : List Int} (h8 : ¬ zs.length < 8) {k : Nat} (hk : k = Crc.leN (zs.take 4)) (h : k < 1 ∨ 4000 < k ∨ zs.length < 8 + k) : Frm.stands zs = [] := by
  subst hk; unfold Frm.stands; rw [if_neg h8, if_pos h]
theorem stands_in {zs : List Int} (h8 : ¬ zs.length < 8) {k : Nat} (hk : k = Crc.leN (zs.take 4)) (h : ¬ (k < 1 ∨ 4000 < k ∨ zs.length < 8 + k)) : Frm.stands zs = if Frm.sumN ((zs.drop 8).take k) = Crc.leN ((zs.drop 4).take 4) then (zs.drop 8).take k else [] := by
  subst hk; unfold Frm.stands; rw [if_neg h8, if_neg h]
theorem part_8 (zs : List Int) (k : Nat) : (zs.take (8 + k)).drop 8 = (zs.drop 8).take k := by rw [List.drop_take, show 8 + k - 8 = k by omega]
set_option maxRecDepth 100000 in
set_option maxHeartbeats 2000000 in
theorem rstands_any (w0 : World) (zs : List Int) (n : Nat) (p : Option Addr) (cap : Nat) (w : World) (hn : zs.length = n) (h : GoodB w0 (zs, p, cap)) (hB : Below w0.heap.size w0 w) :
    Calls Try.prog 36 #[.slice p n cap] w (StDone w0 w (Frm.stands zs)) := by
  have G := Lib.hid h
  have HN := Lib.hid hn
  have hm := h.max
  have hc : n ≤ cap := by rw [← hn]; exact h.le
  have AW := Lib.hid (h.at_.below hB)
  simp only at hm AW
  clear h
  by_cases h8 : n < 8
  · have HS := Lib.hid (stands_lt8 (zs := zs) (by rw [hn]; exact h8))
    clear hn
    go_enter Try.func36, Try.ntmps36
    go_wp2_with fail
    go_ret
    rw [HS.out]
    exact ⟨none, 0, rfl, good_none _, 0, rfl⟩
  · have h8' : ¬ zs.length < 8 := by rw [hn]; exact h8
    obtain ⟨k, hk⟩ : ∃ k, k = Crc.leN (zs.take 4) := ⟨_, rfl⟩
    have HNU := Lib.hid (fnumber_any zs (by omega) G.out.bytes p n cap w hn AW.out hc hm)
    rw [← hk] at HNU
    have hk32 : k < 4294967296 := by
      have := Crc.leN_lt (zs.take 4) (fun m hm => G.out.bytes m (List.mem_of_mem_take hm))
      rw [List.length_take, show min 4 zs.length = 4 by omega, ← hk] at this
      exact this
    by_cases hout : k < 1 ∨ 4000 < k ∨ n < 8 + k
    · have HS := Lib.hid (stands_out h8' hk (by rw [hn]; exact hout))
      clear hn hk h8'
      by_cases o1 : k < 1
      · go_enter Try.func36, Try.ntmps36
        go_wp2_with (go_at_call 43; refine HNU.out.mono ?_; rintro e w1 ⟨rfl, m1, rfl⟩)
        go_ret
        rw [HS.out]
        exact ⟨none, 0, rfl, good_none _, m1, rfl⟩
      · by_cases o2 : 4000 < k
        · go_enter Try.func36, Try.ntmps36
          go_wp2_with (go_at_call 43; refine HNU.out.mono ?_; rintro e w1 ⟨rfl, m1, rfl⟩)
          go_ret
          rw [HS.out]
          exact ⟨none, 0, rfl, good_none _, m1, rfl⟩
        · have o3 : n < 8 + k := by omega
          clear hout
          go_enter Try.func36, Try.ntmps36
          go_wp2_with (go_at_call 43; refine HNU.out.mono ?_; rintro e w1 ⟨rfl, m1, rfl⟩)
          go_ret
          rw [HS.out]
          exact ⟨none, 0, rfl, good_none _, m1, rfl⟩
    · have HS := Lib.hid (stands_in h8' hk (by rw [hn]; exact hout))
      have o1 : ¬ k < 1 := by omega
      have o2 : ¬ 4000 < k := by omega
      have o3 : ¬ n < 8 + k := by omega
      have hcl : (zs.map v8).length ≤ cap := by rw [List.length_map, hn]; exact hc
      obtain ⟨x, hx⟩ : ∃ x, x = (zs.drop 8).take k := ⟨_, rfl⟩
      have HXB := Lib.hid (show ∀ n ∈ x, 0 ≤ n ∧ n ≤ 255 from fun m hm => G.out.bytes m (by rw [hx] at hm; exact List.mem_of_mem_drop (List.mem_of_mem_take hm)))
      have HXL := Lib.hid (show x.length = k by rw [hx, List.length_take, List.length_drop, hn]; omega)
      have HPX := Lib.hid (show (zs.take (8 + k)).drop 8 = x by rw [hx]; exact part_8 zs k)
      have HD4 := Lib.hid (show (zs.take n).drop 4 = zs.drop 4 by rw [List.take_of_length_le (by rw [hn]; exact Nat.le_refl _)])
      have HL4 := Lib.hid (show (zs.drop 4).length = n - 4 by rw [List.length_drop, hn])
      rw [← hx] at HS
      obtain ⟨sn, hsn⟩ : ∃ s, s = Frm.sumN x := ⟨_, rfl⟩
      obtain ⟨st, hst⟩ : ∃ s, s = Crc.leN ((zs.drop 4).take 4) := ⟨_, rfl⟩
      rw [← hsn, ← hst] at HS
      have HSN := Lib.hid hsn
      have HST := Lib.hid hst
      clear hn hk h8' hout hx hsn hst
      obtain ⟨b, off, rfl, _⟩ := G.out.at_.addr (by rw [List.length_map, HN.out]; omega)
      have A8 := Lib.hid (show At w0 (some ⟨b, off + 8, none⟩) (x.map v8) by
        have h1 := cut_at 8 (8 + k) (G.out.at_.sub 8 (8 + k) cap hcl)
        rw [HPX.out, if_neg (by omega)] at h1
        simpa [Addr.add_mid] using h1)
      have A4 := Lib.hid (show At w0 (some ⟨b, off + 4, none⟩) ((zs.drop 4).map v8) by
        have h1 := cut_at 4 n (G.out.at_.sub 4 n cap hcl)
        rw [HD4.out, if_neg (by omega)] at h1
        simpa [Addr.add_mid] using h1)
      have HK8 := Lib.hid (show 8 + k - 8 = k by omega)
      clear hcl HPX HD4
      have HSV := Lib.hid (show v32 (Crc.sum x) = .int .u32 (sn : Int) by rw [HSN.out]; rfl)
      have QS := Lib.hid (fun (wq : World) (hB : Below w0.heap.size w0 wq) => (rsum_any x k (some ⟨b, off + 8, none⟩) (cap - 8) wq HXL.out.symm HXB.out (A8.out.below hB) (by omega) (by omega)).mono (fun e w' h => show e = .returned (.int .u32 (sn : Int)) ∧ w' = wq from ⟨by rw [h.1, HSV.out], h.2.symm⟩))
      have QN := Lib.hid (fun (wq : World) (hB : Below w0.heap.size w0 wq) => (fnumber_any (zs.drop 4) (by rw [HL4.out]; omega) (fun m hm => G.out.bytes m (List.mem_of_mem_drop hm)) (some ⟨b, off + 4, none⟩) (n - 4) (cap - 4) wq HL4.out (A4.out.below hB) (by omega) (by omega)).mono (fun e w' h => show e = .returned (.int .u32 (st : Int)) ∧ ∃ m, w' = wq.drewN m from ⟨by rw [h.1, ← HST.out], h.2⟩))
      by_cases hq : sn = st
      · rw [if_pos hq] at HS
        have hq' : ((sn : Int) == (st : Int)) = true := by rw [hq]; exact beq_self_eq_true _
        have hq2 : ((sn : Int) != (st : Int)) = false := by rw [bne, hq']; rfl
        clear hq
        go_enter Try.func36, Try.ntmps36
        go_wp2_with (first
          | (go_at_call 43; refine HNU.out.mono ?_; rintro e w1 ⟨rfl, m1, rfl⟩))
        have BQ := Lib.hid (below_drewN hB m1)
        obtain ⟨w1, hw1⟩ : ∃ x, x = w.drewN m1 := ⟨_, rfl⟩
        rw [← hw1] at BQ ⊢
        have HW1 := Lib.hid hw1
        clear hw1
        rw [HK8.out]
        go_quiet (first
          | (go_at_call 32; refine Calls.quiet_of_same (QS.out _ (below_drewN BQ.out _)))
          | (go_at_call 43; refine Calls.quiet_of (QN.out _ (below_drewN BQ.out _))))
        go_wp2_with fail
        go_ret
        rw [HS.out]
        exact ⟨some ⟨b, off + 8, none⟩, cap - 8, by rw [HXL.out]; rfl, ⟨HXB.out, A8.out, by simp only; rw [HXL.out]; omega, by simp only; omega, fun h => by cases h⟩, m1 + nq, by rw [HW1.out, World.drewN_drewN]⟩
      · rw [if_neg hq] at HS
        have hq' : ((sn : Int) == (st : Int)) = false := by rw [beq_eq_false_iff_ne]; omega
        have hq2 : ((sn : Int) != (st : Int)) = true := by rw [bne, hq']; rfl
        clear hq
        go_enter Try.func36, Try.ntmps36
        go_wp2_with (first
          | (go_at_call 43; refine HNU.out.mono ?_; rintro e w1 ⟨rfl, m1, rfl⟩))
        have BQ := Lib.hid (below_drewN hB m1)
        obtain ⟨w1, hw1⟩ : ∃ x, x = w.drewN m1 := ⟨_, rfl⟩
        rw [← hw1] at BQ ⊢
        have HW1 := Lib.hid hw1
        clear hw1
        rw [HK8.out]
        go_quiet (first
          | (go_at_call 32; refine Calls.quiet_of_same (QS.out _ (below_drewN BQ.out _)))
          | (go_at_call 43; refine Calls.quiet_of (QN.out _ (below_drewN BQ.out _))))
        go_wp2_with fail
        go_ret
        rw [HS.out]
        exact ⟨none, 0, rfl, good_none _, m1 + nq, by rw [HW1.out, World.drewN_drewN]⟩
theorem split_go {zs : List Int} {k : Nat} {l : List (List Int)} (h : Frm.split zs = (l ++ (Frm.split (zs.drop k)).1, k + (Frm.split (zs.drop k)).2)) (hne : Frm.stands (zs.drop k) ≠ []) :
    Frm.split zs = ((l ++ [Frm.stands (zs.drop k)]) ++ (Frm.split (zs.drop (k + 8 + (Frm.stands (zs.drop k)).length))).1, k + 8 + (Frm.stands (zs.drop k)).length + (Frm.split (zs.drop (k + 8 + (Frm.stands (zs.drop k)).length))).2) := by
  rw [h, Frm.split_some hne, List.drop_drop, show k + (8 + (Frm.stands (zs.drop k)).length) = k + 8 + (Frm.stands (zs.drop k)).length by omega]
  refine Prod.ext ?_ ?_
  · simp
  · simp only; omega
theorem split_stop {zs : List Int} {k : Nat} {l : List (List Int)} (h : Frm.split zs = (l ++ (Frm.split (zs.drop k)).1, k + (Frm.split (zs.drop k)).2)) (h0 : Frm.stands (zs.drop k) = []) : Frm.split zs = (l, k) := by
  rw [h, Frm.split_none h0]; simp
/-- What Split leaves: records of the call's own, and a place. -/
def SpDone (w0 : World) (r : List (List Int) × Nat) (e : Ending) (w : World) : Prop :=
  ∃ v ys, e = .returned (.tuple #[v, .int .i64 r.2]) ∧ ys.map (·.1) = r.1 ∧ OwnS w0.heap.size w v ys ∧ Below w0.heap.size w0 w
set_option maxRecDepth 100000 in
set_option maxHeartbeats 2000000 in
theorem rsplit_any (zs : List Int) (n : Nat) (p : Option Addr) (cap : Nat) (w : World) (hn : zs.length = n) (h : GoodS w (zs, p, cap)) (hsm : n ≤ 1000000) :
    Calls Try.prog 23 #[.slice p n cap] w (SpDone w (Frm.split zs)) := by
  have G := Lib.hid h
  have HN := Lib.hid hn
  have hm := h.max
  have hc : n ≤ cap := by rw [← hn]; exact h.le
  have hcl : (zs.map v8).length ≤ cap := by rw [List.length_map, hn]; exact hc
  simp only at hm
  clear h hn
  go_enter Try.func23, Try.ntmps23
  go_wp2_with fail
  go_loopw [4, 5, 6] (fun vv i _ wr => ∃ (k : Nat) (v : Value) (ys : List SHdr), i = .int .i64 k ∧ v = vv ∧ k ≤ n ∧ ys.length ≤ k ∧ Hid (Frm.split zs = (ys.map (·.1) ++ (Frm.split (zs.drop k)).1, k + (Frm.split (zs.drop k)).2)) ∧ Hid (OwnS w.heap.size wr v ys) ∧ Hid (Below w.heap.size w wr)) (fun _ i _ _ => n - (intOf i).toNat)
  case atStart => exact ⟨0, _, [], rfl, rfl, by omega, by simp, Lib.hid (by simp), Lib.hid (OwnS.nil _ _), Lib.hid (Below.refl _ _)⟩
  case round =>
    obtain ⟨k, v, ys, rfl, rfl, hk, hyk, HSP, HO, HB⟩ := hrel
    have HCUT : Hid (∀ w, (Instr.sliceAt 26 (.slice p n cap) (some (.int .i64 (k : Int))) none none).run Try.prog w = .ok (cutV p k n cap) w) := fun w => by
      have := run_cut_l (P := Try.prog) 26 5 p n cap Try.underlying26 kslice1 .i64 (k : Int) (by omega) (by omega) w
      rwa [Int.toNat_natCast] at this
    have AW := Lib.hid (G.out.at_.below HB.out)
    have HDK := Lib.hid (show (zs.take n).drop k = zs.drop k by rw [List.take_of_length_le (by rw [HN.out]; exact Nat.le_refl _)])
    have HDL := Lib.hid (show (zs.drop k).length = n - k by rw [List.length_drop, HN.out])
    have HDB := Lib.hid (show ∀ m ∈ zs.drop k, 0 ≤ m ∧ m ≤ 255 from fun m hm => G.out.bytes m (List.mem_of_mem_drop hm))
    obtain ⟨x, hx⟩ : ∃ x, x = Frm.stands (zs.drop k) := ⟨_, rfl⟩
    have HXK := Lib.hid (show x ≠ [] → 8 + x.length ≤ n - k by intro h; rw [← HDL.out, hx]; rw [hx] at h; exact (Frm.stands_length _ h).1)
    have HGO := Lib.hid (split_go HSP.out)
    have HST := Lib.hid (split_stop HSP.out)
    rw [← hx] at HGO HST
    obtain ⟨m, hmm⟩ : ∃ m, m = x.length := ⟨_, rfl⟩
    rw [← hmm] at HGO HXK
    have HM := Lib.hid hmm
    have HX := Lib.hid hx
    have GOAL : ∀ (p' : Option Addr), At wr p' ((zs.drop k).map v8) → Calls Try.prog 36 #[.slice p' (n - k) (cap - k)] wr (StDone wr wr x) := fun p' hA' => by
      rw [HX.out]
      exact rstands_any wr (zs.drop k) (n - k) p' (cap - k) wr HDL.out ⟨HDB.out, hA', by simp only; rw [HDL.out]; omega, by simp only; omega⟩ (Below.refl _ _)
    have GO := Lib.hid GOAL
    clear GOAL hx hmm
    by_cases hm0 : m = 0
    · subst hm0
      have HF := Lib.hid (HST.out (List.eq_nil_of_length_eq_zero HM.out.symm))
      clear HXK HGO HST
      go_wp2_with (first
        | (refine wpList_cut rfl 26 _ _ _ rfl p k n cap HCUT.out (zs.map v8) AW.out hcl (fun p' hA' => ?_); have A' := Lib.hid (by have h1 := cut_at k n hA'; rw [HDK.out] at h1; exact h1 : At wr p' ((zs.drop k).map v8)); clear hA')
        | (go_at_call 36; refine (GO.out _ A'.out).mono ?_; rintro e w2 ⟨q2, c2, rfl, hg2, m2, rfl⟩; rw [← HM.out]))
      go_ret2
      exact ⟨v, ys, by rw [HF.out]; rfl, by rw [HF.out], HO.out.on (below_drewN (Below.refl _ _) _), below_drewN HB.out _⟩
    · have hxne : x ≠ [] := fun h => hm0 (by rw [HM.out, h]; rfl)
      have hk8 := HXK.out hxne
      have HG2 := Lib.hid (HGO.out hxne)
      have hm0' : ((m : Int) == 0) = false := by rw [beq_eq_false_iff_ne]; omega
      clear HXK HGO HST hxne
      go_wp2_with (first
        | (refine wpList_cut rfl 26 _ _ _ rfl p k n cap HCUT.out (zs.map v8) AW.out hcl (fun p' hA' => ?_); have A' := Lib.hid (by have h1 := cut_at k n hA'; rw [HDK.out] at h1; exact h1 : At wr p' ((zs.drop k).map v8)); clear hA')
        | (go_at_call 36; refine (GO.out _ A'.out).mono ?_; rintro e w2 ⟨q2, c2, rfl, hg2, m2, hw2⟩; rw [← HM.out]; have C2 := Lib.hid (show OwnS w.heap.size w2 v ys by rw [hw2]; exact HO.out.on (below_drewN (Below.refl _ _) _)); have B2 := Lib.hid (show Below w.heap.size w w2 by rw [hw2]; exact below_drewN HB.out _); have G2 := Lib.hid (show GoodS w2 (x, q2, c2) by rw [hw2]; exact hg2.below (below_drewN (Below.refl _ _) _)); have hown0 := World.ownsRow_made (base := w.heap.size) (size := 1) (e := 5) w2 #[] 0 B2.out.size (by decide) rfl; have H0 := Lib.hid hown0; clear hown0 hw2 hg2; have hc2 := G2.out.le; have hx2 := G2.out.max; simp only at hc2 hx2; rw [← HM.out] at hc2; have tk1 : True := trivial)
        | (have _t := tk1; at_builtin; clear tk1 _t; refine wpList_app rfl (.tmp 17) (.tmp 18) 26 rfl w.heap.size 5 Try.underlying26 kbyte_info rfl _ 0 [] rfl H0.out q2 m c2 (x.map v8) rfl (G2.out.at_.alloc _) (by rw [List.length_map]; exact HM.out.symm) G2.out.nil hc2 (kone8 _) (by omega) (by unfold maxLen; omega) (by have := B2.out.size; simp; omega) ?_; intro v3 w3 hown3 hg3 hb3 hs3 _; simp only [Nat.zero_add, List.nil_append] at hown3; obtain ⟨q3, c3, rfl, _, _, _, _, _⟩ := own_at hown3; have C3 := Lib.hid (C2.out.grown8 hg3); have B3 := Lib.hid ((B2.out.alloc B2.out.size _).trans hb3); have R3 := Lib.hid (show RecO w.heap.size w3 (x, q3, c3) from ⟨G2.out.bytes, by have h1 := hown3; rw [HM.out] at h1; exact h1⟩); clear hown3 hg3 hb3; have tk2 : True := trivial)
        | (have _t := tk2; at_builtin; clear tk2 _t; refine wpList_app rfl (.tmp 16) (.tmp 20) 22 rfl w.heap.size 26 Try.underlying22 slice_info rfl v ys.length _ rfl (C3.out.own.alloc _) _ 1 1 [cellS (x, q3, c3)] rfl ?_ rfl (fun h => by cases h) (by omega) (by simp [cellS_one]) (by omega) (by unfold maxLen; omega) (by have := B3.out.size; simp; omega) ?_; (focus (have h1 := at_one w3 (cellS (x, q3, c3)) 26; unfold cellS at h1 ⊢; simp only [← HM.out] at h1 ⊢; exact h1)); intro v8' w8 hown8 hg8 hb8 hs8 _; have C8 := Lib.hid (C3.out.snoc R3.out hg8 hown8); have B8 := Lib.hid ((B3.out.alloc B3.out.size _).trans hb8); clear hown8 hg8 hb8))
      go_roundw
      case rel => exact ⟨k + 8 + m, _, ys ++ [(x, q3, c3)], by go_num, rfl, by omega, by rw [List.length_append]; simp; omega, Lib.hid (by rw [List.map_append]; exact HG2.out), C8, B8⟩
      case measure => simp [intOf]; omega
end Go.Proofs.Ytfjopbgnijfajaa
