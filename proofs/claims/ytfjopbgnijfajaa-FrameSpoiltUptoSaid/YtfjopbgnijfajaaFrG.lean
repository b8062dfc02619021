/-
  The program's iterator over pieces: its contract.
-/
import Derived.Test.YtfjopbgnijfajaaFrF
import Derived.Test.YtfjopbgnijfajaaArrIn
import Derived.Test.YtfjopbgnijfajaaFrO
import Derived.Stop.RegionWithIn
import Derived.Sort.BigQuietIn
namespace Go.Proofs.Ytfjopbgnijfajaa
set_option linter.unusedSimpArgs false
set_option linter.unusedVariables false
open Go.RowKit Go.Shelf Sha
attribute [local go_sem] Oper.semAt_some
attribute [local go_sem ↓] execOp_loadHead execOp_neqHead
/-- What a caller's round answers: it goes on, or it has said 'no more'. -/
def YPost {w0 : World} (J Jx : List (Comes w0) → World → Prop) (K : World → World → Prop) (pre : List (Comes w0)) (W : World) (e : Ending) (W' : World) : Prop :=
  ∃ b : Bool, e = .returned (.bool b) ∧ (b = true → J pre W' ∧ K W W') ∧ (b = false → Jx pre W')
set_option maxRecDepth 100000 in
set_option maxHeartbeats 1000000 in
theorem pieces1_in (m : Nat) (h1 : 1 ≤ m) (w0 : World) (zs : List Int) (n : Nat) (p : Option Addr) (cap : Nat) (hn : zs.length = n) (h : GoodS w0 (zs, p, cap)) (hsm : n ≤ 1000000000) (l Bn : Nat) (J Jx : List (Comes w0) → World → Prop) (W : World)
    (hJ : AbidesFrom W.heap.size J)
    (hY : ∀ pre x W, J pre W → pre.length < n + 1 → YieldAt Fence.wide (m - 1) Try.prog l (encsP x) W fun e W' =>
      (e = .returned (.bool true) ∧ J (pre ++ [x]) W' ∧ KpB w0.heap.size Bn W W') ∨ (e = .returned (.bool false) ∧ Jx (pre ++ [x]) W'))
    (hBn : W.cell? ⟨Bn, 0, none⟩ = some (.slice p n cap)) (hw0 : w0.heap.size ≤ Bn) (hB0 : Below w0.heap.size w0 W) (h0 : J [] W) :
    CallsIn Fence.wide m Try.prog 41 #[.func (.yield l) #[] #[], .pointer (some ⟨Bn, 0, none⟩)] W fun e W' => (∃ v, e = .returned v) ∧
      ((∃ ys, (∃ k, Going zs (ys.map (·.1)) k ∧ Frm.stands (zs.drop k) = []) ∧ J ys W') ∨ (∃ pre, (∃ k, Going zs (pre.map (·.1)) k) ∧ Jx pre W')) := by
  have G := Lib.hid h
  have HN := Lib.hid hn
  have hm := h.max
  have hc : n ≤ cap := by rw [← hn]; exact h.le
  simp only at hm
  have HJ := Lib.hid hJ
  have HY := Lib.hid hY
  have HBY : Hid (Frm.Bytes zs) := h.bytes
  clear h hn hJ hY
  refine callsIn_of_wp Try.func41 rfl trivial ?_ rfl
  simp only [Try.ntmps41, List.size_toArray, List.length_cons, List.length_nil, Nat.reduceAdd, Nat.reduceSub, Array.replicate_succ, Array.replicate_zero, List.push_toArray, List.append_toArray, List.nil_append, List.cons_append]
  gi_wp2
  gi_loopw [3] (fun v wr => ∃ (k r c : Nat) (q : Option Addr) (pre : List (Comes w0)), .slice q r c = v ∧ k + r = n ∧ r ≤ c ∧ c ≤ cap ∧ Hid (At w0 q ((zs.drop k).map v8)) ∧ Hid (Going zs (pre.map (·.1)) k) ∧ Hid (J pre wr) ∧ Hid (Below w0.heap.size w0 wr) ∧ Hid (KpB w0.heap.size Bn W wr))
    (fun v _ => lenOf v)
  case atStart => exact ⟨0, n, cap, p, [], rfl, by omega, hc, Nat.le_refl _, Lib.hid (by simpa using G.out.at_), Lib.hid Going.nil, Lib.hid h0, Lib.hid hB0, Lib.hid (KpB.refl _ _ _)⟩
  case round =>
    obtain ⟨k, r, c, q, pre, rfl, hkr, hrc, hcc, HA, HG, HP, HB, HW⟩ := hrel
    have HDL := Lib.hid (show (zs.drop k).length = r by rw [List.length_drop, HN.out]; omega)
    by_cases h8 : r < 8
    · gi_wp2
      go_end0
      exact ⟨⟨_, rfl⟩, .inl ⟨pre, ⟨k, HG.out, stands_lt8 (by rw [HDL.out]; exact h8)⟩, HP.out⟩⟩
    · obtain ⟨b, off, rfl, hcell⟩ := HA.out.addr (by rw [List.length_map, HDL.out]; omega)
      have AW := Lib.hid (HA.out.below HB.out)
      obtain ⟨z, hz⟩ : ∃ z, z = (zs.drop k).take 8 := ⟨_, rfl⟩
      have hzl : z.length = 8 := by rw [hz, List.length_take, HDL.out]; omega
      have HZL := Lib.hid hzl
      have HZB := Lib.hid (show ∀ n ∈ z, 0 ≤ n ∧ n ≤ 255 from fun m hm => HBY.out m (List.mem_of_mem_drop (List.mem_of_mem_take (by rw [← hz]; exact hm))))
      have HR8 := Lib.hid (show wr.rangeAt b off (z.map v8) by
        have h1 := AW.out
        rw [show zs.drop k = z ++ (zs.drop k).drop 8 by rw [hz, List.take_append_drop], List.map_append] at h1
        exact h1.front.range)
      have HZ := Lib.hid hz
      have hszm : (Try.prog.info? 46).map (fun i => i.size) = some (z.map v8).length := by rw [sizeHead, List.length_map, hzl]
      have hsz0 : (Try.prog.info? 46).map (fun i => i.size) = some (z.map v8).toArray.size := by rw [sizeHead]; simp [hzl]
      obtain ⟨mm, hmm⟩ : ∃ m, m = Crc.leN ((zs.drop k).take 4) := ⟨_, rfl⟩
      have HLEN := Lib.hid (fun w => hlength_any z hzl HZB.out w)
      have HM4 := Lib.hid (show Crc.leN (z.take 4) = mm by rw [hmm, hz, List.take_take]; rfl)
      rw [HM4.out] at HLEN
      have HMM := Lib.hid hmm
      have hmlt : mm < 4294967296 := by
        have := Crc.leN_lt ((zs.drop k).take 4) (fun m hm => HBY.out m (List.mem_of_mem_drop (List.mem_of_mem_take hm)))
        rw [List.length_take, HDL.out, show min 4 r = 4 by omega, ← hmm] at this
        exact this
      clear hz hzl hmm hcell
      gi_wp2_with (first
        | (refine wpListIn_array rfl 46 _ rfl 5 8 _ 8 c (Try.underlying46) (Nat.le_refl _) rfl ?_)
        | (refine wpListIn_load_mid rfl 46 _ rfl b off rfl (z.map v8) _ HR8.out (Try.underlying46) rfl hszm ?_)
        | (refine wpListIn_alloc_arr rfl 46 rfl _ infoHead ?_)
        | (refine wpListIn_store_row rfl 46 _ _ rfl wr.heap.size (z.map v8).toArray rfl rfl _ _ (Blk.new _ _ _) hsz0 (by simp [HZL.out]) (by simp [Value.oneCell']) ?_; have hk4 : Blk ((wr.alloc (Obj.cells #[v8 0, v8 0, v8 0, v8 0, v8 0, v8 0, v8 0, v8 0] 46)).setRow wr.heap.size (z.map v8).toArray) wr.heap.size (z.map v8) 46 := (Blk.new _ _ _).row _; have hg4 : wr.grownBy ((wr.alloc (Obj.cells #[v8 0, v8 0, v8 0, v8 0, v8 0, v8 0, v8 0, v8 0] 46)).setRow wr.heap.size (z.map v8).toArray) none := (by rw [World.setRow_alloc_new]; exact World.grownBy_alloc _ _ _); obtain ⟨w4, hw4⟩ : ∃ x, x = (wr.alloc (Obj.cells #[v8 0, v8 0, v8 0, v8 0, v8 0, v8 0, v8 0, v8 0] 46)).setRow wr.heap.size (z.map v8).toArray := ⟨_, rfl⟩; rw [← hw4] at hk4 hg4 ⊢; have K4 := Lib.hid hk4; have G4 := Lib.hid hg4; clear hw4 hk4 hg4; have tk1 : True := trivial)
        | (have _t := tk1; refine wpListIn_load_row rfl 46 _ rfl _ rfl _ _ _ _ K4.out (Try.underlying46) rfl hsz0 ?_; clear tk1 _t)
        | (refine ⟨trivial, ?_⟩; gi_at_call 42; refine (callsIn_wide.2 (HLEN.out _)).mono ?_; rintro e w5 ⟨rfl, hw5⟩; have K5 := Lib.hid (show Blk w5 wr.heap.size (z.map v8) 46 by rw [hw5]; exact K4.out.old _); have G5 := Lib.hid (show wr.grownBy w5 none by rw [hw5]; exact G4.out.trans (World.grownBy_alloc _ _ none)); clear hw5)
        | (refine ⟨trivial, ?_⟩; gi_at_call 15; refine (callsIn_wide.2 (fsize_any _ _ (by omega))).mono ?_; rintro e w6 ⟨rfl, rfl⟩))
      have HGR := Lib.hid (G5.out)
      have P5 := Lib.hid (HJ.out _ _ _ none HP.out G5.out (fun r e => by cases e))
      by_cases hA : mm < 1 ∨ 4000 < mm
      · rw [show fsize (mm : Int) = 0 by unfold fsize; rw [if_pos (by omega)]]
        refine wpIn_region_quiet_lit rfl (by kernel_rfl) (by kernel_rfl) ?_
        repeat (first | gi_big_quiet_step (fail) | (refine wpQuietIn_step (fun _ _ _ _ => trivial) (fun K hK => ?_); go_simp; refine hK _ ?_; clear hK K))
        refine wpQuietIn_nil ?_
        rintro _ ⟨nq, rfl⟩
        gi_wp2
        refine bodyPost_ret (results_none rfl _ _ _) rfl ?_
        exact ⟨⟨_, rfl⟩, .inl ⟨pre, ⟨k, HG.out, stands_out (by rw [HDL.out]; exact h8) HMM.out (by rcases hA with h | h; exact .inl h; exact .inr (.inl h))⟩, HJ.out _ _ _ none P5.out (grownBy_drewN w5 nq) (fun r e => by cases e)⟩⟩
      · rw [show fsize (mm : Int) = 8 + (mm : Int) by unfold fsize; rw [if_neg (by omega)]]
        have hA1 : 1 ≤ mm := by omega
        have hA2 : mm ≤ 4000 := by omega
        clear hA
        by_cases hB : r < 8 + mm
        · have hlt' : decide ((r : Int) < 8 + (mm : Int)) = true := decide_eq_true (by omega)
          have he0 : ((8 + (mm : Int)) == 0) = false := by rw [beq_eq_false_iff_ne]; omega
          refine wpIn_region_quiet_lit rfl (by kernel_rfl) (by kernel_rfl) ?_
          repeat (first | gi_big_quiet_step (fail) | (refine wpQuietIn_step (fun _ _ _ _ => trivial) (fun K hK => ?_); go_simp; refine hK _ ?_; clear hK K))
          refine wpQuietIn_nil ?_
          rintro _ ⟨nq, rfl⟩
          gi_wp2
          refine bodyPost_ret (results_none rfl _ _ _) rfl ?_
          exact ⟨⟨_, rfl⟩, .inl ⟨pre, ⟨k, HG.out, stands_out (by rw [HDL.out]; exact h8) HMM.out (by rw [HDL.out]; exact .inr (.inr hB))⟩, HJ.out _ _ _ none P5.out (grownBy_drewN w5 nq) (fun r e => by cases e)⟩⟩
        · have hlt' : decide ((r : Int) < 8 + (mm : Int)) = false := decide_eq_false (by omega)
          have he0 : ((8 + (mm : Int)) == 0) = false := by rw [beq_eq_false_iff_ne]; omega
          obtain ⟨x, hx⟩ : ∃ x, x = ((zs.drop k).drop 8).take mm := ⟨_, rfl⟩
          have HXL := Lib.hid (show x.length = mm by rw [hx, List.length_take, List.length_drop, HDL.out]; omega)
          have HGX := Lib.hid (show GoodS w0 (x, some ⟨b, off + 8, none⟩, c - 8) from
            ⟨fun m hm => HBY.out m (List.mem_of_mem_drop (List.mem_of_mem_drop (List.mem_of_mem_take (by rw [← hx]; exact hm)))), by
              have h1 := cut_at 8 (8 + mm) (HA.out.sub 8 (8 + mm) c (by rw [List.length_map, HDL.out]; exact hrc))
              rw [part_8, ← hx, if_neg (by omega)] at h1
              simpa [Addr.add_mid] using h1, by simp only; rw [HXL.out]; omega, by simp only; omega, fun h => by cases h⟩)
          have hlen : pre.length < n + 1 := by
            have := HG.out.le.1
            rw [List.length_map] at this; omega
          have P6 := HJ.out _ _ _ none P5.out (grownBy_drewN w5 1) (fun r e => by cases e)
          obtain ⟨y, hyy⟩ : ∃ y : Comes w0, y.1 = (z, (x, some ⟨b, off + 8, none⟩, c - 8)) := ⟨⟨(z, (x, some ⟨b, off + 8, none⟩, c - 8)), HZL.out, HGX.out, by simp only; rw [HXL.out]; exact hA1, by simp only; rw [HXL.out]; exact hA2⟩, rfl⟩
          obtain ⟨fn, tm, as_, bo, hy, hR⟩ := HY.out pre y w5.drew P6 hlen
          unfold encsP cellS at hy
          simp only [hyy] at hy
          rw [show x.length = (8 + (mm : Int)).toNat - 8 by rw [HXL.out]; omega] at hy
          have hR2 := hR.mono (R' := YPost J Jx (KpB w0.heap.size Bn) (pre ++ [y]) w5.drew) (by
            rintro e W' (⟨rfl, h1, h2⟩ | ⟨rfl, h1⟩)
            · exact ⟨true, rfl, fun _ => ⟨h1, h2⟩, fun h => by cases h⟩
            · exact ⟨false, rfl, fun h => (by cases h), fun _ => h1⟩)
          have HYY := Lib.hid hyy
          have HX := Lib.hid hx
          clear hR hyy hx P6
          have hc8 : ¬ c = 8 := by omega
          have hi1 : (8 : Int) ≤ 8 + (mm : Int) := by omega
          have hi2 : 8 + (mm : Int) ≤ (c : Int) := by omega
          have hi3 : (0 : Int) ≤ 8 + (mm : Int) := by omega
          have hld : ∀ w', w' = w5.drew → (hloadOp 46 (.pointer (some ⟨wr.heap.size, 0, none⟩))).run Try.prog w' = .ok (.value (.agg (z.map v8).toArray)) w' := fun w' e => by rw [e]; exact load_head HZL.out K5.out.drew
          have hld5 := hld w5.drew rfl
          clear hld
          gi_region_with ((refine hR2.mono ?_; rintro e W3 ⟨bb, rfl, hT, hF⟩; have HT := Lib.hid hT; have HF := Lib.hid hF; clear hT hF))
          have HGO : Hid (Going zs ((pre ++ [y]).map (·.1)) (k + 8 + mm)) := by
            rw [List.map_append]
            exact Going.snoc y.1 mm HG.out HMM.out hA1 hA2 (by rw [HDL.out]; omega) (by rw [HYY.out]; exact HZ.out) (by rw [HYY.out]; exact HX.out)
          go_simp
          cases bb with
          | true =>
            obtain ⟨hJ3, hk3⟩ := HT.out rfl
            have b5 : Below w0.heap.size wr w5.drew := ((Below.refl w0.heap.size wr).grown G5.out (by have := HB.out.size; omega) (fun k e => by cases e)).drew
            have hbl : w5.drew.heap[Bn]? = wr.heap[Bn]? := G5.out.block Bn (World.block_lt_of_cell? wr ⟨Bn, 0, none⟩ ((World.cell?_of_block (w := W) (a := ⟨Bn, 0, none⟩) HW.out.2).trans hBn)) (by simp)
            have A3 : At w0 (if c = 8 + mm then some ⟨b, off, none⟩ else some ⟨b, off + (8 + mm), none⟩) ((zs.drop (k + 8 + mm)).map v8) := by
              have h1 := cut_at (8 + mm) r (HA.out.sub (8 + mm) r c (by rw [List.length_map, HDL.out]; exact hrc))
              rw [List.take_of_length_le (by rw [HDL.out]; exact Nat.le_refl _), List.drop_drop, show k + (8 + mm) = k + 8 + mm by omega] at h1
              simpa [Addr.add_mid] using h1
            have B3 := Lib.hid (HB.out.trans (b5.trans hk3.1))
            have W4 := Lib.hid (HW.out.trans (KpB.trans ⟨b5, hbl⟩ hk3))
            have A4 := Lib.hid A3
            have J3 := Lib.hid hJ3
            clear b5 hbl A3 hJ3 hk3
            gi_wp2
            exact ⟨⟨k + 8 + mm, r - (8 + mm), c - (8 + mm), _, pre ++ [y], rfl, by omega, by omega, by omega, A4, HGO, J3, B3, W4⟩, by simp [lenOf]; omega⟩
          | false =>
            have HX3 := Lib.hid (HF.out rfl)
            gi_wp2
            refine bodyPost_ret (results_none rfl _ _ _) rfl ?_
            exact ⟨⟨_, rfl⟩, .inr ⟨pre ++ [y], ⟨k + 8 + mm, HGO.out⟩, HX3.out⟩⟩
end Go.Proofs.Ytfjopbgnijfajaa
