/-
  The program's slices.DeleteFunc at api.Hint (written by mk9.py from Del.src).
-/
import Derived.Test.YtokpabkcaofahaaGreatPb29
import Derived.Test.YtokpabkcaofahaaGreatPb27
namespace Go.Proofs.YtokpabkcaofahaaGreat
section
set_option linter.unusedSimpArgs false
set_option linter.unusedVariables false
open Go.RowKit Sha Fct
theorem zero1_H : (Tryz.prog.info? 97).map (fun i => i.zero) = some (some (.agg (hcells (0, 0, Fld.zero32) none 0).toArray)) := by
  have h := info_H
  cases hq : Tryz.prog.info? 97 with
  | none => rw [hq] at h; cases h
  | some i => rw [hq] at h; simp at h; simp [h.1]
theorem zeroV_H (w : World) : (zeroValue 97).run Tryz.prog w = .ok (.agg (hcells (0, 0, Fld.zero32) none 0).toArray) w := by
  have h := zero1_H
  cases hq : Tryz.prog.info? 97 with
  | none => rw [hq] at h; cases h
  | some i => rw [hq] at h; simp at h; simp [zeroValue, typeInfo, hq, h]
theorem execOp_allocOH (ρ : Operand → Value) (dst : Option Tmp) (ty : TypeId) (pos : String) (after : Array Edge) (guard : Option (Nat × Bool)) :
    execOp ρ { dst := dst, op := .alloc 97, type := ty, pos := pos, after := after, guard := guard } = allocOp 97 := by unfold allocOp; rfl
theorem execOp_storeOH (ρ : Operand → Value) (dst : Option Tmp) (x y : Operand) (ty : TypeId) (pos : String) (after : Array Edge) (guard : Option (Nat × Bool)) :
    execOp ρ { dst := dst, op := .store 97 x y, type := ty, pos := pos, after := after, guard := guard } = storeOp 97 (ρ x) (ρ y) := by unfold storeOp; rfl
theorem alloc_OH (w : World) : (allocOp 97).run Tryz.prog w = .ok (.value (.pointer (some ⟨w.heap.size, 0, none⟩))) (w.alloc (.cells (hcells (0, 0, Fld.zero32) none 0).toArray 97)) := run_allocOp w zero1_H
theorem storeN_OH (w : World) {x : Int × Int × Fct.Id} (hx : sH.ok x) (q : Option Addr) (c : Nat) : (storeOp 97 (.pointer (some ⟨w.heap.size, 0, none⟩)) (.agg (hcells x q c).toArray)).run Tryz.prog (w.alloc (.cells (hcells (0, 0, Fld.zero32) none 0).toArray 97)) = .ok .skip (w.alloc (.cells (hcells x q c).toArray 97)) := by
  have hl : (hcells x q c).length = 34 := sH.len q c hx
  refine run_storeNew w (by rw [isize_H]; simp [hl]) (by rw [List.size_toArray, List.size_toArray, hl]; exact zlen_H) ?_
  have h1 := sH.one x q c
  simp only [List.all_toArray, List.all_eq_true]
  exact h1
/-- What a deletion leaves. -/
def DltH (mb : Nat) (Pr : Int × Int × Fct.Id → Bool) (ys : List (Hd (Int × Int × Fct.Id))) (I : World → Nat → Prop) (w : World) (B : Nat) (v : Value) (e : Ending) (w' : World) : Prop :=
  ∃ v', e = .returned v' ∧ Rws sH 97 w' B v' (ys.filter fun y => !Pr y.1) ∧ I w' ys.length ∧ Chg (fun k => v.ownBlock = some k ∨ k = mb) w w'
attribute [local go_sem ↓] execOp_loadOH execOp_allocOH execOp_storeOH execOp_sliceH
set_option maxRecDepth 100000 in
set_option maxHeartbeats 4000000 in
theorem del_H (mb : Nat) (cap : Value) (Pr : Int × Int × Fct.Id → Bool) (ys : List (Hd (Int × Int × Fct.Id))) (I : World → Nat → Prop) (HP : PrdH mb cap Pr ys I) (w : World) (B : Nat) (v : Value) (h : Rws sH 97 w B v ys) (hI : I w 0) (hn : ys.length ≤ 1000000000) :
    Calls Tryz.prog 166 #[v, .func (.func 167) #[] #[cap]] w (DltH mb Pr ys I w B v) := by
  have HIX := Lib.hid (idx_H mb cap Pr ys I HP w B v h hI hn)
  by_cases h0 : ixH Pr ys = ys.length
  · obtain ⟨p, c, rfl, _⟩ := h.told
    have HR := Lib.hid h
    have HF := Lib.hid (show (ys.filter fun y => !Pr y.1) = ys from List.filter_eq_self.2 fun y hy => by
      obtain ⟨i, hi, rfl⟩ := List.getElem_of_mem hy
      have := List.not_of_lt_findIdx (p := fun y : Hd (Int × Int × Fct.Id) => Pr y.1) (xs := ys) (i := i) (by unfold ixH at h0; rw [h0]; exact hi)
      simpa using this)
    have HM := Lib.hid (HP.map _ _ hI)
    clear h hI
    go_enter Tryz.func166, Tryz.ntmps166
    go_wp2_with fail
    refine HIX.out.mono ?_
    rintro e w2 ⟨r, rfl, hr, hg2⟩
    rcases hr with ⟨hr, _, hI2⟩ | ⟨_, hr, _⟩
    rotate_left
    · omega
    subst hr
    have HG2 := Lib.hid hg2
    have HI2 := Lib.hid hI2
    clear hg2 hI2
    go_wp2_with fail
    go_ret
    refine ⟨_, rfl, ?_, HI2.out, (Chg.refl _ w).grown HG2.out fun k hk _ => Or.inr (by cases hk; rfl)⟩
    rw [HF.out]; exact HR.out.map_ HG2.out HM.out
  · have hlt : ixH Pr ys < ys.length := by
      have : ixH Pr ys ≤ ys.length := List.findIdx_le_length
      omega
    obtain ⟨g, cp, rest, rfl, hBg, hcp, hmx, hk, hl, hl2⟩ := own_whole h.own (by omega)
    obtain ⟨n, hnl⟩ : ∃ n, n = ys.length := ⟨_, rfl⟩
    obtain ⟨ix, hix⟩ : ∃ i, i = ixH Pr ys := ⟨_, rfl⟩
    rw [← hix] at hlt
    have hrest : rest.length = (cp - n) * 34 := by
      rw [List.length_append, hl, ← hnl] at hl2
      have e : sH.n = 34 := rfl
      rw [e] at hl2
      rw [Nat.sub_mul]; omega
    -- behind the first one
    have h1 : Pr ys[ix].1 = true := by
      subst hix
      exact List.findIdx_getElem (p := fun y : Hd (Int × Int × Fct.Id) => Pr y.1) (xs := ys) (w := hlt)
    have hF0 : (ys.take ix).filter (fun y => !Pr y.1) = ys.take ix := List.filter_eq_self.2 fun y hy => by
      obtain ⟨i, hi, rfl⟩ := List.getElem_of_mem hy
      rw [List.length_take] at hi
      have := List.not_of_lt_findIdx (p := fun y : Hd (Int × Int × Fct.Id) => Pr y.1) (xs := ys) (i := i) (by rw [hix] at hi; unfold ixH at hi; omega)
      simpa using this
    have hF1 : (ys.take (ix + 1)).filter (fun y => !Pr y.1) = ys.take ix := by
      rw [filter_upto _ _ _ hlt, hF0]; simp [h1]
    have hM : MidB sH w g 97 (ys.take ix) (sH.row ys[ix]) (ys.drop (ix + 1)) rest := by
      unfold MidB
      rw [← flat_el h.ok ix hlt]; exact hk
    have hG0 : (sH.row ys[ix]).length = (ix + 1 - ix) * 34 := by
      rw [Nat.add_sub_cancel_left, Nat.one_mul]; exact sH.len _ _ (h.ok _ (List.getElem_mem hlt))
    have hFl : (ys.take ix).length = ix := by rw [List.length_take]; omega
    rw [← hF1] at hM hFl
    have HM := Lib.hid hM
    have HR := Lib.hid h
    have HK := Lib.hid hk
    have HMB := Lib.hid (HP.map _ _ hI)
    have HNL := Lib.hid hnl
    have HX := Lib.hid hix
    have HG0 := Lib.hid hG0
    have HFL := Lib.hid hFl
    have HRE := Lib.hid hrest
    rw [← hnl] at hcp hlt ⊢
    generalize sH.row ys[ix] = G0 at *
    clear hnl hix hM h hI hk hl hl2 h1 hF0 hF1 hG0 hFl hrest
    go_enter Tryz.func166, Tryz.ntmps166
    go_wp2_with fail
    rw [HNL.out]
    refine HIX.out.mono ?_
    rintro e w2 ⟨r, rfl, hr, hg2⟩
    rcases hr with ⟨_, hr, _⟩ | ⟨hr, _, hI2⟩
    · omega
    rw [← HX.out] at hr hI2
    subst hr
    rw [← HNL.out]
    have HM2 := Lib.hid (HM.out.kept hg2 fun e => isMap_ne HMB.out HK.out (by cases e; rfl))
    have HI2 := Lib.hid hI2
    have HC2 := Lib.hid ((Chg.refl (fun k => k = g ∨ k = mb) w).grown hg2 fun k hk _ => Or.inr (by cases hk; rfl))
    clear hg2 hI2
    have hm1 : ((ix : Int) == -1) = false := by rw [beq_eq_false_iff_ne]; omega
    go_wp2_with fail
    go_loopw [5, 6] (fun vi vj wr => ∃ (i j : Nat) (G : List Value), vi = .int .i64 i ∧ vj = .int .i64 j ∧ i < j ∧ j ≤ n ∧ Hid (((ys.take j).filter fun y => !Pr y.1).length = i) ∧ Hid (G.length = (j - i) * 34) ∧ Hid (MidB sH wr g 97 ((ys.take j).filter fun y => !Pr y.1) G (ys.drop j) rest) ∧ Hid (I wr j) ∧ Hid (Chg (fun k => k = g ∨ k = mb) w wr)) (fun _ j _ => n - (intOf j).toNat)
    case atStart => exact ⟨ix, ix + 1, G0, rfl, by go_num, by omega, by omega, HFL, HG0, HM2, HI2, HC2⟩
    case round =>
      obtain ⟨i, j, G, rfl, rfl, hij, hjn, HF, HG, HB, HI, HC⟩ := hrel
      have HFO := Lib.hid (show ∀ y ∈ (ys.take j).filter (fun y => !Pr y.1), sH.ok y.1 from fun y hy => HR.out.ok y (List.mem_of_mem_take (List.mem_filter.1 hy).1))
      by_cases hjl : j < n
      · have hjy : j < ys.length := by rw [← HNL.out]; exact hjl
        have hdr : ys.drop j = ys[j] :: ys.drop (j + 1) := List.drop_eq_getElem_cons hjy
        have hfu := filter_upto (fun y : Hd (Int × Int × Fct.Id) => !Pr y.1) ys j hjy
        have hb1 := HB.out
        rw [hdr] at hb1
        have hoky := HR.out.ok _ (List.getElem_mem hjy)
        have hca := fun w h => HP.call w j hjy h
        obtain ⟨y, hy⟩ : ∃ y, y = ys[j] := ⟨_, rfl⟩
        rw [← hy] at hfu hb1 hoky hca
        have HFU := Lib.hid hfu
        have HOK := Lib.hid hoky
        have HCA := Lib.hid hca
        have hr2 : wr.rangeAt g (j * 34) (hcells y.1 y.2.1 y.2.2) := hb1.range HFO.out HF.out HG.out (by omega)
        have l1 := load_OH hoky hr2
        have al := alloc_OH wr
        have sN := storeN_OH wr hoky y.2.1 y.2.2
        have hbk : Blk (wr.alloc (.cells (hcells y.1 y.2.1 y.2.2).toArray 97)) wr.heap.size (hcells y.1 y.2.1 y.2.2) 97 := Blk.new wr _ 97
        have hg2 := alloc_grown wr (.cells (hcells y.1 y.2.1 y.2.2).toArray 97) none
        have HI2 := Lib.hid (HP.stays _ _ _ none HI.out hg2 (fun k hk => by cases hk))
        have HB2 := Lib.hid (hb1.kept hg2 (by simp))
        have HC2 := Lib.hid (HC.out.grown hg2 (by intro k hk; cases hk))
        obtain ⟨b0, hb0⟩ : ∃ b, b = wr.heap.size := ⟨_, rfl⟩
        rw [← hb0] at al sN hbk
        have HBK := Lib.hid hbk
        have l2 := load_OH hoky hbk.range
        obtain ⟨F, hF⟩ : ∃ F, F = (ys.take j).filter (fun y : Hd (Int × Int × Fct.Id) => !Pr y.1) := ⟨_, rfl⟩
        rw [← hF] at HF HFO HFU HB2
        clear hF hb0 hy hfu hb1 hoky hca hdr hr2 hg2 hbk HB HI HC
        generalize wr.alloc (.cells (hcells (0, 0, Fld.zero32) none 0).toArray 97) = w1 at *
        generalize wr.alloc (.cells (hcells y.1 y.2.1 y.2.2).toArray 97) = w2 at *
        have hjn2 : (0 : Int) ≤ (j : Int) ∧ (j : Int) < (n : Int) := by omega
        have hin2 : (0 : Int) ≤ (i : Int) ∧ (i : Int) < (n : Int) := by omega
        go_wp2_with fail
        refine (HCA.out _ HI2.out).mono ?_
        rintro e w3 ⟨rfl, hI3, hg3⟩
        have HM2 := Lib.hid (HP.map _ _ HI2.out)
        have HB3 := Lib.hid (HB2.out.kept hg3 (fun e => isMap_ne HM2.out (show Blk w2 g _ _ from HB2.out) (by cases e; rfl)))
        have HK3 := Lib.hid (blk_grown HBK.out hg3 (fun e => isMap_ne HM2.out HBK.out (by cases e; rfl)))
        have HI3 := Lib.hid hI3
        have HC3 := Lib.hid (HC2.out.grown hg3 fun k hk _ => Or.inr (by cases hk; rfl))
        clear hI3 hg3 l1 l2 al sN
        cases hp : Pr y.1 with
        | true =>
          have HFU2 := Lib.hid (show (ys.take (j + 1)).filter (fun y : Hd (Int × Int × Fct.Id) => !Pr y.1) = F by rw [HFU.out, hp]; simp)
          clear hp
          go_wp2_with fail
          go_roundw
          case rel =>
            refine ⟨i, j + 1, G ++ sH.row y, rfl, by go_num, by omega, by omega, ?_, ?_, ?_, HI3, HC3⟩
            · rw [HFU2.out]; exact HF
            · refine Lib.hid ?_
              rw [List.length_append, HG.out, show (sH.row y).length = 34 from sH.len _ _ HOK.out, show j + 1 - i = (j - i) + 1 by omega, Nat.succ_mul]
            · rw [HFU2.out]; exact Lib.hid HB3.out.skip
          case measure => simp [intOf]; omega
        | false =>
          have HFU2 := Lib.hid (show (ys.take (j + 1)).filter (fun y : Hd (Int × Int × Fct.Id) => !Pr y.1) = F ++ [y] by rw [HFU.out, hp]; simp)
          clear hp
          obtain ⟨k1, k2, k3⟩ := HB3.out.keep HFO.out HOK.out HF.out HG.out hij
          have st : (storeOp 97 (.pointer (some ⟨g, i * 34, none⟩)) (.agg (hcells y.1 y.2.1 y.2.2).toArray)).run Tryz.prog w3 = .ok .skip (w3.setCells g (i * 34) (sH.row y)) := k3 isize_H
          have hg4 := setCells_grown w3 g (i * 34) (sH.row y)
          have l3 := load_OH HOK.out HK3.out.range
          have HI4 := Lib.hid (HP.stays _ _ _ (some g) HI3.out hg4 (fun k hk => by cases hk; exact ⟨_, _, HB3.out⟩))
          have HC4 := Lib.hid (HC3.out.grown hg4 fun k hk _ => Or.inl (by cases hk; rfl))
          have HB4 := Lib.hid k1
          have HG4 := Lib.hid k2
          clear k1 k2 k3 hg4
          have e1 : sH.n = 34 := rfl
          rw [e1] at HB4
          generalize w3.setCells g (i * 34) (sH.row y) = w4 at *
          clear e1
          go_wp2_with fail
          go_roundw
          case rel =>
            refine ⟨i + 1, j + 1, _, by go_num, by go_num, by omega, by omega, ?_, HG4, ?_, HI4, HC4⟩
            · rw [HFU2.out]; refine Lib.hid ?_; rw [List.length_append, HF.out]; rfl
            · rw [HFU2.out]; exact HB4
          case measure => simp [intOf]; omega
      · obtain rfl : j = n := by omega
        have hdr : ys.drop j = [] := List.drop_eq_nil_of_le (by rw [HNL.out]; omega)
        have htk : ys.take j = ys := List.take_of_length_le (by rw [HNL.out]; omega)
        rw [hdr] at HB
        rw [htk] at HB HF HFO
        have hz := zsize_H
        obtain ⟨zz, hzz⟩ : ∃ zz : Value, zz = .agg (hcells (0, 0, Fld.zero32) none 0).toArray := ⟨_, rfl⟩
        have hzv := zeroV_H
        rw [← hzz] at hz hzv
        have hz1 : ∀ v ∈ zz.cells.toList, v.oneCell' = true := by rw [hzz]; exact sH.one _ _ _
        have hZl : (Builtin.zeroCells zz.cells (j - i)).toList.length = (j - i) * 34 := by rw [Array.length_toList, size_zeroCells, hz]
        obtain ⟨hown, hth⟩ := HB.out.clear HFO.out HF.out HG.out hZl (by omega) hBg hcp hmx HRE.out
        have cl := run_clearS (P := Tryz.prog) wr Tryz.underlying43 hzv (by omega) hz1 g (i * 34) (j - i) (cp - i) (by omega) (by rw [hz]; exact hth)
        have hg4 := setCells_grown wr g (i * 34) (Builtin.zeroCells zz.cells (j - i)).toList
        have HI4 := Lib.hid (HP.stays _ _ _ (some g) HI.out hg4 (fun k hk => by cases hk; exact ⟨_, _, HB.out⟩))
        have HC4 := Lib.hid (HC.out.grown hg4 fun k hk _ => Or.inl (by cases hk; rfl))
        have HO4 := Lib.hid hown
        have k0 := cut_lH (some ⟨g, 0, none⟩) j cp i (by omega) hcp
        simp only [if_neg (show ¬ (cp = i) by omega), Option.map_some, Addr.add_mid, Nat.zero_add] at k0
        have k1 := cut_hH (some ⟨g, 0, none⟩) j cp i (by omega)
        clear hown hth hg4 hz hzv hz1 hZl hzz hdr htk
        have e1 : sH.n = 34 := rfl
        rw [e1] at HO4
        clear e1
        generalize wr.setCells g (i * 34) (Builtin.zeroCells zz.cells (j - i)).toList = w4 at *
        have hfl := HF.out
        generalize j - i = dl at *
        generalize cp - i = dc at *
        go_wp2_with (at_builtin; refine clear_law _ rfl (.tmp 38) 43 rfl _ rfl (cl _) ?_)
        go_ret
        have hold : ∀ y ∈ ys, sH.Good w4 y.1 y.2.1 y.2.2 ∧ U8 w4 y.2.1 (sH.byt y.1) := fun y hy => by
          have hk := u8_keeps HC4.out fun k cs hb => by
            rintro (e | e)
            · subst e; exact absurd (blk_ty hb HK.out) (by decide)
            · exact isMap_ne HMB.out hb e.symm
          exact ⟨good_blk (HR.out.good y hy).1 (HR.out.good y hy).2 hk, (HR.out.good y hy).2.on hk⟩
        refine ⟨_, rfl, ⟨?_, fun y hy => hold y (List.mem_filter.1 hy).1⟩, by rw [← HNL.out]; exact HI4.out, HC4.out.mono fun k _ hk => hk.imp (fun e => by rw [e]; rfl) id⟩
        rw [hfl]; exact HO4.out
end
end Go.Proofs.YtokpabkcaofahaaGreat
