/-
  The program's iterator over pieces: its contract.
  A caller that gathers what an iterator of pieces hands it: what it holds between two rounds, what a round leaves. No function of the program is named here.
  The program's frames: bytes gathered into new ones (the library's own texts, walked), Put, Join.
-/
import Derived.Test.YtbogjfmefkhglaaGreatP17
import Derived.Stop.RegionWithIn
import Derived.Sort.BigQuietIn
import Derived.Test.YtbogjfmefkhglaaGreatP4
import Derived.Lib.AppendZeros
namespace Go.Proofs.YtbogjfmefkhglaaGreat
section
set_option linter.unusedSimpArgs false
set_option linter.unusedVariables false
open Go.RowKit Go.Shelf Sha
attribute [local go_sem] Oper.semAt_some
attribute [local go_sem ↓] execOp_loadHead execOp_neqHead
/-- What a caller's round answers: it goes on, or it has said 'no more'. -/
def YPost {w0 : World} (J Jx : List (Comes w0) → World → Prop) (K : World → World → Prop) (pre : List (Comes w0)) (W : World) (e : Ending) (W' : World) : Prop :=
  ∃ b : Bool, e = .returned (.bool b) ∧ (b = true → J pre W' ∧ K W W') ∧ (b = false → Jx pre W')
set_option maxRecDepth 100000 in
set_option maxHeartbeats 1000000 in
theorem pieces1_in (m : Nat) (h1 : 1 ≤ m) (w0 : World) (zs : List Int) (n : Nat) (p : Option Addr) (cap : Nat) (hn : zs.length = n) (h : GoodS w0 (zs, p, cap)) (hsm : n ≤ 1000000000) (l Bn : Nat) (J Jx : List (Comes w0) → World → Prop) (W : World)
    (hJ : AbidesFrom W.heap.size J)
    (hY : ∀ pre x W, J pre W → pre.length < n + 1 → YieldAt Fence.wide (m - 1) Tryz.prog l (encsP x) W fun e W' =>
      (e = .returned (.bool true) ∧ J (pre ++ [x]) W' ∧ KpB w0.heap.size Bn W W') ∨ (e = .returned (.bool false) ∧ Jx (pre ++ [x]) W'))
    (hBn : W.cell? ⟨Bn, 0, none⟩ = some (.slice p n cap)) (hw0 : w0.heap.size ≤ Bn) (hB0 : Below w0.heap.size w0 W) (h0 : J [] W) :
    CallsIn Fence.wide m Tryz.prog 92 #[.func (.yield l) #[] #[], .pointer (some ⟨Bn, 0, none⟩)] W fun e W' => (∃ v, e = .returned v) ∧
      ((∃ ys, (∃ k, Going zs (ys.map (·.1)) k ∧ Frm.stands (zs.drop k) = []) ∧ J ys W') ∨ (∃ pre, (∃ k, Going zs (pre.map (·.1)) k) ∧ Jx pre W')) := by
  have G := Lib.hid h
  have HN := Lib.hid hn
  have hm := h.max
  have hc : n ≤ cap := by rw [← hn]; exact h.le
  simp only at hm
  have HJ := Lib.hid hJ
  have HY := Lib.hid hY
  have HBY : Hid (Frm.Bytes zs) := h.bytes
  clear h hn hJ hY
  refine callsIn_of_wp Tryz.func92 rfl trivial ?_ rfl
  simp only [Tryz.ntmps92, List.size_toArray, List.length_cons, List.length_nil, Nat.reduceAdd, Nat.reduceSub, Array.replicate_succ, Array.replicate_zero, List.push_toArray, List.append_toArray, List.nil_append, List.cons_append]
  gi_wp2
  gi_loopw [3] (fun v wr => ∃ (k r c : Nat) (q : Option Addr) (pre : List (Comes w0)), .slice q r c = v ∧ k + r = n ∧ r ≤ c ∧ c ≤ cap ∧ Hid (At w0 q ((zs.drop k).map v8)) ∧ Hid (Going zs (pre.map (·.1)) k) ∧ Hid (J pre wr) ∧ Hid (Below w0.heap.size w0 wr) ∧ Hid (KpB w0.heap.size Bn W wr))
    (fun v _ => lenOf v)
  case atStart => exact ⟨0, n, cap, p, [], rfl, by omega, hc, Nat.le_refl _, Lib.hid (by simpa using G.out.at_), Lib.hid Going.nil, Lib.hid h0, Lib.hid hB0, Lib.hid (KpB.refl _ _ _)⟩
  case round =>
    obtain ⟨k, r, c, q, pre, rfl, hkr, hrc, hcc, HA, HG, HP, HB, HW⟩ := hrel
    have HDL := Lib.hid (show (zs.drop k).length = r by rw [List.length_drop, HN.out]; omega)
    by_cases h8 : r < 8
    · gi_wp2
      go_end0
      exact ⟨⟨_, rfl⟩, .inl ⟨pre, ⟨k, HG.out, stands_lt8 (by rw [HDL.out]; exact h8)⟩, HP.out⟩⟩
    · obtain ⟨b, off, rfl, hcell⟩ := HA.out.addr (by rw [List.length_map, HDL.out]; omega)
      have AW := Lib.hid (HA.out.below HB.out)
      obtain ⟨z, hz⟩ : ∃ z, z = (zs.drop k).take 8 := ⟨_, rfl⟩
      have hzl : z.length = 8 := by rw [hz, List.length_take, HDL.out]; omega
      have HZL := Lib.hid hzl
      have HZB := Lib.hid (show ∀ n ∈ z, 0 ≤ n ∧ n ≤ 255 from fun m hm => HBY.out m (List.mem_of_mem_drop (List.mem_of_mem_take (by rw [← hz]; exact hm))))
      have HR8 := Lib.hid (show wr.rangeAt b off (z.map v8) by
        have h1 := AW.out
        rw [show zs.drop k = z ++ (zs.drop k).drop 8 by rw [hz, List.take_append_drop], List.map_append] at h1
        exact h1.front.range)
      have HZ := Lib.hid hz
      have hszm : (Tryz.prog.info? 85).map (fun i => i.size) = some (z.map v8).length := by rw [sizeHead, List.length_map, hzl]
      have hsz0 : (Tryz.prog.info? 85).map (fun i => i.size) = some (z.map v8).toArray.size := by rw [sizeHead]; simp [hzl]
      obtain ⟨mm, hmm⟩ : ∃ m, m = Crc.leN ((zs.drop k).take 4) := ⟨_, rfl⟩
      have HLEN := Lib.hid (fun w => hlength_any z hzl HZB.out w)
      have HM4 := Lib.hid (show Crc.leN (z.take 4) = mm by rw [hmm, hz, List.take_take]; rfl)
      rw [HM4.out] at HLEN
      have HMM := Lib.hid hmm
      have hmlt : mm < 4294967296 := by
        have := Crc.leN_lt ((zs.drop k).take 4) (fun m hm => HBY.out m (List.mem_of_mem_drop (List.mem_of_mem_take hm)))
        rw [List.length_take, HDL.out, show min 4 r = 4 by omega, ← hmm] at this
        exact this
      clear hz hzl hmm hcell
      gi_wp2_with (first
        | (refine wpListIn_array rfl 85 _ rfl 5 8 _ 8 c (Tryz.underlying85) (Nat.le_refl _) rfl ?_)
        | (refine wpListIn_load_mid rfl 85 _ rfl b off rfl (z.map v8) _ HR8.out (Tryz.underlying85) rfl hszm ?_)
        | (refine wpListIn_alloc_arr rfl 85 rfl _ infoHead ?_)
        | (refine wpListIn_store_row rfl 85 _ _ rfl wr.heap.size (z.map v8).toArray rfl rfl _ _ (Blk.new _ _ _) hsz0 (by simp [HZL.out]) (by simp [Value.oneCell']) ?_; have hk4 : Blk ((wr.alloc (Obj.cells #[v8 0, v8 0, v8 0, v8 0, v8 0, v8 0, v8 0, v8 0] 85)).setRow wr.heap.size (z.map v8).toArray) wr.heap.size (z.map v8) 85 := (Blk.new _ _ _).row _; have hg4 : wr.grownBy ((wr.alloc (Obj.cells #[v8 0, v8 0, v8 0, v8 0, v8 0, v8 0, v8 0, v8 0] 85)).setRow wr.heap.size (z.map v8).toArray) none := (by rw [World.setRow_alloc_new]; exact World.grownBy_alloc _ _ _); obtain ⟨w4, hw4⟩ : ∃ x, x = (wr.alloc (Obj.cells #[v8 0, v8 0, v8 0, v8 0, v8 0, v8 0, v8 0, v8 0] 85)).setRow wr.heap.size (z.map v8).toArray := ⟨_, rfl⟩; rw [← hw4] at hk4 hg4 ⊢; have K4 := Lib.hid hk4; have G4 := Lib.hid hg4; clear hw4 hk4 hg4; have tk1 : True := trivial)
        | (have _t := tk1; refine wpListIn_load_row rfl 85 _ rfl _ rfl _ _ _ _ K4.out (Tryz.underlying85) rfl hsz0 ?_; clear tk1 _t)
        | (refine ⟨trivial, ?_⟩; gi_at_call 93; refine (callsIn_wide.2 (HLEN.out _)).mono ?_; rintro e w5 ⟨rfl, hw5⟩; have K5 := Lib.hid (show Blk w5 wr.heap.size (z.map v8) 85 by rw [hw5]; exact K4.out.old _); have G5 := Lib.hid (show wr.grownBy w5 none by rw [hw5]; exact G4.out.trans (World.grownBy_alloc _ _ none)); clear hw5)
        | (refine ⟨trivial, ?_⟩; gi_at_call 66; refine (callsIn_wide.2 (fsize_any _ _ (by omega))).mono ?_; rintro e w6 ⟨rfl, rfl⟩))
      have HGR := Lib.hid (G5.out)
      have P5 := Lib.hid (HJ.out _ _ _ none HP.out G5.out (fun r e => by cases e))
      by_cases hA : mm < 1 ∨ 4000 < mm
      · rw [show fsize (mm : Int) = 0 by unfold fsize; rw [if_pos (by omega)]]
        refine wpIn_region_quiet_lit rfl (by kernel_rfl) (by kernel_rfl) ?_
        repeat (first | gi_big_quiet_step (fail) | (refine wpQuietIn_step (fun _ _ _ _ => trivial) (fun K hK => ?_); go_simp; refine hK _ ?_; clear hK K))
        refine wpQuietIn_nil ?_
        rintro _ ⟨nq, rfl⟩
        gi_wp2
        refine bodyPost_ret (results_none rfl _ _ _) rfl ?_
        exact ⟨⟨_, rfl⟩, .inl ⟨pre, ⟨k, HG.out, stands_out (by rw [HDL.out]; exact h8) HMM.out (by rcases hA with h | h; exact .inl h; exact .inr (.inl h))⟩, HJ.out _ _ _ none P5.out (grownBy_drewN w5 nq) (fun r e => by cases e)⟩⟩
      · rw [show fsize (mm : Int) = 8 + (mm : Int) by unfold fsize; rw [if_neg (by omega)]]
        have hA1 : 1 ≤ mm := by omega
        have hA2 : mm ≤ 4000 := by omega
        clear hA
        by_cases hB : r < 8 + mm
        · have hlt' : decide ((r : Int) < 8 + (mm : Int)) = true := decide_eq_true (by omega)
          have he0 : ((8 + (mm : Int)) == 0) = false := by rw [beq_eq_false_iff_ne]; omega
          refine wpIn_region_quiet_lit rfl (by kernel_rfl) (by kernel_rfl) ?_
          repeat (first | gi_big_quiet_step (fail) | (refine wpQuietIn_step (fun _ _ _ _ => trivial) (fun K hK => ?_); go_simp; refine hK _ ?_; clear hK K))
          refine wpQuietIn_nil ?_
          rintro _ ⟨nq, rfl⟩
          gi_wp2
          refine bodyPost_ret (results_none rfl _ _ _) rfl ?_
          exact ⟨⟨_, rfl⟩, .inl ⟨pre, ⟨k, HG.out, stands_out (by rw [HDL.out]; exact h8) HMM.out (by rw [HDL.out]; exact .inr (.inr hB))⟩, HJ.out _ _ _ none P5.out (grownBy_drewN w5 nq) (fun r e => by cases e)⟩⟩
        · have hlt' : decide ((r : Int) < 8 + (mm : Int)) = false := decide_eq_false (by omega)
          have he0 : ((8 + (mm : Int)) == 0) = false := by rw [beq_eq_false_iff_ne]; omega
          obtain ⟨x, hx⟩ : ∃ x, x = ((zs.drop k).drop 8).take mm := ⟨_, rfl⟩
          have HXL := Lib.hid (show x.length = mm by rw [hx, List.length_take, List.length_drop, HDL.out]; omega)
          have HGX := Lib.hid (show GoodS w0 (x, some ⟨b, off + 8, none⟩, c - 8) from
            ⟨fun m hm => HBY.out m (List.mem_of_mem_drop (List.mem_of_mem_drop (List.mem_of_mem_take (by rw [← hx]; exact hm)))), by
              have h1 := cut_at 8 (8 + mm) (HA.out.sub 8 (8 + mm) c (by rw [List.length_map, HDL.out]; exact hrc))
              rw [part_8, ← hx, if_neg (by omega)] at h1
              simpa [Addr.add_mid] using h1, by simp only; rw [HXL.out]; omega, by simp only; omega, fun h => by cases h⟩)
          have hlen : pre.length < n + 1 := by
            have := HG.out.le.1
            rw [List.length_map] at this; omega
          have P6 := HJ.out _ _ _ none P5.out (grownBy_drewN w5 1) (fun r e => by cases e)
          obtain ⟨y, hyy⟩ : ∃ y : Comes w0, y.1 = (z, (x, some ⟨b, off + 8, none⟩, c - 8)) := ⟨⟨(z, (x, some ⟨b, off + 8, none⟩, c - 8)), HZL.out, HGX.out, by simp only; rw [HXL.out]; exact hA1, by simp only; rw [HXL.out]; exact hA2⟩, rfl⟩
          obtain ⟨fn, tm, as_, bo, hy, hR⟩ := HY.out pre y w5.drew P6 hlen
          unfold encsP cellS at hy
          simp only [hyy] at hy
          rw [show x.length = (8 + (mm : Int)).toNat - 8 by rw [HXL.out]; omega] at hy
          have hR2 := hR.mono (R' := YPost J Jx (KpB w0.heap.size Bn) (pre ++ [y]) w5.drew) (by
            rintro e W' (⟨rfl, h1, h2⟩ | ⟨rfl, h1⟩)
            · exact ⟨true, rfl, fun _ => ⟨h1, h2⟩, fun h => by cases h⟩
            · exact ⟨false, rfl, fun h => (by cases h), fun _ => h1⟩)
          have HYY := Lib.hid hyy
          have HX := Lib.hid hx
          clear hR hyy hx P6
          have hc8 : ¬ c = 8 := by omega
          have hi1 : (8 : Int) ≤ 8 + (mm : Int) := by omega
          have hi2 : 8 + (mm : Int) ≤ (c : Int) := by omega
          have hi3 : (0 : Int) ≤ 8 + (mm : Int) := by omega
          have hld : ∀ w', w' = w5.drew → (hloadOp 85 (.pointer (some ⟨wr.heap.size, 0, none⟩))).run Tryz.prog w' = .ok (.value (.agg (z.map v8).toArray)) w' := fun w' e => by rw [e]; exact load_head HZL.out K5.out.drew
          have hld5 := hld w5.drew rfl
          clear hld
          gi_region_with ((refine hR2.mono ?_; rintro e W3 ⟨bb, rfl, hT, hF⟩; have HT := Lib.hid hT; have HF := Lib.hid hF; clear hT hF))
          have HGO : Hid (Going zs ((pre ++ [y]).map (·.1)) (k + 8 + mm)) := by
            rw [List.map_append]
            exact Going.snoc y.1 mm HG.out HMM.out hA1 hA2 (by rw [HDL.out]; omega) (by rw [HYY.out]; exact HZ.out) (by rw [HYY.out]; exact HX.out)
          go_simp
          cases bb with
          | true =>
            obtain ⟨hJ3, hk3⟩ := HT.out rfl
            have b5 : Below w0.heap.size wr w5.drew := ((Below.refl w0.heap.size wr).grown G5.out (by have := HB.out.size; omega) (fun k e => by cases e)).drew
            have hbl : w5.drew.heap[Bn]? = wr.heap[Bn]? := G5.out.block Bn (World.block_lt_of_cell? wr ⟨Bn, 0, none⟩ ((World.cell?_of_block (w := W) (a := ⟨Bn, 0, none⟩) HW.out.2).trans hBn)) (by simp)
            have A3 : At w0 (if c = 8 + mm then some ⟨b, off, none⟩ else some ⟨b, off + (8 + mm), none⟩) ((zs.drop (k + 8 + mm)).map v8) := by
              have h1 := cut_at (8 + mm) r (HA.out.sub (8 + mm) r c (by rw [List.length_map, HDL.out]; exact hrc))
              rw [List.take_of_length_le (by rw [HDL.out]; exact Nat.le_refl _), List.drop_drop, show k + (8 + mm) = k + 8 + mm by omega] at h1
              simpa [Addr.add_mid] using h1
            have B3 := Lib.hid (HB.out.trans (b5.trans hk3.1))
            have W4 := Lib.hid (HW.out.trans (KpB.trans ⟨b5, hbl⟩ hk3))
            have A4 := Lib.hid A3
            have J3 := Lib.hid hJ3
            clear b5 hbl A3 hJ3 hk3
            gi_wp2
            exact ⟨⟨k + 8 + mm, r - (8 + mm), c - (8 + mm), _, pre ++ [y], rfl, by omega, by omega, by omega, A4, HGO, J3, B3, W4⟩, by simp [lenOf]; omega⟩
          | false =>
            have HX3 := Lib.hid (HF.out rfl)
            gi_wp2
            refine bodyPost_ret (results_none rfl _ _ _) rfl ?_
            exact ⟨⟨_, rfl⟩, .inr ⟨pre ++ [y], ⟨k + 8 + mm, HGO.out⟩, HX3.out⟩⟩
end
section
set_option linter.unusedSimpArgs false
set_option linter.unusedVariables false
open Go.RowKit Go.Shelf Sha
theorem grownBy_below {W W' : World} (h : Below W.heap.size W W') : W.grownBy W' none := ⟨h.os, h.tape, h.output, h.size, fun k hk _ => h.block k hk⟩
theorem keepsOthers_below {W W' : World} (h : Below W.heap.size W W') : KeepsOthers W W' := KeepsOthers.of_grownBy (grownBy_below h) (fun j o e => by cases e)
theorem boxed_below {W W' : World} {B : Nat} {t : TypeId} {v : Value} (h : Boxed W B t v) (hb : Below W.heap.size W W') : Boxed W' B t v := (hb.block B h.lt).trans h
theorem wpIn_cut2 {F : Fence} {m : Nat} {P : Program} {s : Code} {K : Act → World → Prop} {Q' : Exit → Act → World → Prop} {a : Act} {w : World} (R : Act → World → Prop)
    (rest : ∀ a' w', R a' w' → K a' w') (first : s.wpIn F m P (fun e a' w' => e = .normal ∧ R a' w') a w) : s.wpIn F m P (Exit.then K Q') a w :=
  Code.wpIn_mono (by rintro e a' w' ⟨rfl, h⟩; exact rest _ _ h) first
theorem RecO.kept {B : Nat} {w w' : World} {y : SHdr} {row : Option Nat} (h : RecO B w y) (hg : w.grownBy w' row) (hr : ∀ r, row = some r → ∃ o : Obj, w.heap[r]? = some o ∧ o.isCells = false) : RecO B w' y :=
  h.carry fun k c fz hh => by
    rw [hg.block k (Array.getElem?_eq_some_iff.1 hh).1 (fun e => ?_)]; exact hh
    obtain ⟨o, ho, hc⟩ := hr k e.symm
    rw [hh] at ho; cases ho; cases hc
theorem OwnS.kept {B : Nat} {w w' : World} {v : Value} {ys : List SHdr} {row : Option Nat} (h : OwnS B w v ys) (hg : w.grownBy w' row) (hr : ∀ r, row = some r → ∃ o : Obj, w.heap[r]? = some o ∧ o.isCells = false) : OwnS B w' v ys := by
  refine ⟨h.own.kept hg ?_, fun y hy => (h.good y hy).kept hg hr⟩
  rcases h.own.2 with ⟨rfl, _⟩ | ⟨g, cap, cur, rfl, _, hgb, _⟩
  · exact .inl rfl
  · refine .inr fun e => ?_
    obtain ⟨o, ho, hc⟩ := hr g (by rw [← e]; rfl)
    rw [hgb] at ho; cases ho; cases hc
theorem Ints8.kept {B : Nat} {w w' : World} {y : SHdr} {row : Option Nat} (h : Ints8 w (cellS y)) (hy : RecO B w y) (hg : w.grownBy w' row) (hr : ∀ r, row = some r → ∃ o : Obj, w.heap[r]? = some o ∧ o.isCells = false) : Ints8 w' (cellS y) := by
  refine h.carry fun g e => hg.block g (hy.own.lt g e).2 fun e' => ?_
  obtain ⟨o, ho, hc⟩ := hr g e'.symm
  rcases hy.own.2 with ⟨hv, _⟩ | ⟨g', cap, cur, hv, _, hgb, _⟩
  · rw [hv] at e; cases e
  · rw [hv] at e; cases e
    rw [hgb] at ho; cases ho; cases hc
theorem boxed_ne {W : World} {B k : Nat} {t e : TypeId} {u : Value} {c : Array Value} {fz : Nat × Nat} (h : Boxed W B t u) (hk : W.heap[k]? = some (Obj.cells c e fz)) (hte : t ≠ e) : k ≠ B := by
  rintro rfl
  rw [show W.heap[k]? = _ from h] at hk
  injection hk with hk; injection hk with _ ht
  exact hte ht
theorem RecO.setBox {B Bx : Nat} {w : World} {t : TypeId} {u : Value} {y : SHdr} (h : RecO B w y) (hb : Boxed w Bx t u) (ht : t ≠ 5) (u' : Value) : RecO B (w.setCell ⟨Bx, 0, none⟩ u') y :=
  h.carry fun k c fz hh => by rw [Below.heap_setCell _ _ _ k (boxed_ne hb hh ht)]; exact hh
theorem Ints8.setBox {B Bx : Nat} {w : World} {t : TypeId} {u : Value} {y : SHdr} (hi : Ints8 w (cellS y)) (h : RecO B w y) (hb : Boxed w Bx t u) (ht : t ≠ 5) (u' : Value) : Ints8 (w.setCell ⟨Bx, 0, none⟩ u') (cellS y) :=
  hi.carry fun g e => by
    rcases h.own.2 with ⟨hv, _⟩ | ⟨g', cap, cur, hv, _, hgb, _⟩
    · rw [hv] at e; cases e
    · rw [hv] at e; cases e
      exact Below.heap_setCell _ _ _ _ (boxed_ne hb hgb ht)
theorem OwnS.setBox {B Bx : Nat} {w : World} {t : TypeId} {u v : Value} {ys : List SHdr} (h : OwnS B w v ys) (hb : Boxed w Bx t u) (ht : t ≠ 5) (ht2 : t ≠ 28) (u' : Value) : OwnS B (w.setCell ⟨Bx, 0, none⟩ u') v ys :=
  ⟨h.own.kept (grownBy_setCell' w Bx u') (.inr (hb.not_row ht2 h.own).symm), fun y hy => (h.good y hy).setBox hb ht u'⟩
theorem ints_snoc {B : Nat} {w w' : World} {v : Value} {ys : List SHdr} {y : SHdr} {o : Obj} (h : OwnS B w v ys) (hi : Ints8 w (cellS y)) (hy : RecO B w y) (hg : (w.alloc o).grownBy w' v.ownBlock) : Ints8 w' (cellS y) :=
  hi.carry fun g e => by
    have hl := (hy.own.lt g e).2
    rcases hy.own.2 with ⟨hv, _⟩ | ⟨g', cap, cur, hv, _, hgb, _⟩
    · rw [hv] at e; cases e
    · rw [hv] at e; cases e
      dsimp only at hl
      rw [hg.block _ (by simp; omega) ?_, (World.grownBy_alloc w o none).block _ hl (by simp)]
      intro e'
      rcases h.own.2 with ⟨hv', _⟩ | ⟨g2, _, _, hv', _, hh', _⟩
      · rw [hv'] at e'; cases e'
      · rw [hv'] at e'
        cases e'
        rw [hh'] at hgb
        injection hgb with hgb; injection hgb with _ ht
        exact us_ne ht.symm
theorem OwnS.weak {B B' : Nat} {w : World} {v : Value} {ys : List SHdr} (h : OwnS B w v ys) (hb : B' ≤ B) : OwnS B' w v ys := ⟨own_weak h.own hb, fun y hy => ⟨(h.good y hy).bytes, own_weak (h.good y hy).own hb⟩⟩
/-- What a caller that gathers records holds: the slice so far in its variable. -/
def GathP {w0 : World} (B : Nat) (t : TypeId) (pre : List (Comes w0)) (W : World) : Prop :=
  ∃ v ys, Boxed W B t v ∧ OwnS (B + 1 + 1 + 1) W v ys ∧ (∀ y ∈ ys, Ints8 W (cellS y)) ∧ ys.map (·.1) = pre.map (·.1.2.1)
theorem gathP_own {w0 : World} (B : Nat) (t : TypeId) : Own (fun (pre : List (Comes w0)) W => GathP B t pre W) := by
  rintro s X Y row ⟨v, ys, h1, h2, h3, h4⟩ hg hr
  refine ⟨v, ys, h1.kept hg (fun e => ?_), h2.kept hg hr, fun y hy => (h3 y hy).kept (h2.good y hy) hg hr, h4⟩
  obtain ⟨o, ho, hc⟩ := hr B e.symm
  rw [show X.heap[B]? = _ from h1] at ho; cases ho; cases hc
/-- How far a caller has come. -/
def farP {w0 : World} (pre : List (Comes w0)) : Nat := farOf (pre.map (·.1))
theorem farP_le {w0 : World} (pre : List (Comes w0)) : farP pre ≤ 4008 * pre.length := by
  unfold farP
  induction pre with
  | nil => simp [farOf]
  | cons y r ih =>
    have h4 := y.2.2.2.2
    simp only [farOf, List.map_cons, List.sum_cons, List.length_cons, List.map_map] at ih ⊢
    omega
theorem farP_snoc {w0 : World} (pre : List (Comes w0)) (y : Comes w0) : farP (pre ++ [y]) = farP pre + (8 + y.1.2.1.length) := by
  unfold farP; rw [List.map_append]; exact farOf_snoc _ _
/-- .. and its variables. -/
def HoldP {w0 : World} (B : Nat) (sv : Value) (pre : List (Comes w0)) (W : World) : Prop :=
  (∀ y ∈ pre, y.1.1 = hd y.1.2.1) ∧ GathP B 59 pre W ∧ Boxed W (B + 1) 3 (.int .i64 (farP pre : Nat)) ∧ Boxed W (B + 1 + 1) 28 sv
theorem holdP_own {w0 : World} (B : Nat) (sv : Value) : Own (fun (pre : List (Comes w0)) W => HoldP B sv pre W) := by
  rintro s X Y row ⟨h1, h2, h3, h4⟩ hg hr
  exact ⟨h1, gathP_own B _ s X Y row h2 hg hr, boxed_own (B + 1) 3 (fun pre : List (Comes w0) => .int .i64 (farP pre : Nat)) s X Y row h3 hg hr, boxed_own (B + 1 + 1) 28 (fun _ : List (Comes w0) => sv) s X Y row h4 hg hr⟩
/-- The going was left at one whose head is not its record's. -/
def LeftP {w0 : World} (B : Nat) (sv : Value) (c : Code) (pre : List (Comes w0)) (W : World) : Prop := c = .exit 0 ∧ ∃ pre0 y, pre = pre0 ++ [y] ∧ y.1.1 ≠ hd y.1.2.1 ∧ HoldP B sv pre0 W
theorem leftP_own {w0 : World} (B : Nat) (sv : Value) (c : Code) : Own (fun (pre : List (Comes w0)) W => LeftP B sv c pre W) := by
  rintro s X Y row ⟨h1, p0, y, h2, h3, h4⟩ hg hr
  exact ⟨h1, p0, y, h2, h3, holdP_own B sv p0 X Y row h4 hg hr⟩
/-- What a round has left behind its append: one record more. -/
structure Mid (w W w9 : World) (sv v' : Value) (ys' : List SHdr) (far : Nat) : Prop where
  keeps : KeepsOthers W w9
  below : Below w.heap.size W w9
  out : Boxed w9 w.heap.size 59 v'
  own : OwnS (w.heap.size + 1 + 1 + 1) w9 v' ys'
  ints : ∀ z ∈ ys', Ints8 w9 (cellS z)
  far : Boxed w9 (w.heap.size + 1) 3 (.int .i64 (far : Nat))
  from_ : Boxed w9 (w.heap.size + 1 + 1) 28 sv
theorem Mid.made {w W w3 w8 : World} {far : Nat} {sv v v8' : Value} {ys : List SHdr} {y : SHdr} {o : Obj}
    (K3 : KeepsOthers W w3) (D3 : Below w.heap.size W w3) (hsz : w.heap.size + 1 + 1 + 1 ≤ w3.heap.size) (b3v : Boxed w3 w.heap.size 59 v) (b3a : Boxed w3 (w.heap.size + 1) 3 (.int .i64 (far : Nat))) (b3c : Boxed w3 (w.heap.size + 1 + 1) 28 sv)
    (C3 : OwnS (w.heap.size + 1 + 1 + 1) w3 v ys) (I3 : ∀ y ∈ ys, Ints8 w3 (cellS y)) (R3 : RecO (w.heap.size + 1 + 1 + 1) w3 y) (N3 : Ints8 w3 (cellS y))
    (hg8 : (w3.alloc o).grownBy w8 v.ownBlock) (hown8 : w8.ownsRow (w.heap.size + 1 + 1 + 1) 28 1 v8' (ys.length + 1) (ys.map cellS ++ [cellS y])) :
    Boxed w8 w.heap.size 59 v ∧ Mid w W (w8.setCell ⟨w.heap.size, 0, none⟩ v8') sv v8' (ys ++ [y]) far := by
  obtain ⟨f1, f2, f3, f4, f5⟩ := b3v.appended (by decide) (own_weak C3.own (show w.heap.size ≤ _ by omega)) (by omega) (Nat.le_refl _) (own_weak hown8 (show w.heap.size ≤ _ by omega)) hg8
  have C8 := C3.snoc R3 hg8 hown8
  have I8 : ∀ z ∈ ys ++ [y], Ints8 w8 (cellS z) := by
    intro z hz
    rcases List.mem_append.1 hz with h | h
    · exact ints_snoc C3 (I3 z h) (C3.good z h) hg8
    · cases List.mem_singleton.1 h; exact ints_snoc C3 N3 R3 hg8
  have b8a := (b3a.alloc _).kept hg8 (b3a.not_row (by decide) C3.own)
  have b8c := (b3c.alloc _).kept hg8 (fun e => by have := (C3.own.lt _ e.symm).1; omega)
  exact ⟨f1, K3.trans f4, D3.trans f5, f2, C8.setBox f1 (by decide) (by decide) v8', fun z hz => (I8 z hz).setBox (C8.good z hz) f1 (by decide) v8',
    b8a.other (B' := w.heap.size) (by omega) v8', b8c.other (B' := w.heap.size) (by omega) v8'⟩
theorem Mid.end_ {w W w9 : World} {B e c3 : Nat} {q3 : Option Addr} {sv v' : Value} {xs : List Int} {ys : List SHdr} {pre : List (Comes w)} {y : Comes w} {tm : Act}
    (h : Mid w W w9 sv v' (ys ++ [(xs, q3, c3)]) (farP pre)) (bc : Boxed W (w.heap.size + 1 + 1) 28 sv) (hB : Below w.heap.size w W)
    (hne : ∀ y ∈ pre, y.1.1 = hd y.1.2.1) (hm : ys.map (·.1) = pre.map (·.1.2.1)) (hyx : y.1.2.1 = xs) (hy : y.1.1 = hd y.1.2.1) (hye : farP (pre ++ [y]) = e) (k : Nat) :
    ownPostG B (KpB w.heap.size (w.heap.size + 1 + 1)) (fun pre W => HoldP w.heap.size sv pre W ∧ Below w.heap.size w W) (fun c pre W => LeftP w.heap.size sv c pre W ∧ Below w.heap.size w W) (pre ++ [y]) W .normal tm
      ((w9.drewN k).setCell ⟨w.heap.size + 1, 0, none⟩ (.int .i64 (e : Nat))) := by
  have f2d : Boxed (w9.drewN k) w.heap.size 59 v' := h.out
  have a2d : Boxed (w9.drewN k) (w.heap.size + 1) 3 _ := h.far
  have e2d : Boxed (w9.drewN k) (w.heap.size + 1 + 1) 28 sv := h.from_
  have F2 := f2d.other (B' := w.heap.size + 1) (by omega) (.int .i64 (e : Nat))
  have A2 := a2d.set (.int .i64 (e : Nat))
  have E2 := e2d.other (B' := w.heap.size + 1) (by omega) (.int .i64 (e : Nat))
  have C9 := h.own.on (below_drewN (Below.refl _ _) k)
  have CE := C9.setBox a2d (by decide) (by decide) (.int .i64 (e : Nat))
  have DE : Below w.heap.size W ((w9.drewN k).setCell ⟨w.heap.size + 1, 0, none⟩ (.int .i64 (e : Nat))) :=
    (below_drewN h.below k).setCell (p := ⟨w.heap.size + 1, 0, none⟩) (by simp) _
  refine ⟨(h.keeps.trans ((keepsOthers_drewN _ k).trans (KeepsOthers.setCell _ _ _))).from _, ⟨DE, (show _ = _ from E2).trans (show _ = _ from bc).symm⟩, ⟨?_, ⟨v', _, F2, CE, fun z hz => ?_, ?_⟩, ?_, E2⟩, hB.trans DE⟩
  · intro z hz
    rcases List.mem_append.1 hz with h | h
    · exact hne z h
    · cases List.mem_singleton.1 h; exact hy
  · exact ((h.ints z hz).carry fun g _ => rfl : Ints8 (w9.drewN k) (cellS z)).setBox (C9.good z hz) a2d (by decide) _
  · rw [List.map_append, List.map_append, hm]; simp [hyx]
  · rw [hye]; exact A2
end
section
set_option linter.unusedSimpArgs false
set_option linter.unusedVariables false
open Go.RowKit Sha
def Room0 (w : World) (e : Ending) (w' : World) : Prop := ∃ v, e = .returned v ∧ Own8 w' w.heap.size 5 v 0 [] ∧ Below w.heap.size w w'
set_option maxRecDepth 100000 in
set_option maxHeartbeats 1000000 in
theorem grow_any (n : Nat) (hn : n ≤ 1000000) (w : World) : Calls Tryz.prog 86 #[.slice none 0 0, .int .i64 n] w (Room0 w) := by
  by_cases h0 : n = 0
  · subst h0
    go_enter Tryz.func86, Tryz.ntmps86
    go_wp2_with fail
    go_ret
    exact ⟨_, rfl, Own8.nil _ _ _, Below.refl _ _⟩
  · obtain ⟨i, hi, hz0, hz1, hz2⟩ := info_parts kbyte_info
    have HR := Lib.hid (fun ty => Lib.run_append_nil_zeros (P := Tryz.prog) w 28 3 ty 5 i (.int .u8 0) .i64 .i64 Tryz.underlying28 Tryz.underlying3 hi hz0 n (by omega) (by omega) (by omega) (by rw [hz2]; omega))
    have hcm := grownCap_le_maxLen w n 0 5 (by unfold maxLen; omega)
    have hcn := grownCap_ge w n 0 5
    have HOWN := Lib.hid (World.ownsRow_made (base := w.heap.size) (size := 1) (e := 5) w.drew (Builtin.zeroCells (Value.cells (.int .u8 0)) n ++ Builtin.zeroCells (Value.cells (.int .u8 0)) (grownCap w n 0 5 - n)) (grownCap w n 0 5) (Nat.le_refl _) hcm (by rw [Array.size_append, size_zeroCells, size_zeroCells]; simp [Value.cells]; omega))
    have HINTS := Lib.hid (ints_block (n := 0) (c := grownCap w n 0 5) (heap_alloc_new w.drew (.cells (Builtin.zeroCells (Value.cells (.int .u8 0)) n ++ Builtin.zeroCells (Value.cells (.int .u8 0)) (grownCap w n 0 5 - n)) 5)) (by intro u hu; rw [Array.toList_append, List.mem_append] at hu; rcases hu with hu | hu; exact ints_zero _ u hu; exact ints_zero _ u hu))
    generalize Builtin.zeroCells (Value.cells (.int .u8 0)) n ++ Builtin.zeroCells (Value.cells (.int .u8 0)) (grownCap w n 0 5 - n) = row at *
    generalize grownCap w n 0 5 = cap at *
    unfold maxLen at hcm
    clear hi hz0 hz1 hz2
    go_enter Tryz.func86, Tryz.ntmps86
    go_wp2_with (at_builtin; refine Lib.wpList_append_run _ rfl (.tmp 20) (.tmp 21) _ _ rfl _ _ rfl rfl _ _ (HR.out _) ?_)
    go_ret
    exact ⟨_, rfl, ⟨HOWN.out, HINTS.out⟩, ((Below.refl _ w).drew).alloc (Nat.le_refl _) _⟩
theorem flat_take {l : List (List Int)} {k : Nat} (hk : k < l.length) : (l.take (k + 1)).flatten = (l.take k).flatten ++ l[k] := by
  rw [List.take_succ_eq_append_getElem hk, List.flatten_append]; congr 1; simp only [List.flatten_cons, List.flatten_nil, List.append_nil]
theorem flat_le (l : List (List Int)) (k : Nat) : (l.take k).flatten.length ≤ l.flatten.length := by
  conv => rhs; rw [← List.take_append_drop k l]
  rw [List.flatten_append, List.length_append]; omega
/-- New bytes: those of some, one behind the other. -/
def CatDone (w : World) (zs : List Int) (e : Ending) (w' : World) : Prop := ∃ v, e = .returned v ∧ Own8 w' w.heap.size 5 v zs.length (zs.map v8) ∧ Below w.heap.size w w'
set_option maxRecDepth 100000 in
set_option maxHeartbeats 1000000 in
theorem concat_any (l : List (List Int)) (p : Option Addr) (n c : Nat) (w : World) (h : Recs w p n c l) (hs : l.flatten.length ≤ 1000000) :
    Calls Tryz.prog 53 #[.slice p n c] w (CatDone w l.flatten) := by
  have HX := Lib.hid h
  have m1 := h.max
  have m2 := h.le
  clear h
  go_enter Tryz.func53, Tryz.ntmps53
  go_wp2_with fail
  go_loop [3, 11] (fun v i => ∃ k : Nat, k ≤ n ∧ i = .int .i64 k ∧ v = .int .i64 ((l.take k).flatten.length : Nat)) (fun _ i => n - (intOf i).toNat)
  case atStart => exact ⟨0, by omega, rfl, by simp⟩
  case round =>
    obtain ⟨k, hk, rfl, rfl⟩ := hrel
    have hfl := flat_le l k
    by_cases hlt : k < n
    · have hkx : k < l.length := by rw [← HX.out.len]; exact hlt
      obtain ⟨b, off, q, d, rfl, a1, hg⟩ := HX.out.get k hkx
      have hft := congrArg List.length (flat_take hkx)
      rw [List.length_append] at hft
      have hfl2 := flat_le l (k + 1)
      generalize l[k].length = m at *
      have HFT := Lib.hid hft
      have hsz : (l.take k).flatten.length + m ≤ 1000000 := by omega
      clear hg hft hfl hfl2
      generalize (l.take k).flatten.length = sz at *
      go_wp2_with fail
      go_round
      case rel => exact ⟨k + 1, by omega, by go_num, by rw [HFT.out]; go_num⟩
      case measure => simp [intOf]; omega
    · obtain rfl : k = n := by omega
      have hq : l.take k = l := List.take_of_length_le (by rw [← HX.out.len]; exact Nat.le_refl _)
      rw [hq]
      clear hq hfl hlt
      obtain ⟨tot, htot⟩ : ∃ t, t = l.flatten.length := ⟨_, rfl⟩
      rw [← htot] at hs ⊢
      have HT := Lib.hid htot
      clear htot
      go_wp2_with (go_at_call 86; refine (grow_any tot hs w).mono ?_; rintro e w1 ⟨v1, rfl, ho1, hb1⟩; have O1 := Lib.hid ho1; have B1 := Lib.hid hb1; clear ho1 hb1)
      go_loopw [6, 27] (fun vv i wr => ∃ (j : Nat) (v : Value), i = .int .i64 j ∧ v = vv ∧ j ≤ k ∧ Hid (Own8 wr w.heap.size 5 v (l.take j).flatten.length ((l.take j).flatten.map v8)) ∧ Hid (Below w.heap.size w wr)) (fun _ i _ => k - (intOf i).toNat)
      case atStart => exact ⟨0, _, rfl, rfl, by omega, O1, B1⟩
      case round =>
        obtain ⟨j, v, rfl, rfl, hj, HO, HB⟩ := hrel
        by_cases hlt : j < k
        · have hjx : j < l.length := by rw [← HX.out.len]; exact hlt
          obtain ⟨b, off, q, d, rfl, a1, hg⟩ := (HX.out.below HB.out).get j hjx
          have hft := flat_take hjx
          have hfl := flat_le l j
          have hfl2 := flat_le l (j + 1)
          have hftl := congrArg List.length hft
          rw [List.length_append] at hftl
          obtain ⟨x, hx⟩ : ∃ x, x = l[j] := ⟨_, rfl⟩
          rw [← hx] at a1 hg hft hftl
          have HFT := Lib.hid hft
          have G := Lib.hid hg
          have HL := Lib.hid hftl
          have hlim : (l.take j).flatten.length + x.length ≤ 1000000 := by have := HT.out; omega
          obtain ⟨m, hm⟩ : ∃ m, m = x.length := ⟨_, rfl⟩
          rw [← hm] at a1 hlim
          have HM := Lib.hid hm
          clear hft hg hx hjx hm hftl hfl hfl2
          generalize (l.take j).flatten = out at *
          generalize out.length = no at *
          go_wp2_with (at_builtin; refine wpList_app8 rfl (.tmp 31) (.tmp 32) 28 rfl w.heap.size 5 Tryz.underlying28 kbyte_info v _ _ rfl HO.out q m d (x.map v8) rfl G.out.at_ (by rw [List.length_map]; exact HM.out.symm) G.out.nil (by rw [HM.out]; exact G.out.le) (ints_map _) (by omega) (by unfold maxLen; omega) HB.out.size ?_; intro v4 w4 hown4 _ hb4 hs4; have O4 := Lib.hid hown4; have B4 := Lib.hid (HB.out.trans hb4); clear hown4 hb4)
          go_roundw
          case rel => exact ⟨j + 1, _, by go_num, rfl, by omega, Lib.hid (by have := O4.out; rw [HM.out, ← HL.out, ← List.map_append, ← HFT.out] at this; exact this), B4⟩
          case measure => simp [intOf]; omega
        · obtain rfl : j = k := by omega
          have hq : l.take j = l := List.take_of_length_le (by rw [← HX.out.len]; exact Nat.le_refl _)
          rw [hq] at HO
          clear hq
          go_wp2_with fail
          go_ret
          exact ⟨v, rfl, HO.out, HB.out⟩
theorem run_nil_eq (w : World) (p : Option Addr) (n c : Nat) : (binOp .eql 28 (.slice p n c) (.slice none 0 0)).run Tryz.prog w = .ok (.bool p.isNone) w := Lib.run_eql_slice_nil w _ _ p n c 0 0 Tryz.underlying28
set_option maxRecDepth 100000 in
set_option maxHeartbeats 1000000 in
theorem bclone_any (zs : List Int) (n : Nat) (p : Option Addr) (cap : Nat) (w : World) (hn : zs.length = n) (h : GoodS w (zs, p, cap)) (hs : n ≤ 1000000) :
    Calls Tryz.prog 65 #[.slice p n cap] w (CatDone w zs) := by
  have G := Lib.hid h
  have HN := Lib.hid hn
  have hm := h.max
  have hc : n ≤ cap := by rw [← hn]; exact h.le
  simp only at hm
  have q := fun w n c => run_nil_eq w p n c
  cases p with
  | none =>
    have h0 := h.nil rfl
    simp only at h0
    subst h0
    obtain rfl : n = 0 := by omega
    have hz : zs = [] := List.eq_nil_of_length_eq_zero hn
    subst hz
    clear h hn
    go_enter Tryz.func65, Tryz.ntmps65
    go_wp2_with fail
    go_ret
    exact ⟨_, rfl, Own8.nil _ _ _, Below.refl _ _⟩
  | some a =>
    have H0 := Lib.hid (Own8.mk (World.ownsRow_made (base := w.heap.size) (size := 1) (e := 5) w #[] 0 (Nat.le_refl _) (by decide) rfl) (ints_block (n := 0) (c := 0) (heap_alloc_new _ _) (by simp)))
    clear h hn
    go_enter Tryz.func65, Tryz.ntmps65
    go_wp2_with (at_builtin; refine wpList_app8 rfl (.tmp 5) (.tmp 6) 28 rfl w.heap.size 5 Tryz.underlying28 kbyte_info _ 0 [] rfl H0.out (some a) n cap (zs.map v8) rfl (G.out.at_.alloc _) (by rw [List.length_map]; exact HN.out) G.out.nil hc (ints_map _) (by omega) (by unfold maxLen; omega) (by simp) ?_; intro v4 w4 hown4 _ hb4 hs4; have O4 := Lib.hid hown4; have B4 := Lib.hid (((Below.refl _ w).alloc (Nat.le_refl _) _).trans hb4); clear hown4 hb4)
    go_ret
    exact ⟨v4, rfl, by have := O4.out; rw [Nat.zero_add, List.nil_append] at this; rw [HN.out]; exact this, B4.out⟩
theorem hd_bytes (zs : List Int) : ∀ n ∈ hd zs, 0 ≤ n ∧ n ≤ 255 := ((Frm.le4_bytes _).append (Frm.le4_bytes _))
theorem hd_flat (zs : List Int) : [hd zs, zs].flatten = Frm.fr zs := by
  simp only [List.flatten_cons, List.flatten_nil, List.append_nil]; rfl
set_option maxRecDepth 100000 in
set_option maxHeartbeats 1000000 in
theorem fput_any (zs : List Int) (n : Nat) (p : Option Addr) (cap : Nat) (w : World) (hn : zs.length = n) (h : GoodS w (zs, p, cap)) :
    Calls Tryz.prog 25 #[.slice p n cap] w (FDone8 w (Frm.put zs)) := by
  have G := Lib.hid h
  have HN := Lib.hid hn
  have hm := h.max
  have hc : n ≤ cap := by rw [← hn]; exact h.le
  simp only at hm
  clear h
  by_cases h0 : n = 0
  · have HP := Lib.hid (fput_no (b := zs) (by rw [fbad_nil (by rw [hn]; exact h0)]; omega))
    rw [fbad_nil (by rw [hn]; exact h0)] at HP
    subst h0
    clear hn
    go_enter Tryz.func25, Tryz.ntmps25
    go_wp2_with fail
    go_ret2
    exact ⟨.slice none 0 0, by rw [HP.out]; rfl, by rw [HP.out]; exact Own8.nil _ _ _, Below.refl _ _⟩
  · by_cases h4 : 4000 < n
    · have HP := Lib.hid (fput_no (b := zs) (by rw [fbad_long (by rw [hn]; exact h4)]; omega))
      rw [fbad_long (by rw [hn]; exact h4)] at HP
      have h0' : ((n : Int) == 0) = false := by rw [beq_eq_false_iff_ne]; omega
      clear hn h0
      go_enter Tryz.func25, Tryz.ntmps25
      go_wp2_with fail
      go_ret2
      exact ⟨.slice none 0 0, by rw [HP.out]; rfl, by rw [HP.out]; exact Own8.nil _ _ _, Below.refl _ _⟩
    · have HP := Lib.hid (fput_yes (b := zs) (fbad_ok (by rw [hn]; exact h0) (by omega)))
      have h0' : ((n : Int) == 0) = false := by rw [beq_eq_false_iff_ne]; omega
      have HH := Lib.hid (headOf_any zs n p cap w hn G.out (by omega))
      have hsz0 : (Tryz.prog.info? 85).map (fun i => i.size) = some [v8 0, v8 0, v8 0, v8 0, v8 0, v8 0, v8 0, v8 0].toArray.size := by rw [sizeHead]; rfl
      have HFL := Lib.hid (hd_length zs)
      clear hn h0
      go_enter Tryz.func25, Tryz.ntmps25
      go_wp2_with (first
        | (go_at_call 52; refine HH.out.mono ?_; rintro e w1 ⟨rfl, hb1⟩; have B1 := Lib.hid hb1; clear hb1; have tk1 : True := trivial)
        | (refine wpList_alloc_arr rfl 85 rfl _ infoHead ?_)
        | (refine wpList_store_row rfl 85 _ _ rfl _ _ rfl rfl _ _ (Blk.new _ _ _) hsz0 (by simp [HFL.out]) (by simp [Value.oneCell']) ?_))
      have K1 : Blk ((w1.alloc (Obj.cells #[v8 0, v8 0, v8 0, v8 0, v8 0, v8 0, v8 0, v8 0] 85)).setRow w1.heap.size ((hd zs).map v8).toArray) w1.heap.size ((hd zs).map v8) 85 := (Blk.new _ _ _).row _
      have B2 : Below w.heap.size w ((w1.alloc (Obj.cells #[v8 0, v8 0, v8 0, v8 0, v8 0, v8 0, v8 0, v8 0] 85)).setRow w1.heap.size ((hd zs).map v8).toArray) := Below.setRow (B1.out.alloc B1.out.size _) B1.out.size _
      have hs2 : w1.heap.size + 1 = ((w1.alloc (Obj.cells #[v8 0, v8 0, v8 0, v8 0, v8 0, v8 0, v8 0, v8 0] 85)).setRow w1.heap.size ((hd zs).map v8).toArray).heap.size := by simp
      rw [hs2]
      obtain ⟨w2, hw2⟩ : ∃ x, x = (w1.alloc (Obj.cells #[v8 0, v8 0, v8 0, v8 0, v8 0, v8 0, v8 0, v8 0] 85)).setRow w1.heap.size ((hd zs).map v8).toArray := ⟨_, rfl⟩
      rw [← hw2] at K1 B2 ⊢
      clear hs2 hw2
      generalize w1.heap.size = g1 at *
      have hsub := (Below.refl w2.heap.size w2).alloc (Nat.le_refl _) (Obj.cells #[Value.slice (some ⟨g1, 0, none⟩) 8 8, Value.slice p n cap] 28)
      have GH : GoodS w2 (hd zs, some ⟨g1, 0, none⟩, 8) := ⟨hd_bytes zs, Or.inr ⟨g1, 0, rfl, fun i v hi => by rw [Nat.zero_add, K1.cell]; exact hi⟩, by simp only; rw [hd_length]; omega, by simp, fun h => by cases h⟩
      have R2 : Recs (w2.alloc (Obj.cells #[Value.slice (some ⟨g1, 0, none⟩) 8 8, Value.slice p n cap] 28)) (some ⟨w2.heap.size, 0, none⟩) 2 2 [hd zs, zs] :=
        ⟨rfl, Nat.le_refl _, by omega, fun h => (by cases h), [(hd zs, some ⟨g1, 0, none⟩, 8), (zs, p, cap)], rfl, by
          have h1 := at_mark w2 [Value.slice (some ⟨g1, 0, none⟩) 8 8, Value.slice p n cap] 28 (0, 0)
          simp only [List.map_cons, List.map_nil, cellS, hd_length, HN.out]
          exact h1, fun y hy => by
          rcases List.mem_cons.1 hy with rfl | hy
          · exact GH.below hsub
          · rcases List.mem_singleton.1 hy with rfl
            exact (G.out.below B2).below hsub⟩
      refine (concat_any [hd zs, zs] _ 2 2 _ R2 (by rw [hd_flat, Frm.fr_length, HN.out]; omega)).mono ?_
      rw [hd_flat]
      rintro e w5 ⟨v5, rfl, ho5, hb5⟩
      have O5 := Lib.hid ho5
      have B5 := Lib.hid ((B2.trans (hsub.mono B2.size)).trans (hb5.mono (by have := B2.size; simp; omega)))
      have HSZ := Lib.hid B2.size
      clear ho5 hb5 R2 GH hsub K1 B2
      go_wp2_with fail
      go_ret2
      exact ⟨v5, by rw [HP.out]; rfl, by rw [HP.out]; exact ⟨own_weak O5.out.row (by have := HSZ.out; simp; omega), O5.out.ints⟩, B5.out⟩
end
end Go.Proofs.YtbogjfmefkhglaaGreat
