/-
  The program's records copied: from whatever iterator, and from a slice's.
-/
import Derived.Test.YthopfpfmliookaaJp22
namespace Go.Proofs.Ythopfpfmliookaa
section
set_option linter.unusedSimpArgs false
set_option linter.unusedVariables false
open Go.RowKit Go.Shelf Sha Dsk Jrn
attribute [local go_sem] Oper.semAt_some
/-- The slice so far in its variable. -/
def GathC (B : Nat) (ys : List SHdr) (k : Nat) (W : World) : Prop := ∃ v zs, Boxed W B 26 v ∧ OwnS (B + 1) W v zs ∧ zs.map (·.1) = (ys.take k).map (·.1)
theorem gathC_own (B : Nat) (ys : List SHdr) : Own (fun (k : Nat) W => GathC B ys k W) := by
  rintro s X Y row ⟨v, zs, h1, h2, h4⟩ hg hr
  refine ⟨v, zs, h1.kept hg (fun e => ?_), h2.kept hg hr, h4⟩
  obtain ⟨o, ho, hc⟩ := hr B e.symm
  rw [show X.heap[B]? = _ from h1] at ho; cases ho; cases hc
/-- What a round has left: one record more. -/
structure MidC (w W w9 : World) (v' : Value) (zs' : List SHdr) : Prop where
  keeps : KeepsOthers W w9
  below : Below w.heap.size W w9
  out : Boxed w9 w.heap.size 26 v'
  own : OwnS (w.heap.size + 1) w9 v' zs'
theorem MidC.made {w W w3 w8 : World} {v v8' : Value} {zs : List SHdr} {y : SHdr} {o : Obj}
    (K3 : KeepsOthers W w3) (D3 : Below w.heap.size W w3) (hsz : w.heap.size + 1 ≤ w3.heap.size) (b3v : Boxed w3 w.heap.size 26 v)
    (C3 : OwnS (w.heap.size + 1) w3 v zs) (R3 : RecO (w.heap.size + 1) w3 y)
    (hg8 : (w3.alloc o).grownBy w8 v.ownBlock) (hown8 : w8.ownsRow (w.heap.size + 1) 22 1 v8' (zs.length + 1) (zs.map cellS ++ [cellS y])) :
    Boxed w8 w.heap.size 26 v ∧ MidC w W (w8.setCell ⟨w.heap.size, 0, none⟩ v8') v8' (zs ++ [y]) := by
  obtain ⟨f1, f2, f3, f4, f5⟩ := b3v.appended (by decide) (own_weak C3.own (show w.heap.size ≤ _ by omega)) (by omega) (Nat.le_refl _) (own_weak hown8 (show w.heap.size ≤ _ by omega)) hg8
  exact ⟨f1, K3.trans f4, D3.trans f5, f2, (C3.snoc R3 hg8 hown8).setBox f1 (by decide) (by decide) v8'⟩
theorem MidC.end_ {w W w9 : World} {B c3 k : Nat} {q3 : Option Addr} {v' : Value} {xs : List Int} {ys zs : List SHdr} {tm : Act}
    (h : MidC w W w9 v' (zs ++ [(xs, q3, c3)])) (hB : Below w.heap.size w W) (hm : zs.map (·.1) = (ys.take k).map (·.1)) (hx : (ys.getD k ([], none, 0)).1 = xs) (hk : k < ys.length) :
    sayPost B (fun k W => GathC w.heap.size ys k W ∧ Below w.heap.size w W) (fun _ _ _ => False) (k + 1) W .normal tm w9 := by
  refine ⟨h.keeps.from _, ⟨v', _, h.out, h.own, ?_⟩, hB.trans h.below⟩
  rw [List.take_succ_eq_append_getElem hk, List.map_append, List.map_append, hm]
  rw [List.getD_eq_getElem?_getD, List.getElem?_eq_getElem hk] at hx
  simp only [List.map_cons, List.map_nil]
  rw [show ys[k].1 = xs from hx]
/-- Records copied: of the call's own. -/
def CopDone (l : List (List Int)) (w : World) (e : Ending) (w' : World) : Prop := ∃ v zs, e = .returned v ∧ zs.map (·.1) = l ∧ OwnS w.heap.size w' v zs ∧ Below w.heap.size w w'
set_option maxRecDepth 100000 in
set_option maxHeartbeats 2000000 in
theorem copied_in (gf : Nat) (lb : Array Value) (eg : ∀ args w, (callFunc gf args).run Try.prog w = .ok (.enter gf args) w) (ys : List SHdr) (w : World) (hy : ∀ y ∈ ys, GoodS w y ∧ y.1.length ≤ 1000000) (hsm : ys.length ≤ 1000000)
    (hseq : SeqSays Fence.wide 4 Try.prog gf lb (tellS ys) ys.length (fun _ W => Below w.heap.size w W) w) :
    Calls Try.prog 33 #[.func (.func gf) #[] lb] w (CopDone (ys.map (·.1)) w) := by
  have HG := Lib.hid hy
  clear hy
  refine (callsIn_wide (n := 5)).1 ?_
  refine callsIn_of_wp_marks Try.func33 rfl trivial ?_ rfl
  simp only [Try.ntmps33, List.size_toArray, List.length_cons, List.length_nil, Nat.reduceAdd, Nat.reduceSub, Array.replicate_succ, Array.replicate_zero, List.push_toArray, List.append_toArray, List.nil_append, List.cons_append]
  gi_wp2
  have bO := Boxed.new w 26 (.slice none 0 0)
  have hB0 := (Below.refl w.heap.size w).alloc (Nat.le_refl _) (.cells #[.slice none 0 0] 26)
  obtain ⟨w1, hw1⟩ : ∃ x, x = w.alloc (.cells #[.slice none 0 0] 26) := ⟨_, rfl⟩
  have hs1 : w1.heap.size = w.heap.size + 1 := by rw [hw1, World.size_alloc]
  rw [← hw1] at bO hB0 ⊢
  clear hw1
  refine wpIn_range_says rfl (by omega) (gf := gf) (lb := lb) rfl trivial eg hseq hB0 (fun _ => rfl)
    (fun k W => GathC w.heap.size ys k W ∧ Below w.heap.size w W)
    (fun _ _ _ => False)
    (OwnFrom.and (Own.from (gathC_own w.heap.size ys) _) (ownFrom_below (Nat.le_refl _) (by omega)))
    (fun _ _ _ _ _ hs _ _ => hs)
    (fun k W h => h.2)
    ⟨⟨_, [], bO, OwnS.nil _ _, by simp⟩, hB0⟩
    (fun k a' _ => a' = { tmps := #[.func (.func gf) #[] lb, undef, .slice none 0 0, .pointer (some ⟨w.heap.size, 0, none⟩), cellS (ys.getD k ([], none, 0)), .func (.func gf) #[] lb, cellS (ys.getD k ([], none, 0)), undef, undef, undef, undef, undef, undef], defers := [] })
    (fun k a' => fun _ _ _ _ hs _ _ => hs)
    ?assign ?body ?done ?stop
  case assign =>
    intro lp k W K hI hK
    unfold tellS
    gi_wp2
    exact hK _ _ (KeepsFrom.refl _ _) hI rfl
  case body =>
    rintro l k a' W hl hrec hk ⟨⟨v, zs, bv, ho, hm⟩, hB⟩ rfl
    obtain ⟨xs, q, d, hv⟩ : ∃ xs q d, ys.getD k ([], none, 0) = (xs, q, d) := ⟨_, _, _, rfl⟩
    have hgy := HG.out (ys.getD k ([], none, 0)) (by rw [List.getD_eq_getElem?_getD, List.getElem?_eq_getElem hk]; exact List.getElem_mem hk)
    have hyx : (ys.getD k ([], none, 0)).1 = xs := by rw [hv]
    rw [hv] at hgy
    obtain ⟨c, hc⟩ : ∃ c, c = xs.length := ⟨_, rfl⟩
    unfold cellS
    simp only [hv, ← hc]
    have hx4 : c ≤ 1000000 := by rw [hc]; exact hgy.2
    have HYX := Lib.hid hyx
    have HC := Lib.hid hc
    have HM := Lib.hid hm
    have hzs : zs.length ≤ 1000000000 := by have := congrArg List.length hm; simp only [List.length_map, List.length_take] at this; omega
    have g1 := (hgy.1.below hB).below (Below.refl _ W).drew
    have GW := Lib.hid (show GoodC W.drew xs q d from ⟨g1.bytes, g1.at_, g1.le, g1.max, g1.nil⟩)
    have hsz : w.heap.size + 1 ≤ W.drew.heap.size := bv.lt
    have bv6 : Boxed W.drew w.heap.size 26 v := bv
    have CO6 := Lib.hid (show OwnS (w.heap.size + 1) W.drew v zs from ho.on (Below.refl _ _).drew)
    have cv := bv6.cell
    clear hv hc hm hyx hgy g1 HG hseq
    gi_wp2
    refine wpIn_region_any (by kernel_rfl) ?_
    change wpAnyIn _ _ _ _ _ _ _ _ _ W.drew
    refine wpAnyIn_ready (rs := [0, 1]) (by kernel_rfl) (by simp) ?_
    refine AllReadyIn.cons rfl (fun K hK => ?_) (AllReadyIn.cons rfl (fun K hK => ?_) AllReadyIn.nil)
    · go_simp
      refine hK _ _ ?_
      clear hK K
      refine wpAnyIn_ready (rs := [1]) (by kernel_rfl) (by simp) ?_
      refine AllReadyIn.cons rfl (fun K hK => ?_) AllReadyIn.nil
      go_simp
      refine hK _ _ ?_
      clear hK K
      refine wpAnyIn_ready (rs := [2]) (by kernel_rfl) (by simp) ?_
      refine AllReadyIn.cons rfl (fun K hK => ?_) AllReadyIn.nil
      go_simp
      refine ⟨trivial, ?_⟩
      refine (CallsIn.inRound l (callsIn_wide.2 (pclone_any xs c q d W.drew HC.out.symm GW.out hx4))).mono ?_
      rintro e w3 ⟨v3, rfl, ho3, hb3⟩
      obtain ⟨q3, c3, rfl, _, _, _, _, _⟩ := own_at ho3.row
      have K3 := Lib.hid (keepsOthers_below ((Below.refl _ W).drew.trans hb3))
      have D3 := Lib.hid (((Below.refl _ W).drew.trans hb3).mono hB.size)
      have b3v := boxed_below bv6 hb3
      have C3 := Lib.hid (CO6.out.on hb3)
      have R3 := Lib.hid (show RecO (w.heap.size + 1) w3 (xs, q3, c3) from ⟨GW.out.bytes, by have h1 := ho3.row; rw [HC.out] at h1; exact own_weak h1 hsz⟩)
      have hs3 : w.heap.size + 1 ≤ w3.heap.size := b3v.lt
      have cv3 := b3v.cell
      have cv4 := (b3v.alloc (Obj.cells #[.slice q3 c c3] 22)).cell
      clear ho3 hb3
      refine hK _ _ ?_
      clear hK K
      refine wpAnyIn_ready (rs := [3]) (by kernel_rfl) (by simp) ?_
      refine AllReadyIn.cons rfl (fun K hK => ?_) AllReadyIn.nil
      go_simp
      refine hK _ _ ?_
      clear hK K
      refine wpAnyIn_ready (rs := [4]) (by kernel_rfl) (by simp) ?_
      refine AllReadyIn.cons rfl (fun K hK => ?_) AllReadyIn.nil
      refine stepIn_append rfl (.tmp 7) (.tmp 10) 26 rfl (step_app rfl (.tmp 7) (.tmp 10) 26 rfl (w.heap.size + 1) 22 Try.underlying26 slice_info rfl v zs.length _ rfl (C3.out.own.alloc _) _ 1 1 [cellS (xs, q3, c3)] rfl (by have h1 := at_one w3 (cellS (xs, q3, c3)) 22; unfold cellS at h1 ⊢; simp only [← HC.out] at h1 ⊢; exact h1) rfl (fun h => by cases h) (by omega) (by simp [cellS_one]) (by omega) (by unfold maxLen; omega) (by simp; omega) ?_)
      intro v8' w8 hown8 hg8 hb8 hs8
      obtain ⟨q8, c8, rfl, _, _, _, _, _⟩ := own_at hown8
      obtain ⟨f1, hmid⟩ := MidC.made K3.out D3.out hs3 b3v C3.out R3.out hg8 hown8
      have MID := Lib.hid hmid
      have c1 := f1.cell
      have z1 := f1.frozen
      clear hmid hown8 hg8
      refine hK _ _ ?_
      clear hK K
      refine wpAnyIn_ready (rs := [5]) (by kernel_rfl) (by simp) ?_
      refine AllReadyIn.cons rfl (fun K hK => ?_) AllReadyIn.nil
      go_simp
      refine hK _ _ ?_
      clear hK K
      refine wpAnyIn_done (by kernel_rfl) ?_ _
      exact MidC.end_ (tm := { tmps := #[], defers := [] }) MID.out hB HM.out HYX.out hk
    · go_simp
      refine hK _ _ ?_
      clear hK K
      refine wpAnyIn_ready (rs := [0, 2]) (by kernel_rfl) (by simp) ?_
      refine AllReadyIn.cons rfl (fun K hK => ?_) (AllReadyIn.cons rfl (fun K hK => ?_) AllReadyIn.nil)
      · go_simp
        refine hK _ _ ?_
        clear hK K
        refine wpAnyIn_ready (rs := [2]) (by kernel_rfl) (by simp) ?_
        refine AllReadyIn.cons rfl (fun K hK => ?_) AllReadyIn.nil
        go_simp
        refine ⟨trivial, ?_⟩
        refine (CallsIn.inRound l (callsIn_wide.2 (pclone_any xs c q d W.drew HC.out.symm GW.out hx4))).mono ?_
        rintro e w3 ⟨v3, rfl, ho3, hb3⟩
        obtain ⟨q3, c3, rfl, _, _, _, _, _⟩ := own_at ho3.row
        have K3 := Lib.hid (keepsOthers_below ((Below.refl _ W).drew.trans hb3))
        have D3 := Lib.hid (((Below.refl _ W).drew.trans hb3).mono hB.size)
        have b3v := boxed_below bv6 hb3
        have C3 := Lib.hid (CO6.out.on hb3)
        have R3 := Lib.hid (show RecO (w.heap.size + 1) w3 (xs, q3, c3) from ⟨GW.out.bytes, by have h1 := ho3.row; rw [HC.out] at h1; exact own_weak h1 hsz⟩)
        have hs3 : w.heap.size + 1 ≤ w3.heap.size := b3v.lt
        have cv3 := b3v.cell
        have cv4 := (b3v.alloc (Obj.cells #[.slice q3 c c3] 22)).cell
        clear ho3 hb3
        refine hK _ _ ?_
        clear hK K
        refine wpAnyIn_ready (rs := [3]) (by kernel_rfl) (by simp) ?_
        refine AllReadyIn.cons rfl (fun K hK => ?_) AllReadyIn.nil
        go_simp
        refine hK _ _ ?_
        clear hK K
        refine wpAnyIn_ready (rs := [4]) (by kernel_rfl) (by simp) ?_
        refine AllReadyIn.cons rfl (fun K hK => ?_) AllReadyIn.nil
        refine stepIn_append rfl (.tmp 7) (.tmp 10) 26 rfl (step_app rfl (.tmp 7) (.tmp 10) 26 rfl (w.heap.size + 1) 22 Try.underlying26 slice_info rfl v zs.length _ rfl (C3.out.own.alloc _) _ 1 1 [cellS (xs, q3, c3)] rfl (by have h1 := at_one w3 (cellS (xs, q3, c3)) 22; unfold cellS at h1 ⊢; simp only [← HC.out] at h1 ⊢; exact h1) rfl (fun h => by cases h) (by omega) (by simp [cellS_one]) (by omega) (by unfold maxLen; omega) (by simp; omega) ?_)
        intro v8' w8 hown8 hg8 hb8 hs8
        obtain ⟨q8, c8, rfl, _, _, _, _, _⟩ := own_at hown8
        obtain ⟨f1, hmid⟩ := MidC.made K3.out D3.out hs3 b3v C3.out R3.out hg8 hown8
        have MID := Lib.hid hmid
        have c1 := f1.cell
        have z1 := f1.frozen
        clear hmid hown8 hg8
        refine hK _ _ ?_
        clear hK K
        refine wpAnyIn_ready (rs := [5]) (by kernel_rfl) (by simp) ?_
        refine AllReadyIn.cons rfl (fun K hK => ?_) AllReadyIn.nil
        go_simp
        refine hK _ _ ?_
        clear hK K
        refine wpAnyIn_done (by kernel_rfl) ?_ _
        exact MidC.end_ (tm := { tmps := #[], defers := [] }) MID.out hB HM.out HYX.out hk
      · go_simp
        refine ⟨trivial, ?_⟩
        refine (CallsIn.inRound l (callsIn_wide.2 (pclone_any xs c q d W.drew HC.out.symm GW.out hx4))).mono ?_
        rintro e w3 ⟨v3, rfl, ho3, hb3⟩
        obtain ⟨q3, c3, rfl, _, _, _, _, _⟩ := own_at ho3.row
        have K3 := Lib.hid (keepsOthers_below ((Below.refl _ W).drew.trans hb3))
        have D3 := Lib.hid (((Below.refl _ W).drew.trans hb3).mono hB.size)
        have b3v := boxed_below bv6 hb3
        have C3 := Lib.hid (CO6.out.on hb3)
        have R3 := Lib.hid (show RecO (w.heap.size + 1) w3 (xs, q3, c3) from ⟨GW.out.bytes, by have h1 := ho3.row; rw [HC.out] at h1; exact own_weak h1 hsz⟩)
        have hs3 : w.heap.size + 1 ≤ w3.heap.size := b3v.lt
        have cv3 := b3v.cell
        have cv4 := (b3v.alloc (Obj.cells #[.slice q3 c c3] 22)).cell
        clear ho3 hb3
        refine hK _ _ ?_
        clear hK K
        refine wpAnyIn_ready (rs := [0, 3]) (by kernel_rfl) (by simp) ?_
        refine AllReadyIn.cons rfl (fun K hK => ?_) (AllReadyIn.cons rfl (fun K hK => ?_) AllReadyIn.nil)
        · go_simp
          refine hK _ _ ?_
          clear hK K
          refine wpAnyIn_ready (rs := [3]) (by kernel_rfl) (by simp) ?_
          refine AllReadyIn.cons rfl (fun K hK => ?_) AllReadyIn.nil
          go_simp
          refine hK _ _ ?_
          clear hK K
          refine wpAnyIn_ready (rs := [4]) (by kernel_rfl) (by simp) ?_
          refine AllReadyIn.cons rfl (fun K hK => ?_) AllReadyIn.nil
          refine stepIn_append rfl (.tmp 7) (.tmp 10) 26 rfl (step_app rfl (.tmp 7) (.tmp 10) 26 rfl (w.heap.size + 1) 22 Try.underlying26 slice_info rfl v zs.length _ rfl (C3.out.own.alloc _) _ 1 1 [cellS (xs, q3, c3)] rfl (by have h1 := at_one w3 (cellS (xs, q3, c3)) 22; unfold cellS at h1 ⊢; simp only [← HC.out] at h1 ⊢; exact h1) rfl (fun h => by cases h) (by omega) (by simp [cellS_one]) (by omega) (by unfold maxLen; omega) (by simp; omega) ?_)
          intro v8' w8 hown8 hg8 hb8 hs8
          obtain ⟨q8, c8, rfl, _, _, _, _, _⟩ := own_at hown8
          obtain ⟨f1, hmid⟩ := MidC.made K3.out D3.out hs3 b3v C3.out R3.out hg8 hown8
          have MID := Lib.hid hmid
          have c1 := f1.cell
          have z1 := f1.frozen
          clear hmid hown8 hg8
          refine hK _ _ ?_
          clear hK K
          refine wpAnyIn_ready (rs := [5]) (by kernel_rfl) (by simp) ?_
          refine AllReadyIn.cons rfl (fun K hK => ?_) AllReadyIn.nil
          go_simp
          refine hK _ _ ?_
          clear hK K
          refine wpAnyIn_done (by kernel_rfl) ?_ _
          exact MidC.end_ (tm := { tmps := #[], defers := [] }) MID.out hB HM.out HYX.out hk
        · go_simp
          refine hK _ _ ?_
          clear hK K
          refine wpAnyIn_ready (rs := [0]) (by kernel_rfl) (by simp) ?_
          refine AllReadyIn.cons rfl (fun K hK => ?_) AllReadyIn.nil
          go_simp
          refine hK _ _ ?_
          clear hK K
          refine wpAnyIn_ready (rs := [4]) (by kernel_rfl) (by simp) ?_
          refine AllReadyIn.cons rfl (fun K hK => ?_) AllReadyIn.nil
          refine stepIn_append rfl (.tmp 7) (.tmp 10) 26 rfl (step_app rfl (.tmp 7) (.tmp 10) 26 rfl (w.heap.size + 1) 22 Try.underlying26 slice_info rfl v zs.length _ rfl (C3.out.own.alloc _) _ 1 1 [cellS (xs, q3, c3)] rfl (by have h1 := at_one w3 (cellS (xs, q3, c3)) 22; unfold cellS at h1 ⊢; simp only [← HC.out] at h1 ⊢; exact h1) rfl (fun h => by cases h) (by omega) (by simp [cellS_one]) (by omega) (by unfold maxLen; omega) (by simp; omega) ?_)
          intro v8' w8 hown8 hg8 hb8 hs8
          obtain ⟨q8, c8, rfl, _, _, _, _, _⟩ := own_at hown8
          obtain ⟨f1, hmid⟩ := MidC.made K3.out D3.out hs3 b3v C3.out R3.out hg8 hown8
          have MID := Lib.hid hmid
          have c1 := f1.cell
          have z1 := f1.frozen
          clear hmid hown8 hg8
          refine hK _ _ ?_
          clear hK K
          refine wpAnyIn_ready (rs := [5]) (by kernel_rfl) (by simp) ?_
          refine AllReadyIn.cons rfl (fun K hK => ?_) AllReadyIn.nil
          go_simp
          refine hK _ _ ?_
          clear hK K
          refine wpAnyIn_done (by kernel_rfl) ?_ _
          exact MidC.end_ (tm := { tmps := #[], defers := [] }) MID.out hB HM.out HYX.out hk
  case done =>
    rintro D W hD ⟨⟨v, zs, bv, ho, hm⟩, hB⟩ hdf
    have c0 := bv.cell
    have HM := Lib.hid hm
    clear hm
    gi_wp2
    refine ⟨by simp, .inl ⟨_, _, rfl, run_takeDeferred hdf, ?_⟩⟩
    refine ⟨_, results_tmp rfl _ _ _, ?_⟩
    have hg := grownBy_putObj' W D (.deferred none)
    have hr : ∀ r, some D = some r → ∃ o : Obj, W.heap[r]? = some o ∧ o.isCells = false := fun r e => by cases e; exact ⟨_, hdf, rfl⟩
    refine ⟨v, zs, rfl, by rw [HM.out, List.take_length], (ho.kept hg hr).weak (by omega), hB.trans (belowK_b (w := w) (Nat.le_refl _) W D _ _ (by omega) hdf rfl rfl)⟩
  case stop =>
    rintro D c' k W hD hk h hdf
    exact h.elim
set_option maxRecDepth 100000 in
set_option maxHeartbeats 1000000 in
/-- A slice's own iterator. -/
theorem jvalues1_in (m : Nat) (h1 : 1 ≤ m) (Bx : Nat) (p : Option Addr) (cap : Nat) (ys : List SHdr) (w : World) (hx : w.cell? ⟨Bx, 0, none⟩ = some (.slice p ys.length cap)) (hA : At w p (ys.map cellS)) (hys : ys.length ≤ 1000000) :
    SeqSays Fence.wide m Try.prog 53 #[.pointer (some ⟨Bx, 0, none⟩)] (tellS ys) ys.length (fun _ W => Below w.heap.size w W) w := by
  intro lp J Jx W hW hJ hJx hNd hY h0
  have hcell : ∀ a v, w.cell? a = some v → W.cell? a = some v := fun a v h => (hW.cell (World.block_lt_of_cell? w a h)).trans h
  have c0 := hcell _ _ hx
  have HJ := Lib.hid hJ
  have HJX := Lib.hid hJx
  have HND := Lib.hid hNd
  have HY := Lib.hid hY
  have HAT := Lib.hid hA
  obtain ⟨n, hn⟩ : ∃ n, n = ys.length := ⟨_, rfl⟩
  rw [← hn] at c0 HY hys ⊢
  have HN := Lib.hid hn
  clear hcell hJ hJx hNd hY hx hW hA hn
  refine callsIn_of_wp Try.func53 rfl trivial ?_ rfl
  simp only [Try.ntmps53, List.size_toArray, List.length_cons, List.length_nil, Nat.reduceAdd, Nat.reduceSub, Array.replicate_succ, Array.replicate_zero, List.push_toArray, List.append_toArray, List.nil_append, List.cons_append]
  gi_wp2
  gi_loopw [7] (fun v wr => ∃ k : Nat, v = .int .i64 k ∧ k ≤ n ∧ Hid (J k wr)) (fun v _ => n - (intOf v).toNat)
  case atStart => exact ⟨0, rfl, by omega, Lib.hid h0⟩
  case round =>
    obtain ⟨k, rfl, hk, HJK⟩ := hrel
    by_cases hlt : k < n
    · have hbw := HND.out k wr HJK.out
      obtain ⟨g, off, rfl, hc⟩ := HAT.out.addr (by rw [List.length_map, ← HN.out]; omega)
      have hck : w.cell? ⟨g, off + k, none⟩ = some (cellS (ys.getD k ([], none, 0))) := hc k _ (by rw [List.getElem?_map, List.getD_eq_getElem?_getD, List.getElem?_eq_getElem (by rw [← HN.out]; exact hlt)]; rfl)
      have hcell : wr.cell? ⟨g, off + k, none⟩ = some (cellS (ys.getD k ([], none, 0))) := (hbw.cell (World.block_lt_of_cell? w _ hck)).trans hck
      obtain ⟨fn, tm, as_, bo, hy, hR⟩ := HY.out k wr (by omega) HJK.out
      unfold tellS at hy
      have HR := Lib.hid hR
      generalize cellS (ys.getD k ([], none, 0)) = x at *
      have i1 : (0 : Int) ≤ (k : Int) := by omega
      have i2 : (k : Int) < (n : Int) := by omega
      clear hR hck hc hbw
      gi_wp2
      refine HR.out.mono ?_
      rintro e W3 (⟨rfl, hj⟩ | ⟨rfl, hj⟩)
      · have HJ3 := Lib.hid hj
        clear hj
        gi_wp2
        exact ⟨⟨k + 1, by go_num, by omega, HJ3⟩, by simp [intOf]; omega⟩
      · have HJ3 := Lib.hid hj
        clear hj
        gi_wp2
        refine bodyPost_ret (results_none rfl _ _ _) rfl ?_
        exact ⟨⟨_, rfl⟩, .inr ⟨k + 1, by omega, HJ3.out⟩⟩
    · obtain rfl : k = n := by omega
      gi_wp2
      go_end0
      exact ⟨⟨_, rfl⟩, .inl HJK.out⟩
theorem jvalues_any (p : Option Addr) (n c : Nat) (w : World) :
    Calls Try.prog 34 #[.slice p n c] w fun e w' => e = .returned (.func (.func 53) #[] #[.pointer (some ⟨w.heap.size, 0, none⟩)]) ∧ w' = w.alloc (.cells #[.slice p n c] 26) := by
  go_enter Try.func34, Try.ntmps34
  go_wp2_with fail
  go_ret
  exact ⟨rfl, rfl⟩
end
end Go.Proofs.Ythopfpfmliookaa
