/-
  The program's Split over its iterator: a caller that gathers records, left by break.
-/
import Derived.Test.YteepaoklibflpaaR20
import Derived.Test.YteepaoklibflpaaR21
namespace Go.Proofs.Yteepaoklibflpaa
section
set_option linter.unusedSimpArgs false
set_option linter.unusedVariables false
open Go.RowKit Go.Shelf Sha
attribute [local go_sem] Oper.semAt_some
attribute [local go_sem ↓] execOp_loadHead execOp_neqHead
theorem pieces_in (m : Nat) (p : Option Addr) (n cap : Nat) (w : World) :
    CallsIn Fence.wide m Try.prog 29 #[.slice p n cap] w fun e w' => e = .returned (.func (.func 43) #[] #[.pointer (some ⟨w.heap.size, 0, none⟩)]) ∧ w' = w.alloc (.cells #[.slice p n cap] 28) := by
  refine callsIn_of_wp Try.func29 rfl trivial ?_ rfl
  simp only [Try.ntmps29, List.size_toArray, List.length_cons, List.length_nil, Nat.reduceAdd, Nat.reduceSub, Array.replicate_succ, Array.replicate_zero, List.push_toArray, List.append_toArray, List.nil_append, List.cons_append]
  gi_wp2
  go_ret
  exact ⟨rfl, rfl⟩
theorem pieces_stops (m : Nat) (h1 : 1 ≤ m) (w0 : World) (zs : List Int) (n : Nat) (p : Option Addr) (cap : Nat) (hn : zs.length = n) (h : GoodS w0 (zs, p, cap)) (hsm : n ≤ 1000000000) (Bn : Nat) (w : World) (hlt : Bn < w.heap.size)
    (hBn : w.cell? ⟨Bn, 0, none⟩ = some (.slice p n cap)) (hw0 : w0.heap.size ≤ Bn) (hB0 : Below w0.heap.size w0 w) :
    SeqStopsK Fence.wide m Try.prog 43 #[.pointer (some ⟨Bn, 0, none⟩)] (encsP (w0 := w0)) (KpB w0.heap.size Bn)
      (fun ys => ∃ k, Going zs (ys.map (·.1)) k ∧ Frm.stands (zs.drop k) = []) (fun pre => ∃ k, Going zs (pre.map (·.1)) k) (n + 1) w := fun l J Jx W hW hJ _ hY h0 =>
  pieces1_in m h1 w0 zs n p cap hn h hsm l Bn J Jx W hJ hY ((hW.cell (p := ⟨Bn, 0, none⟩) hlt).trans hBn) hw0 (hB0.trans (hW.mono hB0.size)) h0
set_option maxRecDepth 100000 in
set_option maxHeartbeats 2000000 in
theorem fsplit_any (zs : List Int) (n : Nat) (p : Option Addr) (cap : Nat) (w : World) (hn : zs.length = n) (h : GoodS w (zs, p, cap)) (hsm : n ≤ 1000000000) :
    Calls Try.prog 17 #[.slice p n cap] w (SpDone8 w (Frm.split zs)) := by
  refine (callsIn_wide (n := 5)).1 ?_
  refine callsIn_of_wp_marks Try.func17 rfl trivial ?_ rfl
  simp only [Try.ntmps17, List.size_toArray, List.length_cons, List.length_nil, Nat.reduceAdd, Nat.reduceSub, Array.replicate_succ, Array.replicate_zero, List.push_toArray, List.append_toArray, List.nil_append, List.cons_append]
  gi_wp2_with (refine ⟨trivial, ?_⟩; gi_at_call 29; refine (pieces_in 4 _ _ _ _).mono ?_; rintro e w' ⟨rfl, rfl⟩)
  have bO := Boxed.new w 47 (.slice none 0 0)
  have bA := Boxed.new (w.alloc (.cells #[.slice none 0 0] 47)) 3 (.int .i64 0)
  have bB := Boxed.new ((w.alloc (.cells #[.slice none 0 0] 47)).alloc (.cells #[.int .i64 0] 3)) 28 (.slice p n cap)
  have hB0 : Below w.heap.size w (((w.alloc (.cells #[.slice none 0 0] 47)).alloc (.cells #[.int .i64 0] 3)).alloc (.cells #[.slice p n cap] 28)) := (((Below.refl _ w).alloc (Nat.le_refl _) _).alloc (by simp) _).alloc (by simp; omega) _
  simp only [World.size_alloc] at bA bB
  refine wpIn_rangeFunc_ownH rfl (by omega) (gf := 43) (lb := #[.pointer (some ⟨w.heap.size + 1 + 1, 0, none⟩)]) rfl trivial (enters_of Try.func43 (by kernel_rfl) rfl)
    (pieces_stops 4 (by omega) w zs n p cap hn h hsm (w.heap.size + 1 + 1) _ (by simp) bB.cell (by omega) hB0) kpB_t (kpB_b (by simp; omega) (by simp)) (Below.refl _ _) (fun _ => rfl)
    (fun pre W => HoldP w.heap.size (.slice p n cap) pre W ∧ Below w.heap.size w W)
    (fun c pre W => LeftP w.heap.size (.slice p n cap) c pre W ∧ Below w.heap.size w W)
    (OwnFrom.and (Own.from (holdP_own w.heap.size _) _) (ownFrom_below (Nat.le_refl _) (by simp; omega)))
    (fun c => OwnFrom.and (Own.from (leftP_own w.heap.size _ c) _) (ownFrom_below (Nat.le_refl _) (by simp; omega)))
    ⟨⟨by simp, ⟨_, [], (bO.alloc _).alloc _, OwnS.nil _ _, by simp, rfl⟩, bA.alloc _, bB⟩, hB0⟩
    (fun x a' W => ∃ Bx, w.heap.size + 1 + 1 < Bx ∧ Blk W Bx (x.1.1.map v8) 72 ∧ a' = { tmps := #[.slice p n cap, undef, .slice none 0 0, .int .i64 0, .pointer (some ⟨w.heap.size, 0, none⟩), .pointer (some ⟨w.heap.size + 1, 0, none⟩), .pointer (some ⟨Bx, 0, none⟩), cellS x.1.2, .slice p n cap, .func (.func 43) #[] #[.pointer (some ⟨w.heap.size + 1 + 1, 0, none⟩)], .agg (x.1.1.map v8).toArray, cellS x.1.2, undef, undef, undef, undef, undef, undef, undef, undef, undef, undef, undef, undef, undef, undef, undef, undef], defers := [] })
    (fun x a' _ X Y row hs hg hr => by
      obtain ⟨Bx, h1, h2, h3⟩ := hs
      refine ⟨Bx, h1, (hg.block Bx h2.lt fun e => ?_).trans h2, h3⟩
      obtain ⟨_, o, ho, hc⟩ := hr Bx e.symm
      rw [show X.heap[Bx]? = _ from h2] at ho; cases ho; cases hc)
    ?assign ?body ?done ?stop
  case assign =>
    rintro l pre x W K ⟨hH, hB⟩ hK
    have hx8 := x.2.1
    have hsz0 : (Try.prog.info? 72).map (fun i => i.size) = some (x.1.1.map v8).toArray.size := by rw [sizeHead]; simp [hx8]
    have HX8 := Lib.hid hx8
    have bc := hH.2.2.2
    have HH := Lib.hid hH
    clear hx8 hH
    unfold encsP
    gi_wp2_with (refine wpListIn_store_row rfl 72 (.tmp 6) (.tmp 10) rfl W.heap.size (x.1.1.map v8).toArray rfl rfl _ _ (Blk.new _ _ _) hsz0 (by simp [HX8.out]) (by simp [Value.oneCell']) ?_; rw [World.setRow_alloc_new])
    exact hK _ _ ((KeepsOthers.alloc _ _).from _) ⟨(Below.refl _ W).alloc hB.size _, Below.heap_alloc _ _ _ bc.lt⟩ ⟨Own.alloc (holdP_own w.heap.size _) _ HH.out, hB.alloc hB.size _⟩ ⟨W.heap.size, bc.lt, by have h1 := Blk.new W (x.1.1.map v8).toArray 72; exact h1, rfl⟩
  case body =>
    rintro l pre y a' W hl ⟨r, hr⟩ ⟨⟨hne, ⟨v, ys, bv, ho, hi, hm⟩, ba, bc⟩, hB⟩ ⟨Bx, hBx, bX, rfl⟩ hlt
    obtain ⟨z, xs, q, d, hv⟩ : ∃ z xs q d, y.1 = (z, xs, q, d) := ⟨_, _, _, _, rfl⟩
    have HZL : Hid (z.length = 8) := by have := y.2.1; rw [hv] at this; exact this
    have HGX : Hid (GoodS w (xs, q, d)) := by have := y.2.2.1; rw [hv] at this; exact this
    have hx1 : 1 ≤ xs.length := by have := y.2.2.2.1; rw [hv] at this; exact this
    have hx4 : xs.length ≤ 4000 := by have := y.2.2.2.2; rw [hv] at this; exact this
    have hyz : y.1.1 = z := by rw [hv]
    have hyx : y.1.2.1 = xs := by rw [hv]
    have hfs := farP_snoc pre y
    rw [hyx] at hfs
    have hfl := farP_le pre
    obtain ⟨c, hc⟩ : ∃ c, c = xs.length := ⟨_, rfl⟩
    unfold cellS
    simp only [hv, ← hc]
    rw [hv] at bX
    rw [← hc] at hx1 hx4 hfs
    have HC := Lib.hid hc
    have HFS := Lib.hid hfs
    have HNE := Lib.hid hne
    have HM := Lib.hid hm
    have HI := Lib.hid hi
    have HYZ := Lib.hid hyz
    have HYX := Lib.hid hyx
    have hys : ys.length ≤ 1000000000 := by have := congrArg List.length hm; simp only [List.length_map] at this; omega
    have GW := Lib.hid (HGX.out.below hB)
    clear hv hc hfs hne hm hi hyz hyx
    gi_wp2
    refine wpIn_cut2 (fun a' w' => a' = { tmps := #[.slice p n cap, undef, .slice none 0 0, .int .i64 0, .pointer (some ⟨w.heap.size, 0, none⟩), .pointer (some ⟨w.heap.size + 1, 0, none⟩), .pointer (some ⟨Bx, 0, none⟩), .slice q c d, .slice p n cap, .func (.func 43) #[] #[.pointer (some ⟨w.heap.size + 1 + 1, 0, none⟩)], .agg (z.map v8).toArray, .slice q c d, .agg (z.map v8).toArray, .slice q c d, .agg ((hd xs).map v8).toArray, .bool (!decide (z = hd xs)), undef, undef, undef, undef, undef, undef, undef, undef, undef, undef, undef, undef], defers := [] } ∧ Below W.heap.size W w') ?_ ?_
    · rintro _ W6 ⟨rfl, hb6⟩
      by_cases hz : z = hd xs
      · have hq : (!decide (z = hd xs)) = false := by simp [hz]
        rw [hq]
        have hsz : w.heap.size + 1 + 1 + 1 ≤ W.heap.size := bc.lt
        have bv6 : Boxed W6.drew w.heap.size 47 v := boxed_below bv hb6.drew
        have ba6 : Boxed W6.drew (w.heap.size + 1) 3 (.int .i64 (farP pre : Nat)) := boxed_below ba hb6.drew
        have bc6 : Boxed W6.drew (w.heap.size + 1 + 1) 28 (.slice p n cap) := boxed_below bc hb6.drew
        have CO6 := Lib.hid (show OwnS (w.heap.size + 1 + 1 + 1) W6.drew v ys from (ho.on hb6).on (Below.refl _ _).drew)
        have I6 := Lib.hid (show ∀ y ∈ ys, Ints8 W6.drew (cellS y) from fun y hy => (HI.out y hy).carry fun g e => hb6.block g ((ho.good y hy).own.lt g e).2)
        have G6 := Lib.hid ((GW.out.below hb6).below ((Below.refl _ W6).drew))
        have B6 := Lib.hid hb6
        have HZ := Lib.hid hz
        have cv := bv6.cell
        clear hq hz hb6
        gi_wp2
        refine wpIn_cut2 (fun a' w' => ∃ q3 c3 g8 v8', a' = { tmps := #[.slice p n cap, undef, .slice none 0 0, .int .i64 0, .pointer (some ⟨w.heap.size, 0, none⟩), .pointer (some ⟨w.heap.size + 1, 0, none⟩), .pointer (some ⟨Bx, 0, none⟩), .slice q c d, .slice p n cap, .func (.func 43) #[] #[.pointer (some ⟨w.heap.size + 1 + 1, 0, none⟩)], .agg (z.map v8).toArray, .slice q c d, .agg (z.map v8).toArray, .slice q c d, .agg ((hd xs).map v8).toArray, .bool false, v, .slice q c d, .slice q3 c c3, .slice g8 1 1, v8', undef, undef, undef, undef, undef, undef, undef], defers := [] } ∧ Mid w W w' (.slice p n cap) v8' (ys ++ [(xs, q3, c3)]) (farP pre)) ?_ ?_
        · rintro _ W9 ⟨q3, c3, g8, v8', rfl, hmid⟩
          have MID := Lib.hid hmid
          have ca : W9.drew.cell? ⟨w.heap.size + 1, 0, none⟩ = some (.int .i64 (farP pre : Nat)) := hmid.far.cell
          have za : W9.drew.frozen? ⟨w.heap.size + 1, 0, none⟩ = false := hmid.far.frozen
          have hwr : IntKind.i64.wrap ((farP pre : Int) + (8 + (c : Int))) = ((farP pre + (8 + c) : Nat) : Int) := by rw [IntWalk.i64_in _ (by omega)]; push_cast; rfl
          clear hmid
          gi_wp2
          refine wpIn_region_any (by kernel_rfl) ?_
          change wpAnyIn _ _ _ _ _ _ _ _ _ W9.drew
          refine wpAnyIn_ready (rs := [0, 1]) (by kernel_rfl) (by simp) ?_
          refine AllReadyIn.cons rfl (fun K hK => ?_) (AllReadyIn.cons rfl (fun K hK => ?_) AllReadyIn.nil)
          · go_simp
            refine hK _ _ ?_
            clear hK K
            refine wpAnyIn_ready (rs := [1]) (by kernel_rfl) (by simp) ?_
            refine AllReadyIn.cons rfl (fun K hK => ?_) AllReadyIn.nil
            go_simp
            refine hK _ _ ?_
            clear hK K
            refine wpAnyIn_ready (rs := [2]) (by kernel_rfl) (by simp) ?_
            refine AllReadyIn.cons rfl (fun K hK => ?_) AllReadyIn.nil
            go_simp
            refine hK _ _ ?_
            clear hK K
            refine wpAnyIn_ready (rs := [3]) (by kernel_rfl) (by simp) ?_
            refine AllReadyIn.cons rfl (fun K hK => ?_) AllReadyIn.nil
            go_simp
            refine ⟨trivial, ?_⟩
            refine (CallsIn.inRound l (callsIn_wide.2 (fsize_any (c : Int) W9.drew (by omega)))).mono ?_
            rintro e w10 ⟨rfl, rfl⟩
            rw [show fsize (c : Int) = 8 + (c : Int) by unfold fsize; rw [if_neg (by omega)]]
            refine hK _ _ ?_
            clear hK K
            refine wpAnyIn_ready (rs := [4]) (by kernel_rfl) (by simp) ?_
            refine AllReadyIn.cons rfl (fun K hK => ?_) AllReadyIn.nil
            go_simp
            refine hK _ _ ?_
            clear hK K
            refine wpAnyIn_ready (rs := [5]) (by kernel_rfl) (by simp) ?_
            refine AllReadyIn.cons rfl (fun K hK => ?_) AllReadyIn.nil
            go_simp
            refine hK _ _ ?_
            clear hK K
            refine wpAnyIn_done (by kernel_rfl) ?_ _
            exact Mid.end_ (tm := { tmps := #[], defers := [] }) (k := 1) MID.out bc hB HNE.out HM.out HYX.out (by rw [HYZ.out, HYX.out]; exact HZ.out) HFS.out
          · go_simp
            refine hK _ _ ?_
            clear hK K
            refine wpAnyIn_ready (rs := [0, 2]) (by kernel_rfl) (by simp) ?_
            refine AllReadyIn.cons rfl (fun K hK => ?_) (AllReadyIn.cons rfl (fun K hK => ?_) AllReadyIn.nil)
            · go_simp
              refine hK _ _ ?_
              clear hK K
              refine wpAnyIn_ready (rs := [2]) (by kernel_rfl) (by simp) ?_
              refine AllReadyIn.cons rfl (fun K hK => ?_) AllReadyIn.nil
              go_simp
              refine hK _ _ ?_
              clear hK K
              refine wpAnyIn_ready (rs := [3]) (by kernel_rfl) (by simp) ?_
              refine AllReadyIn.cons rfl (fun K hK => ?_) AllReadyIn.nil
              go_simp
              refine ⟨trivial, ?_⟩
              refine (CallsIn.inRound l (callsIn_wide.2 (fsize_any (c : Int) W9.drew (by omega)))).mono ?_
              rintro e w10 ⟨rfl, rfl⟩
              rw [show fsize (c : Int) = 8 + (c : Int) by unfold fsize; rw [if_neg (by omega)]]
              refine hK _ _ ?_
              clear hK K
              refine wpAnyIn_ready (rs := [4]) (by kernel_rfl) (by simp) ?_
              refine AllReadyIn.cons rfl (fun K hK => ?_) AllReadyIn.nil
              go_simp
              refine hK _ _ ?_
              clear hK K
              refine wpAnyIn_ready (rs := [5]) (by kernel_rfl) (by simp) ?_
              refine AllReadyIn.cons rfl (fun K hK => ?_) AllReadyIn.nil
              go_simp
              refine hK _ _ ?_
              clear hK K
              refine wpAnyIn_done (by kernel_rfl) ?_ _
              exact Mid.end_ (tm := { tmps := #[], defers := [] }) (k := 1) MID.out bc hB HNE.out HM.out HYX.out (by rw [HYZ.out, HYX.out]; exact HZ.out) HFS.out
            · go_simp
              refine hK _ _ ?_
              clear hK K
              refine wpAnyIn_ready (rs := [0, 3]) (by kernel_rfl) (by simp) ?_
              refine AllReadyIn.cons rfl (fun K hK => ?_) (AllReadyIn.cons rfl (fun K hK => ?_) AllReadyIn.nil)
              · go_simp
                refine hK _ _ ?_
                clear hK K
                refine wpAnyIn_ready (rs := [3]) (by kernel_rfl) (by simp) ?_
                refine AllReadyIn.cons rfl (fun K hK => ?_) AllReadyIn.nil
                go_simp
                refine ⟨trivial, ?_⟩
                refine (CallsIn.inRound l (callsIn_wide.2 (fsize_any (c : Int) W9.drew (by omega)))).mono ?_
                rintro e w10 ⟨rfl, rfl⟩
                rw [show fsize (c : Int) = 8 + (c : Int) by unfold fsize; rw [if_neg (by omega)]]
                refine hK _ _ ?_
                clear hK K
                refine wpAnyIn_ready (rs := [4]) (by kernel_rfl) (by simp) ?_
                refine AllReadyIn.cons rfl (fun K hK => ?_) AllReadyIn.nil
                go_simp
                refine hK _ _ ?_
                clear hK K
                refine wpAnyIn_ready (rs := [5]) (by kernel_rfl) (by simp) ?_
                refine AllReadyIn.cons rfl (fun K hK => ?_) AllReadyIn.nil
                go_simp
                refine hK _ _ ?_
                clear hK K
                refine wpAnyIn_done (by kernel_rfl) ?_ _
                exact Mid.end_ (tm := { tmps := #[], defers := [] }) (k := 1) MID.out bc hB HNE.out HM.out HYX.out (by rw [HYZ.out, HYX.out]; exact HZ.out) HFS.out
              · go_simp
                refine ⟨trivial, ?_⟩
                refine (CallsIn.inRound l (callsIn_wide.2 (fsize_any (c : Int) W9.drew (by omega)))).mono ?_
                rintro e w10 ⟨rfl, rfl⟩
                rw [show fsize (c : Int) = 8 + (c : Int) by unfold fsize; rw [if_neg (by omega)]]
                refine hK _ _ ?_
                clear hK K
                refine wpAnyIn_ready (rs := [0]) (by kernel_rfl) (by simp) ?_
                refine AllReadyIn.cons rfl (fun K hK => ?_) AllReadyIn.nil
                go_simp
                refine hK _ _ ?_
                clear hK K
                refine wpAnyIn_ready (rs := [4]) (by kernel_rfl) (by simp) ?_
                refine AllReadyIn.cons rfl (fun K hK => ?_) AllReadyIn.nil
                go_simp
                refine hK _ _ ?_
                clear hK K
                refine wpAnyIn_ready (rs := [5]) (by kernel_rfl) (by simp) ?_
                refine AllReadyIn.cons rfl (fun K hK => ?_) AllReadyIn.nil
                go_simp
                refine hK _ _ ?_
                clear hK K
                refine wpAnyIn_done (by kernel_rfl) ?_ _
                exact Mid.end_ (tm := { tmps := #[], defers := [] }) (k := 1) MID.out bc hB HNE.out HM.out HYX.out (by rw [HYZ.out, HYX.out]; exact HZ.out) HFS.out
        · refine wpIn_region_any (by kernel_rfl) ?_
          change wpAnyIn _ _ _ _ _ _ _ _ _ W6.drew
          refine wpAnyIn_ready (rs := [0, 1]) (by kernel_rfl) (by simp) ?_
          refine AllReadyIn.cons rfl (fun K hK => ?_) (AllReadyIn.cons rfl (fun K hK => ?_) AllReadyIn.nil)
          · go_simp
            refine hK _ _ ?_
            clear hK K
            refine wpAnyIn_ready (rs := [1]) (by kernel_rfl) (by simp) ?_
            refine AllReadyIn.cons rfl (fun K hK => ?_) AllReadyIn.nil
            go_simp
            refine hK _ _ ?_
            clear hK K
            refine wpAnyIn_ready (rs := [2]) (by kernel_rfl) (by simp) ?_
            refine AllReadyIn.cons rfl (fun K hK => ?_) AllReadyIn.nil
            go_simp
            refine ⟨trivial, ?_⟩
            refine (CallsIn.inRound l (callsIn_wide.2 (bclone_any xs c q d W6.drew HC.out.symm G6.out (by omega)))).mono ?_
            rintro e w3 ⟨v3, rfl, ho3, hb3⟩
            obtain ⟨q3, c3, rfl, _, _, _, _, _⟩ := own_at ho3.row
            rw [← HC.out] at ho3 ⊢
            have K3 := Lib.hid (keepsOthers_below (B6.out.drew.trans (hb3.mono B6.out.size)))
            have D3 := Lib.hid ((B6.out.mono hB.size).drew.trans (hb3.mono (show w.heap.size ≤ W6.drew.heap.size from Nat.le_trans hB.size B6.out.size)))
            have b3v := boxed_below bv6 hb3
            have b3a := boxed_below ba6 hb3
            have b3c := boxed_below bc6 hb3
            have C3 := Lib.hid (CO6.out.on hb3)
            have I3 := Lib.hid (fun y hy => (I6.out y hy).carry fun g e => hb3.block g ((CO6.out.good y hy).own.lt g e).2)
            have R3 := Lib.hid (show RecO (w.heap.size + 1 + 1 + 1) w3 (xs, q3, c3) from ⟨HGX.out.bytes, by have h1 := ho3.row; rw [HC.out] at h1; exact own_weak h1 (Nat.le_trans hsz B6.out.size)⟩)
            have N3 := Lib.hid (show Ints8 w3 (cellS (xs, q3, c3)) by have h1 := ho3.ints; rw [HC.out] at h1; exact h1)
            have hs3 : w.heap.size + 1 + 1 + 1 ≤ w3.heap.size := b3c.lt
            have cv3 := b3v.cell
            have cv4 := (b3v.alloc (Obj.cells #[.slice q3 c c3] 28)).cell
            clear ho3 hb3
            refine hK _ _ ?_
            clear hK K
            refine wpAnyIn_ready (rs := [3]) (by kernel_rfl) (by simp) ?_
            refine AllReadyIn.cons rfl (fun K hK => ?_) AllReadyIn.nil
            go_simp
            refine hK _ _ ?_
            clear hK K
            refine wpAnyIn_ready (rs := [4]) (by kernel_rfl) (by simp) ?_
            refine AllReadyIn.cons rfl (fun K hK => ?_) AllReadyIn.nil
            refine stepIn_append rfl (.tmp 16) (.tmp 19) 47 rfl (step_app rfl (.tmp 16) (.tmp 19) 47 rfl (w.heap.size + 1 + 1 + 1) 28 Try.underlying47 slice_info rfl v ys.length _ rfl (C3.out.own.alloc _) _ 1 1 [cellS (xs, q3, c3)] rfl (by have h1 := at_one w3 (cellS (xs, q3, c3)) 28; unfold cellS at h1 ⊢; simp only [← HC.out] at h1 ⊢; exact h1) rfl (fun h => by cases h) (by omega) (by simp [cellS_one]) (by omega) (by unfold maxLen; omega) (by simp; omega) ?_)
            intro v8' w8 hown8 hg8 hb8 hs8
            obtain ⟨q8, c8, rfl, _, _, _, _, _⟩ := own_at hown8
            obtain ⟨f1, hmid⟩ := Mid.made K3.out D3.out hs3 b3v b3a b3c C3.out I3.out R3.out N3.out hg8 hown8
            have MID := Lib.hid hmid
            have c1 := f1.cell
            have z1 := f1.frozen
            clear hmid hown8 hg8
            refine hK _ _ ?_
            clear hK K
            refine wpAnyIn_ready (rs := [5]) (by kernel_rfl) (by simp) ?_
            refine AllReadyIn.cons rfl (fun K hK => ?_) AllReadyIn.nil
            go_simp
            refine hK _ _ ?_
            clear hK K
            refine wpAnyIn_done (by kernel_rfl) ?_ _
            exact ⟨rfl, q3, c3, _, _, rfl, MID.out⟩
          · go_simp
            refine hK _ _ ?_
            clear hK K
            refine wpAnyIn_ready (rs := [0, 2]) (by kernel_rfl) (by simp) ?_
            refine AllReadyIn.cons rfl (fun K hK => ?_) (AllReadyIn.cons rfl (fun K hK => ?_) AllReadyIn.nil)
            · go_simp
              refine hK _ _ ?_
              clear hK K
              refine wpAnyIn_ready (rs := [2]) (by kernel_rfl) (by simp) ?_
              refine AllReadyIn.cons rfl (fun K hK => ?_) AllReadyIn.nil
              go_simp
              refine ⟨trivial, ?_⟩
              refine (CallsIn.inRound l (callsIn_wide.2 (bclone_any xs c q d W6.drew HC.out.symm G6.out (by omega)))).mono ?_
              rintro e w3 ⟨v3, rfl, ho3, hb3⟩
              obtain ⟨q3, c3, rfl, _, _, _, _, _⟩ := own_at ho3.row
              rw [← HC.out] at ho3 ⊢
              have K3 := Lib.hid (keepsOthers_below (B6.out.drew.trans (hb3.mono B6.out.size)))
              have D3 := Lib.hid ((B6.out.mono hB.size).drew.trans (hb3.mono (show w.heap.size ≤ W6.drew.heap.size from Nat.le_trans hB.size B6.out.size)))
              have b3v := boxed_below bv6 hb3
              have b3a := boxed_below ba6 hb3
              have b3c := boxed_below bc6 hb3
              have C3 := Lib.hid (CO6.out.on hb3)
              have I3 := Lib.hid (fun y hy => (I6.out y hy).carry fun g e => hb3.block g ((CO6.out.good y hy).own.lt g e).2)
              have R3 := Lib.hid (show RecO (w.heap.size + 1 + 1 + 1) w3 (xs, q3, c3) from ⟨HGX.out.bytes, by have h1 := ho3.row; rw [HC.out] at h1; exact own_weak h1 (Nat.le_trans hsz B6.out.size)⟩)
              have N3 := Lib.hid (show Ints8 w3 (cellS (xs, q3, c3)) by have h1 := ho3.ints; rw [HC.out] at h1; exact h1)
              have hs3 : w.heap.size + 1 + 1 + 1 ≤ w3.heap.size := b3c.lt
              have cv3 := b3v.cell
              have cv4 := (b3v.alloc (Obj.cells #[.slice q3 c c3] 28)).cell
              clear ho3 hb3
              refine hK _ _ ?_
              clear hK K
              refine wpAnyIn_ready (rs := [3]) (by kernel_rfl) (by simp) ?_
              refine AllReadyIn.cons rfl (fun K hK => ?_) AllReadyIn.nil
              go_simp
              refine hK _ _ ?_
              clear hK K
              refine wpAnyIn_ready (rs := [4]) (by kernel_rfl) (by simp) ?_
              refine AllReadyIn.cons rfl (fun K hK => ?_) AllReadyIn.nil
              refine stepIn_append rfl (.tmp 16) (.tmp 19) 47 rfl (step_app rfl (.tmp 16) (.tmp 19) 47 rfl (w.heap.size + 1 + 1 + 1) 28 Try.underlying47 slice_info rfl v ys.length _ rfl (C3.out.own.alloc _) _ 1 1 [cellS (xs, q3, c3)] rfl (by have h1 := at_one w3 (cellS (xs, q3, c3)) 28; unfold cellS at h1 ⊢; simp only [← HC.out] at h1 ⊢; exact h1) rfl (fun h => by cases h) (by omega) (by simp [cellS_one]) (by omega) (by unfold maxLen; omega) (by simp; omega) ?_)
              intro v8' w8 hown8 hg8 hb8 hs8
              obtain ⟨q8, c8, rfl, _, _, _, _, _⟩ := own_at hown8
              obtain ⟨f1, hmid⟩ := Mid.made K3.out D3.out hs3 b3v b3a b3c C3.out I3.out R3.out N3.out hg8 hown8
              have MID := Lib.hid hmid
              have c1 := f1.cell
              have z1 := f1.frozen
              clear hmid hown8 hg8
              refine hK _ _ ?_
              clear hK K
              refine wpAnyIn_ready (rs := [5]) (by kernel_rfl) (by simp) ?_
              refine AllReadyIn.cons rfl (fun K hK => ?_) AllReadyIn.nil
              go_simp
              refine hK _ _ ?_
              clear hK K
              refine wpAnyIn_done (by kernel_rfl) ?_ _
              exact ⟨rfl, q3, c3, _, _, rfl, MID.out⟩
            · go_simp
              refine ⟨trivial, ?_⟩
              refine (CallsIn.inRound l (callsIn_wide.2 (bclone_any xs c q d W6.drew HC.out.symm G6.out (by omega)))).mono ?_
              rintro e w3 ⟨v3, rfl, ho3, hb3⟩
              obtain ⟨q3, c3, rfl, _, _, _, _, _⟩ := own_at ho3.row
              rw [← HC.out] at ho3 ⊢
              have K3 := Lib.hid (keepsOthers_below (B6.out.drew.trans (hb3.mono B6.out.size)))
              have D3 := Lib.hid ((B6.out.mono hB.size).drew.trans (hb3.mono (show w.heap.size ≤ W6.drew.heap.size from Nat.le_trans hB.size B6.out.size)))
              have b3v := boxed_below bv6 hb3
              have b3a := boxed_below ba6 hb3
              have b3c := boxed_below bc6 hb3
              have C3 := Lib.hid (CO6.out.on hb3)
              have I3 := Lib.hid (fun y hy => (I6.out y hy).carry fun g e => hb3.block g ((CO6.out.good y hy).own.lt g e).2)
              have R3 := Lib.hid (show RecO (w.heap.size + 1 + 1 + 1) w3 (xs, q3, c3) from ⟨HGX.out.bytes, by have h1 := ho3.row; rw [HC.out] at h1; exact own_weak h1 (Nat.le_trans hsz B6.out.size)⟩)
              have N3 := Lib.hid (show Ints8 w3 (cellS (xs, q3, c3)) by have h1 := ho3.ints; rw [HC.out] at h1; exact h1)
              have hs3 : w.heap.size + 1 + 1 + 1 ≤ w3.heap.size := b3c.lt
              have cv3 := b3v.cell
              have cv4 := (b3v.alloc (Obj.cells #[.slice q3 c c3] 28)).cell
              clear ho3 hb3
              refine hK _ _ ?_
              clear hK K
              refine wpAnyIn_ready (rs := [0, 3]) (by kernel_rfl) (by simp) ?_
              refine AllReadyIn.cons rfl (fun K hK => ?_) (AllReadyIn.cons rfl (fun K hK => ?_) AllReadyIn.nil)
              · go_simp
                refine hK _ _ ?_
                clear hK K
                refine wpAnyIn_ready (rs := [3]) (by kernel_rfl) (by simp) ?_
                refine AllReadyIn.cons rfl (fun K hK => ?_) AllReadyIn.nil
                go_simp
                refine hK _ _ ?_
                clear hK K
                refine wpAnyIn_ready (rs := [4]) (by kernel_rfl) (by simp) ?_
                refine AllReadyIn.cons rfl (fun K hK => ?_) AllReadyIn.nil
                refine stepIn_append rfl (.tmp 16) (.tmp 19) 47 rfl (step_app rfl (.tmp 16) (.tmp 19) 47 rfl (w.heap.size + 1 + 1 + 1) 28 Try.underlying47 slice_info rfl v ys.length _ rfl (C3.out.own.alloc _) _ 1 1 [cellS (xs, q3, c3)] rfl (by have h1 := at_one w3 (cellS (xs, q3, c3)) 28; unfold cellS at h1 ⊢; simp only [← HC.out] at h1 ⊢; exact h1) rfl (fun h => by cases h) (by omega) (by simp [cellS_one]) (by omega) (by unfold maxLen; omega) (by simp; omega) ?_)
                intro v8' w8 hown8 hg8 hb8 hs8
                obtain ⟨q8, c8, rfl, _, _, _, _, _⟩ := own_at hown8
                obtain ⟨f1, hmid⟩ := Mid.made K3.out D3.out hs3 b3v b3a b3c C3.out I3.out R3.out N3.out hg8 hown8
                have MID := Lib.hid hmid
                have c1 := f1.cell
                have z1 := f1.frozen
                clear hmid hown8 hg8
                refine hK _ _ ?_
                clear hK K
                refine wpAnyIn_ready (rs := [5]) (by kernel_rfl) (by simp) ?_
                refine AllReadyIn.cons rfl (fun K hK => ?_) AllReadyIn.nil
                go_simp
                refine hK _ _ ?_
                clear hK K
                refine wpAnyIn_done (by kernel_rfl) ?_ _
                exact ⟨rfl, q3, c3, _, _, rfl, MID.out⟩
              · go_simp
                refine hK _ _ ?_
                clear hK K
                refine wpAnyIn_ready (rs := [0]) (by kernel_rfl) (by simp) ?_
                refine AllReadyIn.cons rfl (fun K hK => ?_) AllReadyIn.nil
                go_simp
                refine hK _ _ ?_
                clear hK K
                refine wpAnyIn_ready (rs := [4]) (by kernel_rfl) (by simp) ?_
                refine AllReadyIn.cons rfl (fun K hK => ?_) AllReadyIn.nil
                refine stepIn_append rfl (.tmp 16) (.tmp 19) 47 rfl (step_app rfl (.tmp 16) (.tmp 19) 47 rfl (w.heap.size + 1 + 1 + 1) 28 Try.underlying47 slice_info rfl v ys.length _ rfl (C3.out.own.alloc _) _ 1 1 [cellS (xs, q3, c3)] rfl (by have h1 := at_one w3 (cellS (xs, q3, c3)) 28; unfold cellS at h1 ⊢; simp only [← HC.out] at h1 ⊢; exact h1) rfl (fun h => by cases h) (by omega) (by simp [cellS_one]) (by omega) (by unfold maxLen; omega) (by simp; omega) ?_)
                intro v8' w8 hown8 hg8 hb8 hs8
                obtain ⟨q8, c8, rfl, _, _, _, _, _⟩ := own_at hown8
                obtain ⟨f1, hmid⟩ := Mid.made K3.out D3.out hs3 b3v b3a b3c C3.out I3.out R3.out N3.out hg8 hown8
                have MID := Lib.hid hmid
                have c1 := f1.cell
                have z1 := f1.frozen
                clear hmid hown8 hg8
                refine hK _ _ ?_
                clear hK K
                refine wpAnyIn_ready (rs := [5]) (by kernel_rfl) (by simp) ?_
                refine AllReadyIn.cons rfl (fun K hK => ?_) AllReadyIn.nil
                go_simp
                refine hK _ _ ?_
                clear hK K
                refine wpAnyIn_done (by kernel_rfl) ?_ _
                exact ⟨rfl, q3, c3, _, _, rfl, MID.out⟩
      · have hq : (!decide (z = hd xs)) = true := by simp [hz]
        rw [hq]
        have HZ := Lib.hid hz
        have B6 := Lib.hid hb6
        clear hq hz hb6
        gi_wp2
        exact ⟨(keepsOthers_below B6.out).from _, ⟨rfl, pre, y, rfl, by rw [HYZ.out, HYX.out]; exact HZ.out, HNE.out, ⟨v, ys, boxed_below bv B6.out, ho.on B6.out, fun y hy => (HI.out y hy).carry fun g e => B6.out.block g ((ho.good y hy).own.lt g e).2, HM.out⟩, boxed_below ba B6.out, boxed_below bc B6.out⟩, hB.trans (B6.out.mono hB.size)⟩
    · have hld : (hloadOp 72 (.pointer (some ⟨Bx, 0, none⟩))).run Try.prog W.drew = .ok (.value (.agg (z.map v8).toArray)) W.drew := load_head HZL.out bX.drew
      have GD := Lib.hid (GW.out.below ((Below.refl _ W).drew))
      have hnq := fun w' => run_neqHead (.tmp 12) (.tmp 14) z (hd xs) HZL.out (hd_length xs) w'
      refine wpIn_region_any (by kernel_rfl) ?_
      change wpAnyIn _ _ _ _ _ _ _ _ _ W.drew
      refine wpAnyIn_ready (rs := [0, 1]) (by kernel_rfl) (by simp) ?_
      refine AllReadyIn.cons rfl (fun K hK => ?_) (AllReadyIn.cons rfl (fun K hK => ?_) AllReadyIn.nil)
      · go_simp
        refine hK _ _ ?_
        clear hK K
        refine wpAnyIn_ready (rs := [1]) (by kernel_rfl) (by simp) ?_
        refine AllReadyIn.cons rfl (fun K hK => ?_) AllReadyIn.nil
        go_simp
        refine hK _ _ ?_
        clear hK K
        refine wpAnyIn_ready (rs := [2]) (by kernel_rfl) (by simp) ?_
        refine AllReadyIn.cons rfl (fun K hK => ?_) AllReadyIn.nil
        go_simp
        refine ⟨trivial, ?_⟩
        refine (CallsIn.inRound l (callsIn_wide.2 (headOf_any xs c q d W.drew HC.out.symm GD.out hx4))).mono ?_
        rintro e W6 ⟨rfl, hb6⟩
        have hld6 : (hloadOp 72 (.pointer (some ⟨Bx, 0, none⟩))).run Try.prog W6 = .ok (.value (.agg (z.map v8).toArray)) W6 := load_head HZL.out (bX.drew.below hb6 bX.lt)
        have B6 := Lib.hid ((Below.refl W.heap.size W).drew.trans hb6)
        clear hb6
        refine hK _ _ ?_
        clear hK K
        refine wpAnyIn_ready (rs := [3]) (by kernel_rfl) (by simp) ?_
        refine AllReadyIn.cons rfl (fun K hK => ?_) AllReadyIn.nil
        go_simp
        refine hK _ _ ?_
        clear hK K
        refine wpAnyIn_done (by kernel_rfl) ?_ _
        exact ⟨rfl, rfl, B6.out⟩
      · go_simp
        refine hK _ _ ?_
        clear hK K
        refine wpAnyIn_ready (rs := [0, 2]) (by kernel_rfl) (by simp) ?_
        refine AllReadyIn.cons rfl (fun K hK => ?_) (AllReadyIn.cons rfl (fun K hK => ?_) AllReadyIn.nil)
        · go_simp
          refine hK _ _ ?_
          clear hK K
          refine wpAnyIn_ready (rs := [2]) (by kernel_rfl) (by simp) ?_
          refine AllReadyIn.cons rfl (fun K hK => ?_) AllReadyIn.nil
          go_simp
          refine ⟨trivial, ?_⟩
          refine (CallsIn.inRound l (callsIn_wide.2 (headOf_any xs c q d W.drew HC.out.symm GD.out hx4))).mono ?_
          rintro e W6 ⟨rfl, hb6⟩
          have hld6 : (hloadOp 72 (.pointer (some ⟨Bx, 0, none⟩))).run Try.prog W6 = .ok (.value (.agg (z.map v8).toArray)) W6 := load_head HZL.out (bX.drew.below hb6 bX.lt)
          have B6 := Lib.hid ((Below.refl W.heap.size W).drew.trans hb6)
          clear hb6
          refine hK _ _ ?_
          clear hK K
          refine wpAnyIn_ready (rs := [3]) (by kernel_rfl) (by simp) ?_
          refine AllReadyIn.cons rfl (fun K hK => ?_) AllReadyIn.nil
          go_simp
          refine hK _ _ ?_
          clear hK K
          refine wpAnyIn_done (by kernel_rfl) ?_ _
          exact ⟨rfl, rfl, B6.out⟩
        · go_simp
          refine ⟨trivial, ?_⟩
          refine (CallsIn.inRound l (callsIn_wide.2 (headOf_any xs c q d W.drew HC.out.symm GD.out hx4))).mono ?_
          rintro e W6 ⟨rfl, hb6⟩
          have hld6 : (hloadOp 72 (.pointer (some ⟨Bx, 0, none⟩))).run Try.prog W6 = .ok (.value (.agg (z.map v8).toArray)) W6 := load_head HZL.out (bX.drew.below hb6 bX.lt)
          have B6 := Lib.hid ((Below.refl W.heap.size W).drew.trans hb6)
          clear hb6
          refine hK _ _ ?_
          clear hK K
          refine wpAnyIn_ready (rs := [0]) (by kernel_rfl) (by simp) ?_
          refine AllReadyIn.cons rfl (fun K hK => ?_) AllReadyIn.nil
          go_simp
          refine hK _ _ ?_
          clear hK K
          refine wpAnyIn_ready (rs := [3]) (by kernel_rfl) (by simp) ?_
          refine AllReadyIn.cons rfl (fun K hK => ?_) AllReadyIn.nil
          go_simp
          refine hK _ _ ?_
          clear hK K
          refine wpAnyIn_done (by kernel_rfl) ?_ _
          exact ⟨rfl, rfl, B6.out⟩
  case done =>
    rintro D p0 W hD ⟨k, hG, hst⟩ ⟨⟨hne, ⟨v, ys, bv, ho, hi, hm⟩, ba, bc⟩, hB⟩ hK
    have hsp := split_stop (hG.split h.bytes (by intro z hz; obtain ⟨z', hz', rfl⟩ := List.mem_map.1 hz; exact hne z' hz')) hst
    rw [hG.far] at hsp
    change Frm.split zs = (_, farP p0) at hsp
    have c1 := bv.cell
    have c2 := ba.cell
    have c1' : W.drew.cell? ⟨w.heap.size, 0, none⟩ = some v := c1
    have c2' : W.drew.cell? ⟨w.heap.size + 1, 0, none⟩ = some (.int .i64 (farP p0 : Nat)) := c2
    have HSP := Lib.hid hsp
    have HM := Lib.hid hm
    clear hsp hm
    gi_wp2
    gi_region
    all_goals gi_wp2
    have hK' : W.drew.heap[D]? = some (.deferred (some [])) := hK
    have hg := grownBy_putObj' W.drew D (.deferred none)
    have hr : ∀ r, some D = some r → ∃ o : Obj, W.drew.heap[r]? = some o ∧ o.isCells = false := fun r e => by cases e; exact ⟨_, hK', rfl⟩
    have ho' : OwnS (w.heap.size + 1 + 1 + 1) W.drew v ys := ho.on (Below.refl _ _).drew
    have hi' : ∀ y ∈ ys, Ints8 W.drew (cellS y) := fun y hy => (hi y hy).carry fun g _ => rfl
    refine ⟨by simp, .inl ⟨_, _, rfl, run_takeDeferred hK', ?_⟩⟩
    refine ⟨.tuple #[v, .int .i64 (farP p0 : Nat)], by simp [results, Try.f17, go_sem], v, ys, ?_, ?_, (ho'.kept hg hr).weak (by omega), fun y hy => (hi' y hy).kept (ho'.good y hy) hg hr, ?_⟩
    · rw [HSP.out]
    · rw [HSP.out, HM.out, List.map_map]; rfl
    · exact hB.drew.trans (belowK_b (w := w) (Nat.le_refl _) W.drew D _ _ (by simp at hD; omega) hK' rfl rfl)
  case stop =>
    rintro D c pre W hD ⟨k, hG⟩ ⟨⟨rfl, p0, y, rfl, hy, hne, ⟨v, ys, bv, ho, hi, hm⟩, ba, bc⟩, hB⟩ hK
    rw [List.map_append] at hG
    obtain ⟨k0, hG0, hst⟩ := hG.last h.bytes hy
    have hsp := split_stop (hG0.split h.bytes (by intro z hz; obtain ⟨z', hz', rfl⟩ := List.mem_map.1 hz; exact hne z' hz')) hst
    rw [hG0.far] at hsp
    change Frm.split zs = (_, farP p0) at hsp
    have c1 := bv.cell
    have c2 := ba.cell
    have c1' : W.drew.cell? ⟨w.heap.size, 0, none⟩ = some v := c1
    have c2' : W.drew.cell? ⟨w.heap.size + 1, 0, none⟩ = some (.int .i64 (farP p0 : Nat)) := c2
    have HSP := Lib.hid hsp
    have HM := Lib.hid hm
    clear hsp hm
    gi_wp2
    gi_region
    all_goals gi_wp2
    have hK' : W.drew.heap[D]? = some (.deferred (some [])) := hK
    have hg := grownBy_putObj' W.drew D (.deferred none)
    have hr : ∀ r, some D = some r → ∃ o : Obj, W.drew.heap[r]? = some o ∧ o.isCells = false := fun r e => by cases e; exact ⟨_, hK', rfl⟩
    have ho' : OwnS (w.heap.size + 1 + 1 + 1) W.drew v ys := ho.on (Below.refl _ _).drew
    have hi' : ∀ y ∈ ys, Ints8 W.drew (cellS y) := fun y hy => (hi y hy).carry fun g _ => rfl
    refine ⟨by simp, .inl ⟨_, _, rfl, run_takeDeferred hK', ?_⟩⟩
    refine ⟨.tuple #[v, .int .i64 (farP p0 : Nat)], by simp [results, Try.f17, go_sem], v, ys, ?_, ?_, (ho'.kept hg hr).weak (by omega), fun y hy => (hi' y hy).kept (ho'.good y hy) hg hr, ?_⟩
    · rw [HSP.out]
    · rw [HSP.out, HM.out, List.map_map]; rfl
    · exact hB.drew.trans (belowK_b (w := w) (Nat.le_refl _) W.drew D _ _ (by simp at hD; omega) hK' rfl rfl)
end
end Go.Proofs.Yteepaoklibflpaa
