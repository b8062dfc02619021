/-
  The program's Split over its iterator: a caller that gathers records, left by break.
  What the program's frames are asked to do, they do.
  The wire package's reader of items: next, number, node, count, pair.
-/
import Derived.Test.YtbogjfmefkhglaaGreatP18
import Derived.Test.YtbogjfmefkhglaaGreatP17
import Derived.Test.YtbogjfmefkhglaaGreatP4
import Derived.OwnWalk
import Derived.Test.YtbogjfmefkhglaaGreatRows
import Derived.WalkKit
import Derived.WalkSpells
import Derived.WalkLawsBesides
import Derived.IntWalk
import Derived.Lib.Hide
import Derived.Test.YtbogjfmefkhglaaGreatP1
import Derived.Test.YtbogjfmefkhglaaGreatP2
import Derived.Test.YtbogjfmefkhglaaGreatP8
namespace Go.Proofs.YtbogjfmefkhglaaGreat
section
set_option linter.unusedSimpArgs false
set_option linter.unusedVariables false
open Go.RowKit Go.Shelf Sha
attribute [local go_sem] Oper.semAt_some
attribute [local go_sem ↓] execOp_loadHead execOp_neqHead
theorem pieces_in (m : Nat) (p : Option Addr) (n cap : Nat) (w : World) :
    CallsIn Fence.wide m Tryz.prog 64 #[.slice p n cap] w fun e w' => e = .returned (.func (.func 92) #[] #[.pointer (some ⟨w.heap.size, 0, none⟩)]) ∧ w' = w.alloc (.cells #[.slice p n cap] 28) := by
  refine callsIn_of_wp Tryz.func64 rfl trivial ?_ rfl
  simp only [Tryz.ntmps64, List.size_toArray, List.length_cons, List.length_nil, Nat.reduceAdd, Nat.reduceSub, Array.replicate_succ, Array.replicate_zero, List.push_toArray, List.append_toArray, List.nil_append, List.cons_append]
  gi_wp2
  go_ret
  exact ⟨rfl, rfl⟩
theorem pieces_stops (m : Nat) (h1 : 1 ≤ m) (w0 : World) (zs : List Int) (n : Nat) (p : Option Addr) (cap : Nat) (hn : zs.length = n) (h : GoodS w0 (zs, p, cap)) (hsm : n ≤ 1000000000) (Bn : Nat) (w : World) (hlt : Bn < w.heap.size)
    (hBn : w.cell? ⟨Bn, 0, none⟩ = some (.slice p n cap)) (hw0 : w0.heap.size ≤ Bn) (hB0 : Below w0.heap.size w0 w) :
    SeqStopsK Fence.wide m Tryz.prog 92 #[.pointer (some ⟨Bn, 0, none⟩)] (encsP (w0 := w0)) (KpB w0.heap.size Bn)
      (fun ys => ∃ k, Going zs (ys.map (·.1)) k ∧ Frm.stands (zs.drop k) = []) (fun pre => ∃ k, Going zs (pre.map (·.1)) k) (n + 1) w := fun l J Jx W hW hJ _ hY h0 =>
  pieces1_in m h1 w0 zs n p cap hn h hsm l Bn J Jx W hJ hY ((hW.cell (p := ⟨Bn, 0, none⟩) hlt).trans hBn) hw0 (hB0.trans (hW.mono hB0.size)) h0
set_option maxRecDepth 100000 in
set_option maxHeartbeats 2000000 in
theorem fsplit_any (zs : List Int) (n : Nat) (p : Option Addr) (cap : Nat) (w : World) (hn : zs.length = n) (h : GoodS w (zs, p, cap)) (hsm : n ≤ 1000000000) :
    Calls Tryz.prog 39 #[.slice p n cap] w (SpDone8 w (Frm.split zs)) := by
  refine (callsIn_wide (n := 5)).1 ?_
  refine callsIn_of_wp_marks Tryz.func39 rfl trivial ?_ rfl
  simp only [Tryz.ntmps39, List.size_toArray, List.length_cons, List.length_nil, Nat.reduceAdd, Nat.reduceSub, Array.replicate_succ, Array.replicate_zero, List.push_toArray, List.append_toArray, List.nil_append, List.cons_append]
  gi_wp2_with (refine ⟨trivial, ?_⟩; gi_at_call 64; refine (pieces_in 4 _ _ _ _).mono ?_; rintro e w' ⟨rfl, rfl⟩)
  have bO := Boxed.new w 59 (.slice none 0 0)
  have bA := Boxed.new (w.alloc (.cells #[.slice none 0 0] 59)) 3 (.int .i64 0)
  have bB := Boxed.new ((w.alloc (.cells #[.slice none 0 0] 59)).alloc (.cells #[.int .i64 0] 3)) 28 (.slice p n cap)
  have hB0 : Below w.heap.size w (((w.alloc (.cells #[.slice none 0 0] 59)).alloc (.cells #[.int .i64 0] 3)).alloc (.cells #[.slice p n cap] 28)) := (((Below.refl _ w).alloc (Nat.le_refl _) _).alloc (by simp) _).alloc (by simp; omega) _
  simp only [World.size_alloc] at bA bB
  refine wpIn_rangeFunc_ownH rfl (by omega) (gf := 92) (lb := #[.pointer (some ⟨w.heap.size + 1 + 1, 0, none⟩)]) rfl trivial (enters_of Tryz.func92 (by kernel_rfl) rfl)
    (pieces_stops 4 (by omega) w zs n p cap hn h hsm (w.heap.size + 1 + 1) _ (by simp) bB.cell (by omega) hB0) kpB_t (kpB_b (by simp; omega) (by simp)) (Below.refl _ _) (fun _ => rfl)
    (fun pre W => HoldP w.heap.size (.slice p n cap) pre W ∧ Below w.heap.size w W)
    (fun c pre W => LeftP w.heap.size (.slice p n cap) c pre W ∧ Below w.heap.size w W)
    (OwnFrom.and (Own.from (holdP_own w.heap.size _) _) (ownFrom_below (Nat.le_refl _) (by simp; omega)))
    (fun c => OwnFrom.and (Own.from (leftP_own w.heap.size _ c) _) (ownFrom_below (Nat.le_refl _) (by simp; omega)))
    ⟨⟨by simp, ⟨_, [], (bO.alloc _).alloc _, OwnS.nil _ _, by simp, rfl⟩, bA.alloc _, bB⟩, hB0⟩
    (fun x a' W => ∃ Bx, w.heap.size + 1 + 1 < Bx ∧ Blk W Bx (x.1.1.map v8) 85 ∧ a' = { tmps := #[.slice p n cap, undef, .slice none 0 0, .int .i64 0, .pointer (some ⟨w.heap.size, 0, none⟩), .pointer (some ⟨w.heap.size + 1, 0, none⟩), .pointer (some ⟨Bx, 0, none⟩), cellS x.1.2, .slice p n cap, .func (.func 92) #[] #[.pointer (some ⟨w.heap.size + 1 + 1, 0, none⟩)], .agg (x.1.1.map v8).toArray, cellS x.1.2, undef, undef, undef, undef, undef, undef, undef, undef, undef, undef, undef, undef, undef, undef, undef, undef], defers := [] })
    (fun x a' _ X Y row hs hg hr => by
      obtain ⟨Bx, h1, h2, h3⟩ := hs
      refine ⟨Bx, h1, (hg.block Bx h2.lt fun e => ?_).trans h2, h3⟩
      obtain ⟨_, o, ho, hc⟩ := hr Bx e.symm
      rw [show X.heap[Bx]? = _ from h2] at ho; cases ho; cases hc)
    ?assign ?body ?done ?stop
  case assign =>
    rintro l pre x W K ⟨hH, hB⟩ hK
    have hx8 := x.2.1
    have hsz0 : (Tryz.prog.info? 85).map (fun i => i.size) = some (x.1.1.map v8).toArray.size := by rw [sizeHead]; simp [hx8]
    have HX8 := Lib.hid hx8
    have bc := hH.2.2.2
    have HH := Lib.hid hH
    clear hx8 hH
    unfold encsP
    gi_wp2_with (refine wpListIn_store_row rfl 85 (.tmp 6) (.tmp 10) rfl W.heap.size (x.1.1.map v8).toArray rfl rfl _ _ (Blk.new _ _ _) hsz0 (by simp [HX8.out]) (by simp [Value.oneCell']) ?_; rw [World.setRow_alloc_new])
    exact hK _ _ ((KeepsOthers.alloc _ _).from _) ⟨(Below.refl _ W).alloc hB.size _, Below.heap_alloc _ _ _ bc.lt⟩ ⟨Own.alloc (holdP_own w.heap.size _) _ HH.out, hB.alloc hB.size _⟩ ⟨W.heap.size, bc.lt, by have h1 := Blk.new W (x.1.1.map v8).toArray 85; exact h1, rfl⟩
  case body =>
    rintro l pre y a' W hl ⟨r, hr⟩ ⟨⟨hne, ⟨v, ys, bv, ho, hi, hm⟩, ba, bc⟩, hB⟩ ⟨Bx, hBx, bX, rfl⟩ hlt
    obtain ⟨z, xs, q, d, hv⟩ : ∃ z xs q d, y.1 = (z, xs, q, d) := ⟨_, _, _, _, rfl⟩
    have HZL : Hid (z.length = 8) := by have := y.2.1; rw [hv] at this; exact this
    have HGX : Hid (GoodS w (xs, q, d)) := by have := y.2.2.1; rw [hv] at this; exact this
    have hx1 : 1 ≤ xs.length := by have := y.2.2.2.1; rw [hv] at this; exact this
    have hx4 : xs.length ≤ 4000 := by have := y.2.2.2.2; rw [hv] at this; exact this
    have hyz : y.1.1 = z := by rw [hv]
    have hyx : y.1.2.1 = xs := by rw [hv]
    have hfs := farP_snoc pre y
    rw [hyx] at hfs
    have hfl := farP_le pre
    obtain ⟨c, hc⟩ : ∃ c, c = xs.length := ⟨_, rfl⟩
    unfold cellS
    simp only [hv, ← hc]
    rw [hv] at bX
    rw [← hc] at hx1 hx4 hfs
    have HC := Lib.hid hc
    have HFS := Lib.hid hfs
    have HNE := Lib.hid hne
    have HM := Lib.hid hm
    have HI := Lib.hid hi
    have HYZ := Lib.hid hyz
    have HYX := Lib.hid hyx
    have hys : ys.length ≤ 1000000000 := by have := congrArg List.length hm; simp only [List.length_map] at this; omega
    have GW := Lib.hid (HGX.out.below hB)
    clear hv hc hfs hne hm hi hyz hyx
    gi_wp2
    refine wpIn_cut2 (fun a' w' => a' = { tmps := #[.slice p n cap, undef, .slice none 0 0, .int .i64 0, .pointer (some ⟨w.heap.size, 0, none⟩), .pointer (some ⟨w.heap.size + 1, 0, none⟩), .pointer (some ⟨Bx, 0, none⟩), .slice q c d, .slice p n cap, .func (.func 92) #[] #[.pointer (some ⟨w.heap.size + 1 + 1, 0, none⟩)], .agg (z.map v8).toArray, .slice q c d, .agg (z.map v8).toArray, .slice q c d, .agg ((hd xs).map v8).toArray, .bool (!decide (z = hd xs)), undef, undef, undef, undef, undef, undef, undef, undef, undef, undef, undef, undef], defers := [] } ∧ Below W.heap.size W w') ?_ ?_
    · rintro _ W6 ⟨rfl, hb6⟩
      by_cases hz : z = hd xs
      · have hq : (!decide (z = hd xs)) = false := by simp [hz]
        rw [hq]
        have hsz : w.heap.size + 1 + 1 + 1 ≤ W.heap.size := bc.lt
        have bv6 : Boxed W6.drew w.heap.size 59 v := boxed_below bv hb6.drew
        have ba6 : Boxed W6.drew (w.heap.size + 1) 3 (.int .i64 (farP pre : Nat)) := boxed_below ba hb6.drew
        have bc6 : Boxed W6.drew (w.heap.size + 1 + 1) 28 (.slice p n cap) := boxed_below bc hb6.drew
        have CO6 := Lib.hid (show OwnS (w.heap.size + 1 + 1 + 1) W6.drew v ys from (ho.on hb6).on (Below.refl _ _).drew)
        have I6 := Lib.hid (show ∀ y ∈ ys, Ints8 W6.drew (cellS y) from fun y hy => (HI.out y hy).carry fun g e => hb6.block g ((ho.good y hy).own.lt g e).2)
        have G6 := Lib.hid ((GW.out.below hb6).below ((Below.refl _ W6).drew))
        have B6 := Lib.hid hb6
        have HZ := Lib.hid hz
        have cv := bv6.cell
        clear hq hz hb6
        gi_wp2
        refine wpIn_cut2 (fun a' w' => ∃ q3 c3 g8 v8', a' = { tmps := #[.slice p n cap, undef, .slice none 0 0, .int .i64 0, .pointer (some ⟨w.heap.size, 0, none⟩), .pointer (some ⟨w.heap.size + 1, 0, none⟩), .pointer (some ⟨Bx, 0, none⟩), .slice q c d, .slice p n cap, .func (.func 92) #[] #[.pointer (some ⟨w.heap.size + 1 + 1, 0, none⟩)], .agg (z.map v8).toArray, .slice q c d, .agg (z.map v8).toArray, .slice q c d, .agg ((hd xs).map v8).toArray, .bool false, v, .slice q c d, .slice q3 c c3, .slice g8 1 1, v8', undef, undef, undef, undef, undef, undef, undef], defers := [] } ∧ Mid w W w' (.slice p n cap) v8' (ys ++ [(xs, q3, c3)]) (farP pre)) ?_ ?_
        · rintro _ W9 ⟨q3, c3, g8, v8', rfl, hmid⟩
          have MID := Lib.hid hmid
          have ca : W9.drew.cell? ⟨w.heap.size + 1, 0, none⟩ = some (.int .i64 (farP pre : Nat)) := hmid.far.cell
          have za : W9.drew.frozen? ⟨w.heap.size + 1, 0, none⟩ = false := hmid.far.frozen
          have hwr : IntKind.i64.wrap ((farP pre : Int) + (8 + (c : Int))) = ((farP pre + (8 + c) : Nat) : Int) := by rw [IntWalk.i64_in _ (by omega)]; push_cast; rfl
          clear hmid
          gi_wp2
          refine wpIn_region_any (by kernel_rfl) ?_
          change wpAnyIn _ _ _ _ _ _ _ _ _ W9.drew
          refine wpAnyIn_ready (rs := [0, 1]) (by kernel_rfl) (by simp) ?_
          refine AllReadyIn.cons rfl (fun K hK => ?_) (AllReadyIn.cons rfl (fun K hK => ?_) AllReadyIn.nil)
          · go_simp
            refine hK _ _ ?_
            clear hK K
            refine wpAnyIn_ready (rs := [1]) (by kernel_rfl) (by simp) ?_
            refine AllReadyIn.cons rfl (fun K hK => ?_) AllReadyIn.nil
            go_simp
            refine hK _ _ ?_
            clear hK K
            refine wpAnyIn_ready (rs := [2]) (by kernel_rfl) (by simp) ?_
            refine AllReadyIn.cons rfl (fun K hK => ?_) AllReadyIn.nil
            go_simp
            refine hK _ _ ?_
            clear hK K
            refine wpAnyIn_ready (rs := [3]) (by kernel_rfl) (by simp) ?_
            refine AllReadyIn.cons rfl (fun K hK => ?_) AllReadyIn.nil
            go_simp
            refine ⟨trivial, ?_⟩
            refine (CallsIn.inRound l (callsIn_wide.2 (fsize_any (c : Int) W9.drew (by omega)))).mono ?_
            rintro e w10 ⟨rfl, rfl⟩
            rw [show fsize (c : Int) = 8 + (c : Int) by unfold fsize; rw [if_neg (by omega)]]
            refine hK _ _ ?_
            clear hK K
            refine wpAnyIn_ready (rs := [4]) (by kernel_rfl) (by simp) ?_
            refine AllReadyIn.cons rfl (fun K hK => ?_) AllReadyIn.nil
            go_simp
            refine hK _ _ ?_
            clear hK K
            refine wpAnyIn_ready (rs := [5]) (by kernel_rfl) (by simp) ?_
            refine AllReadyIn.cons rfl (fun K hK => ?_) AllReadyIn.nil
            go_simp
            refine hK _ _ ?_
            clear hK K
            refine wpAnyIn_done (by kernel_rfl) ?_ _
            exact Mid.end_ (tm := { tmps := #[], defers := [] }) (k := 1) MID.out bc hB HNE.out HM.out HYX.out (by rw [HYZ.out, HYX.out]; exact HZ.out) HFS.out
          · go_simp
            refine hK _ _ ?_
            clear hK K
            refine wpAnyIn_ready (rs := [0, 2]) (by kernel_rfl) (by simp) ?_
            refine AllReadyIn.cons rfl (fun K hK => ?_) (AllReadyIn.cons rfl (fun K hK => ?_) AllReadyIn.nil)
            · go_simp
              refine hK _ _ ?_
              clear hK K
              refine wpAnyIn_ready (rs := [2]) (by kernel_rfl) (by simp) ?_
              refine AllReadyIn.cons rfl (fun K hK => ?_) AllReadyIn.nil
              go_simp
              refine hK _ _ ?_
              clear hK K
              refine wpAnyIn_ready (rs := [3]) (by kernel_rfl) (by simp) ?_
              refine AllReadyIn.cons rfl (fun K hK => ?_) AllReadyIn.nil
              go_simp
              refine ⟨trivial, ?_⟩
              refine (CallsIn.inRound l (callsIn_wide.2 (fsize_any (c : Int) W9.drew (by omega)))).mono ?_
              rintro e w10 ⟨rfl, rfl⟩
              rw [show fsize (c : Int) = 8 + (c : Int) by unfold fsize; rw [if_neg (by omega)]]
              refine hK _ _ ?_
              clear hK K
              refine wpAnyIn_ready (rs := [4]) (by kernel_rfl) (by simp) ?_
              refine AllReadyIn.cons rfl (fun K hK => ?_) AllReadyIn.nil
              go_simp
              refine hK _ _ ?_
              clear hK K
              refine wpAnyIn_ready (rs := [5]) (by kernel_rfl) (by simp) ?_
              refine AllReadyIn.cons rfl (fun K hK => ?_) AllReadyIn.nil
              go_simp
              refine hK _ _ ?_
              clear hK K
              refine wpAnyIn_done (by kernel_rfl) ?_ _
              exact Mid.end_ (tm := { tmps := #[], defers := [] }) (k := 1) MID.out bc hB HNE.out HM.out HYX.out (by rw [HYZ.out, HYX.out]; exact HZ.out) HFS.out
            · go_simp
              refine hK _ _ ?_
              clear hK K
              refine wpAnyIn_ready (rs := [0, 3]) (by kernel_rfl) (by simp) ?_
              refine AllReadyIn.cons rfl (fun K hK => ?_) (AllReadyIn.cons rfl (fun K hK => ?_) AllReadyIn.nil)
              · go_simp
                refine hK _ _ ?_
                clear hK K
                refine wpAnyIn_ready (rs := [3]) (by kernel_rfl) (by simp) ?_
                refine AllReadyIn.cons rfl (fun K hK => ?_) AllReadyIn.nil
                go_simp
                refine ⟨trivial, ?_⟩
                refine (CallsIn.inRound l (callsIn_wide.2 (fsize_any (c : Int) W9.drew (by omega)))).mono ?_
                rintro e w10 ⟨rfl, rfl⟩
                rw [show fsize (c : Int) = 8 + (c : Int) by unfold fsize; rw [if_neg (by omega)]]
                refine hK _ _ ?_
                clear hK K
                refine wpAnyIn_ready (rs := [4]) (by kernel_rfl) (by simp) ?_
                refine AllReadyIn.cons rfl (fun K hK => ?_) AllReadyIn.nil
                go_simp
                refine hK _ _ ?_
                clear hK K
                refine wpAnyIn_ready (rs := [5]) (by kernel_rfl) (by simp) ?_
                refine AllReadyIn.cons rfl (fun K hK => ?_) AllReadyIn.nil
                go_simp
                refine hK _ _ ?_
                clear hK K
                refine wpAnyIn_done (by kernel_rfl) ?_ _
                exact Mid.end_ (tm := { tmps := #[], defers := [] }) (k := 1) MID.out bc hB HNE.out HM.out HYX.out (by rw [HYZ.out, HYX.out]; exact HZ.out) HFS.out
              · go_simp
                refine ⟨trivial, ?_⟩
                refine (CallsIn.inRound l (callsIn_wide.2 (fsize_any (c : Int) W9.drew (by omega)))).mono ?_
                rintro e w10 ⟨rfl, rfl⟩
                rw [show fsize (c : Int) = 8 + (c : Int) by unfold fsize; rw [if_neg (by omega)]]
                refine hK _ _ ?_
                clear hK K
                refine wpAnyIn_ready (rs := [0]) (by kernel_rfl) (by simp) ?_
                refine AllReadyIn.cons rfl (fun K hK => ?_) AllReadyIn.nil
                go_simp
                refine hK _ _ ?_
                clear hK K
                refine wpAnyIn_ready (rs := [4]) (by kernel_rfl) (by simp) ?_
                refine AllReadyIn.cons rfl (fun K hK => ?_) AllReadyIn.nil
                go_simp
                refine hK _ _ ?_
                clear hK K
                refine wpAnyIn_ready (rs := [5]) (by kernel_rfl) (by simp) ?_
                refine AllReadyIn.cons rfl (fun K hK => ?_) AllReadyIn.nil
                go_simp
                refine hK _ _ ?_
                clear hK K
                refine wpAnyIn_done (by kernel_rfl) ?_ _
                exact Mid.end_ (tm := { tmps := #[], defers := [] }) (k := 1) MID.out bc hB HNE.out HM.out HYX.out (by rw [HYZ.out, HYX.out]; exact HZ.out) HFS.out
        · refine wpIn_region_any (by kernel_rfl) ?_
          change wpAnyIn _ _ _ _ _ _ _ _ _ W6.drew
          refine wpAnyIn_ready (rs := [0, 1]) (by kernel_rfl) (by simp) ?_
          refine AllReadyIn.cons rfl (fun K hK => ?_) (AllReadyIn.cons rfl (fun K hK => ?_) AllReadyIn.nil)
          · go_simp
            refine hK _ _ ?_
            clear hK K
            refine wpAnyIn_ready (rs := [1]) (by kernel_rfl) (by simp) ?_
            refine AllReadyIn.cons rfl (fun K hK => ?_) AllReadyIn.nil
            go_simp
            refine hK _ _ ?_
            clear hK K
            refine wpAnyIn_ready (rs := [2]) (by kernel_rfl) (by simp) ?_
            refine AllReadyIn.cons rfl (fun K hK => ?_) AllReadyIn.nil
            go_simp
            refine ⟨trivial, ?_⟩
            refine (CallsIn.inRound l (callsIn_wide.2 (bclone_any xs c q d W6.drew HC.out.symm G6.out (by omega)))).mono ?_
            rintro e w3 ⟨v3, rfl, ho3, hb3⟩
            obtain ⟨q3, c3, rfl, _, _, _, _, _⟩ := own_at ho3.row
            rw [← HC.out] at ho3 ⊢
            have K3 := Lib.hid (keepsOthers_below (B6.out.drew.trans (hb3.mono B6.out.size)))
            have D3 := Lib.hid ((B6.out.mono hB.size).drew.trans (hb3.mono (show w.heap.size ≤ W6.drew.heap.size from Nat.le_trans hB.size B6.out.size)))
            have b3v := boxed_below bv6 hb3
            have b3a := boxed_below ba6 hb3
            have b3c := boxed_below bc6 hb3
            have C3 := Lib.hid (CO6.out.on hb3)
            have I3 := Lib.hid (fun y hy => (I6.out y hy).carry fun g e => hb3.block g ((CO6.out.good y hy).own.lt g e).2)
            have R3 := Lib.hid (show RecO (w.heap.size + 1 + 1 + 1) w3 (xs, q3, c3) from ⟨HGX.out.bytes, by have h1 := ho3.row; rw [HC.out] at h1; exact own_weak h1 (Nat.le_trans hsz B6.out.size)⟩)
            have N3 := Lib.hid (show Ints8 w3 (cellS (xs, q3, c3)) by have h1 := ho3.ints; rw [HC.out] at h1; exact h1)
            have hs3 : w.heap.size + 1 + 1 + 1 ≤ w3.heap.size := b3c.lt
            have cv3 := b3v.cell
            have cv4 := (b3v.alloc (Obj.cells #[.slice q3 c c3] 28)).cell
            clear ho3 hb3
            refine hK _ _ ?_
            clear hK K
            refine wpAnyIn_ready (rs := [3]) (by kernel_rfl) (by simp) ?_
            refine AllReadyIn.cons rfl (fun K hK => ?_) AllReadyIn.nil
            go_simp
            refine hK _ _ ?_
            clear hK K
            refine wpAnyIn_ready (rs := [4]) (by kernel_rfl) (by simp) ?_
            refine AllReadyIn.cons rfl (fun K hK => ?_) AllReadyIn.nil
            refine stepIn_append rfl (.tmp 16) (.tmp 19) 59 rfl (step_app rfl (.tmp 16) (.tmp 19) 59 rfl (w.heap.size + 1 + 1 + 1) 28 Tryz.underlying59 slice_info rfl v ys.length _ rfl (C3.out.own.alloc _) _ 1 1 [cellS (xs, q3, c3)] rfl (by have h1 := at_one w3 (cellS (xs, q3, c3)) 28; unfold cellS at h1 ⊢; simp only [← HC.out] at h1 ⊢; exact h1) rfl (fun h => by cases h) (by omega) (by simp [cellS_one]) (by omega) (by unfold maxLen; omega) (by simp; omega) ?_)
            intro v8' w8 hown8 hg8 hb8 hs8
            obtain ⟨q8, c8, rfl, _, _, _, _, _⟩ := own_at hown8
            obtain ⟨f1, hmid⟩ := Mid.made K3.out D3.out hs3 b3v b3a b3c C3.out I3.out R3.out N3.out hg8 hown8
            have MID := Lib.hid hmid
            have c1 := f1.cell
            have z1 := f1.frozen
            clear hmid hown8 hg8
            refine hK _ _ ?_
            clear hK K
            refine wpAnyIn_ready (rs := [5]) (by kernel_rfl) (by simp) ?_
            refine AllReadyIn.cons rfl (fun K hK => ?_) AllReadyIn.nil
            go_simp
            refine hK _ _ ?_
            clear hK K
            refine wpAnyIn_done (by kernel_rfl) ?_ _
            exact ⟨rfl, q3, c3, _, _, rfl, MID.out⟩
          · go_simp
            refine hK _ _ ?_
            clear hK K
            refine wpAnyIn_ready (rs := [0, 2]) (by kernel_rfl) (by simp) ?_
            refine AllReadyIn.cons rfl (fun K hK => ?_) (AllReadyIn.cons rfl (fun K hK => ?_) AllReadyIn.nil)
            · go_simp
              refine hK _ _ ?_
              clear hK K
              refine wpAnyIn_ready (rs := [2]) (by kernel_rfl) (by simp) ?_
              refine AllReadyIn.cons rfl (fun K hK => ?_) AllReadyIn.nil
              go_simp
              refine ⟨trivial, ?_⟩
              refine (CallsIn.inRound l (callsIn_wide.2 (bclone_any xs c q d W6.drew HC.out.symm G6.out (by omega)))).mono ?_
              rintro e w3 ⟨v3, rfl, ho3, hb3⟩
              obtain ⟨q3, c3, rfl, _, _, _, _, _⟩ := own_at ho3.row
              rw [← HC.out] at ho3 ⊢
              have K3 := Lib.hid (keepsOthers_below (B6.out.drew.trans (hb3.mono B6.out.size)))
              have D3 := Lib.hid ((B6.out.mono hB.size).drew.trans (hb3.mono (show w.heap.size ≤ W6.drew.heap.size from Nat.le_trans hB.size B6.out.size)))
              have b3v := boxed_below bv6 hb3
              have b3a := boxed_below ba6 hb3
              have b3c := boxed_below bc6 hb3
              have C3 := Lib.hid (CO6.out.on hb3)
              have I3 := Lib.hid (fun y hy => (I6.out y hy).carry fun g e => hb3.block g ((CO6.out.good y hy).own.lt g e).2)
              have R3 := Lib.hid (show RecO (w.heap.size + 1 + 1 + 1) w3 (xs, q3, c3) from ⟨HGX.out.bytes, by have h1 := ho3.row; rw [HC.out] at h1; exact own_weak h1 (Nat.le_trans hsz B6.out.size)⟩)
              have N3 := Lib.hid (show Ints8 w3 (cellS (xs, q3, c3)) by have h1 := ho3.ints; rw [HC.out] at h1; exact h1)
              have hs3 : w.heap.size + 1 + 1 + 1 ≤ w3.heap.size := b3c.lt
              have cv3 := b3v.cell
              have cv4 := (b3v.alloc (Obj.cells #[.slice q3 c c3] 28)).cell
              clear ho3 hb3
              refine hK _ _ ?_
              clear hK K
              refine wpAnyIn_ready (rs := [3]) (by kernel_rfl) (by simp) ?_
              refine AllReadyIn.cons rfl (fun K hK => ?_) AllReadyIn.nil
              go_simp
              refine hK _ _ ?_
              clear hK K
              refine wpAnyIn_ready (rs := [4]) (by kernel_rfl) (by simp) ?_
              refine AllReadyIn.cons rfl (fun K hK => ?_) AllReadyIn.nil
              refine stepIn_append rfl (.tmp 16) (.tmp 19) 59 rfl (step_app rfl (.tmp 16) (.tmp 19) 59 rfl (w.heap.size + 1 + 1 + 1) 28 Tryz.underlying59 slice_info rfl v ys.length _ rfl (C3.out.own.alloc _) _ 1 1 [cellS (xs, q3, c3)] rfl (by have h1 := at_one w3 (cellS (xs, q3, c3)) 28; unfold cellS at h1 ⊢; simp only [← HC.out] at h1 ⊢; exact h1) rfl (fun h => by cases h) (by omega) (by simp [cellS_one]) (by omega) (by unfold maxLen; omega) (by simp; omega) ?_)
              intro v8' w8 hown8 hg8 hb8 hs8
              obtain ⟨q8, c8, rfl, _, _, _, _, _⟩ := own_at hown8
              obtain ⟨f1, hmid⟩ := Mid.made K3.out D3.out hs3 b3v b3a b3c C3.out I3.out R3.out N3.out hg8 hown8
              have MID := Lib.hid hmid
              have c1 := f1.cell
              have z1 := f1.frozen
              clear hmid hown8 hg8
              refine hK _ _ ?_
              clear hK K
              refine wpAnyIn_ready (rs := [5]) (by kernel_rfl) (by simp) ?_
              refine AllReadyIn.cons rfl (fun K hK => ?_) AllReadyIn.nil
              go_simp
              refine hK _ _ ?_
              clear hK K
              refine wpAnyIn_done (by kernel_rfl) ?_ _
              exact ⟨rfl, q3, c3, _, _, rfl, MID.out⟩
            · go_simp
              refine ⟨trivial, ?_⟩
              refine (CallsIn.inRound l (callsIn_wide.2 (bclone_any xs c q d W6.drew HC.out.symm G6.out (by omega)))).mono ?_
              rintro e w3 ⟨v3, rfl, ho3, hb3⟩
              obtain ⟨q3, c3, rfl, _, _, _, _, _⟩ := own_at ho3.row
              rw [← HC.out] at ho3 ⊢
              have K3 := Lib.hid (keepsOthers_below (B6.out.drew.trans (hb3.mono B6.out.size)))
              have D3 := Lib.hid ((B6.out.mono hB.size).drew.trans (hb3.mono (show w.heap.size ≤ W6.drew.heap.size from Nat.le_trans hB.size B6.out.size)))
              have b3v := boxed_below bv6 hb3
              have b3a := boxed_below ba6 hb3
              have b3c := boxed_below bc6 hb3
              have C3 := Lib.hid (CO6.out.on hb3)
              have I3 := Lib.hid (fun y hy => (I6.out y hy).carry fun g e => hb3.block g ((CO6.out.good y hy).own.lt g e).2)
              have R3 := Lib.hid (show RecO (w.heap.size + 1 + 1 + 1) w3 (xs, q3, c3) from ⟨HGX.out.bytes, by have h1 := ho3.row; rw [HC.out] at h1; exact own_weak h1 (Nat.le_trans hsz B6.out.size)⟩)
              have N3 := Lib.hid (show Ints8 w3 (cellS (xs, q3, c3)) by have h1 := ho3.ints; rw [HC.out] at h1; exact h1)
              have hs3 : w.heap.size + 1 + 1 + 1 ≤ w3.heap.size := b3c.lt
              have cv3 := b3v.cell
              have cv4 := (b3v.alloc (Obj.cells #[.slice q3 c c3] 28)).cell
              clear ho3 hb3
              refine hK _ _ ?_
              clear hK K
              refine wpAnyIn_ready (rs := [0, 3]) (by kernel_rfl) (by simp) ?_
              refine AllReadyIn.cons rfl (fun K hK => ?_) (AllReadyIn.cons rfl (fun K hK => ?_) AllReadyIn.nil)
              · go_simp
                refine hK _ _ ?_
                clear hK K
                refine wpAnyIn_ready (rs := [3]) (by kernel_rfl) (by simp) ?_
                refine AllReadyIn.cons rfl (fun K hK => ?_) AllReadyIn.nil
                go_simp
                refine hK _ _ ?_
                clear hK K
                refine wpAnyIn_ready (rs := [4]) (by kernel_rfl) (by simp) ?_
                refine AllReadyIn.cons rfl (fun K hK => ?_) AllReadyIn.nil
                refine stepIn_append rfl (.tmp 16) (.tmp 19) 59 rfl (step_app rfl (.tmp 16) (.tmp 19) 59 rfl (w.heap.size + 1 + 1 + 1) 28 Tryz.underlying59 slice_info rfl v ys.length _ rfl (C3.out.own.alloc _) _ 1 1 [cellS (xs, q3, c3)] rfl (by have h1 := at_one w3 (cellS (xs, q3, c3)) 28; unfold cellS at h1 ⊢; simp only [← HC.out] at h1 ⊢; exact h1) rfl (fun h => by cases h) (by omega) (by simp [cellS_one]) (by omega) (by unfold maxLen; omega) (by simp; omega) ?_)
                intro v8' w8 hown8 hg8 hb8 hs8
                obtain ⟨q8, c8, rfl, _, _, _, _, _⟩ := own_at hown8
                obtain ⟨f1, hmid⟩ := Mid.made K3.out D3.out hs3 b3v b3a b3c C3.out I3.out R3.out N3.out hg8 hown8
                have MID := Lib.hid hmid
                have c1 := f1.cell
                have z1 := f1.frozen
                clear hmid hown8 hg8
                refine hK _ _ ?_
                clear hK K
                refine wpAnyIn_ready (rs := [5]) (by kernel_rfl) (by simp) ?_
                refine AllReadyIn.cons rfl (fun K hK => ?_) AllReadyIn.nil
                go_simp
                refine hK _ _ ?_
                clear hK K
                refine wpAnyIn_done (by kernel_rfl) ?_ _
                exact ⟨rfl, q3, c3, _, _, rfl, MID.out⟩
              · go_simp
                refine hK _ _ ?_
                clear hK K
                refine wpAnyIn_ready (rs := [0]) (by kernel_rfl) (by simp) ?_
                refine AllReadyIn.cons rfl (fun K hK => ?_) AllReadyIn.nil
                go_simp
                refine hK _ _ ?_
                clear hK K
                refine wpAnyIn_ready (rs := [4]) (by kernel_rfl) (by simp) ?_
                refine AllReadyIn.cons rfl (fun K hK => ?_) AllReadyIn.nil
                refine stepIn_append rfl (.tmp 16) (.tmp 19) 59 rfl (step_app rfl (.tmp 16) (.tmp 19) 59 rfl (w.heap.size + 1 + 1 + 1) 28 Tryz.underlying59 slice_info rfl v ys.length _ rfl (C3.out.own.alloc _) _ 1 1 [cellS (xs, q3, c3)] rfl (by have h1 := at_one w3 (cellS (xs, q3, c3)) 28; unfold cellS at h1 ⊢; simp only [← HC.out] at h1 ⊢; exact h1) rfl (fun h => by cases h) (by omega) (by simp [cellS_one]) (by omega) (by unfold maxLen; omega) (by simp; omega) ?_)
                intro v8' w8 hown8 hg8 hb8 hs8
                obtain ⟨q8, c8, rfl, _, _, _, _, _⟩ := own_at hown8
                obtain ⟨f1, hmid⟩ := Mid.made K3.out D3.out hs3 b3v b3a b3c C3.out I3.out R3.out N3.out hg8 hown8
                have MID := Lib.hid hmid
                have c1 := f1.cell
                have z1 := f1.frozen
                clear hmid hown8 hg8
                refine hK _ _ ?_
                clear hK K
                refine wpAnyIn_ready (rs := [5]) (by kernel_rfl) (by simp) ?_
                refine AllReadyIn.cons rfl (fun K hK => ?_) AllReadyIn.nil
                go_simp
                refine hK _ _ ?_
                clear hK K
                refine wpAnyIn_done (by kernel_rfl) ?_ _
                exact ⟨rfl, q3, c3, _, _, rfl, MID.out⟩
      · have hq : (!decide (z = hd xs)) = true := by simp [hz]
        rw [hq]
        have HZ := Lib.hid hz
        have B6 := Lib.hid hb6
        clear hq hz hb6
        gi_wp2
        exact ⟨(keepsOthers_below B6.out).from _, ⟨rfl, pre, y, rfl, by rw [HYZ.out, HYX.out]; exact HZ.out, HNE.out, ⟨v, ys, boxed_below bv B6.out, ho.on B6.out, fun y hy => (HI.out y hy).carry fun g e => B6.out.block g ((ho.good y hy).own.lt g e).2, HM.out⟩, boxed_below ba B6.out, boxed_below bc B6.out⟩, hB.trans (B6.out.mono hB.size)⟩
    · have hld : (hloadOp 85 (.pointer (some ⟨Bx, 0, none⟩))).run Tryz.prog W.drew = .ok (.value (.agg (z.map v8).toArray)) W.drew := load_head HZL.out bX.drew
      have GD := Lib.hid (GW.out.below ((Below.refl _ W).drew))
      have hnq := fun w' => run_neqHead (.tmp 12) (.tmp 14) z (hd xs) HZL.out (hd_length xs) w'
      refine wpIn_region_any (by kernel_rfl) ?_
      change wpAnyIn _ _ _ _ _ _ _ _ _ W.drew
      refine wpAnyIn_ready (rs := [0, 1]) (by kernel_rfl) (by simp) ?_
      refine AllReadyIn.cons rfl (fun K hK => ?_) (AllReadyIn.cons rfl (fun K hK => ?_) AllReadyIn.nil)
      · go_simp
        refine hK _ _ ?_
        clear hK K
        refine wpAnyIn_ready (rs := [1]) (by kernel_rfl) (by simp) ?_
        refine AllReadyIn.cons rfl (fun K hK => ?_) AllReadyIn.nil
        go_simp
        refine hK _ _ ?_
        clear hK K
        refine wpAnyIn_ready (rs := [2]) (by kernel_rfl) (by simp) ?_
        refine AllReadyIn.cons rfl (fun K hK => ?_) AllReadyIn.nil
        go_simp
        refine ⟨trivial, ?_⟩
        refine (CallsIn.inRound l (callsIn_wide.2 (headOf_any xs c q d W.drew HC.out.symm GD.out hx4))).mono ?_
        rintro e W6 ⟨rfl, hb6⟩
        have hld6 : (hloadOp 85 (.pointer (some ⟨Bx, 0, none⟩))).run Tryz.prog W6 = .ok (.value (.agg (z.map v8).toArray)) W6 := load_head HZL.out (bX.drew.below hb6 bX.lt)
        have B6 := Lib.hid ((Below.refl W.heap.size W).drew.trans hb6)
        clear hb6
        refine hK _ _ ?_
        clear hK K
        refine wpAnyIn_ready (rs := [3]) (by kernel_rfl) (by simp) ?_
        refine AllReadyIn.cons rfl (fun K hK => ?_) AllReadyIn.nil
        go_simp
        refine hK _ _ ?_
        clear hK K
        refine wpAnyIn_done (by kernel_rfl) ?_ _
        exact ⟨rfl, rfl, B6.out⟩
      · go_simp
        refine hK _ _ ?_
        clear hK K
        refine wpAnyIn_ready (rs := [0, 2]) (by kernel_rfl) (by simp) ?_
        refine AllReadyIn.cons rfl (fun K hK => ?_) (AllReadyIn.cons rfl (fun K hK => ?_) AllReadyIn.nil)
        · go_simp
          refine hK _ _ ?_
          clear hK K
          refine wpAnyIn_ready (rs := [2]) (by kernel_rfl) (by simp) ?_
          refine AllReadyIn.cons rfl (fun K hK => ?_) AllReadyIn.nil
          go_simp
          refine ⟨trivial, ?_⟩
          refine (CallsIn.inRound l (callsIn_wide.2 (headOf_any xs c q d W.drew HC.out.symm GD.out hx4))).mono ?_
          rintro e W6 ⟨rfl, hb6⟩
          have hld6 : (hloadOp 85 (.pointer (some ⟨Bx, 0, none⟩))).run Tryz.prog W6 = .ok (.value (.agg (z.map v8).toArray)) W6 := load_head HZL.out (bX.drew.below hb6 bX.lt)
          have B6 := Lib.hid ((Below.refl W.heap.size W).drew.trans hb6)
          clear hb6
          refine hK _ _ ?_
          clear hK K
          refine wpAnyIn_ready (rs := [3]) (by kernel_rfl) (by simp) ?_
          refine AllReadyIn.cons rfl (fun K hK => ?_) AllReadyIn.nil
          go_simp
          refine hK _ _ ?_
          clear hK K
          refine wpAnyIn_done (by kernel_rfl) ?_ _
          exact ⟨rfl, rfl, B6.out⟩
        · go_simp
          refine ⟨trivial, ?_⟩
          refine (CallsIn.inRound l (callsIn_wide.2 (headOf_any xs c q d W.drew HC.out.symm GD.out hx4))).mono ?_
          rintro e W6 ⟨rfl, hb6⟩
          have hld6 : (hloadOp 85 (.pointer (some ⟨Bx, 0, none⟩))).run Tryz.prog W6 = .ok (.value (.agg (z.map v8).toArray)) W6 := load_head HZL.out (bX.drew.below hb6 bX.lt)
          have B6 := Lib.hid ((Below.refl W.heap.size W).drew.trans hb6)
          clear hb6
          refine hK _ _ ?_
          clear hK K
          refine wpAnyIn_ready (rs := [0]) (by kernel_rfl) (by simp) ?_
          refine AllReadyIn.cons rfl (fun K hK => ?_) AllReadyIn.nil
          go_simp
          refine hK _ _ ?_
          clear hK K
          refine wpAnyIn_ready (rs := [3]) (by kernel_rfl) (by simp) ?_
          refine AllReadyIn.cons rfl (fun K hK => ?_) AllReadyIn.nil
          go_simp
          refine hK _ _ ?_
          clear hK K
          refine wpAnyIn_done (by kernel_rfl) ?_ _
          exact ⟨rfl, rfl, B6.out⟩
  case done =>
    rintro D p0 W hD ⟨k, hG, hst⟩ ⟨⟨hne, ⟨v, ys, bv, ho, hi, hm⟩, ba, bc⟩, hB⟩ hK
    have hsp := split_stop (hG.split h.bytes (by intro z hz; obtain ⟨z', hz', rfl⟩ := List.mem_map.1 hz; exact hne z' hz')) hst
    rw [hG.far] at hsp
    change Frm.split zs = (_, farP p0) at hsp
    have c1 := bv.cell
    have c2 := ba.cell
    have c1' : W.drew.cell? ⟨w.heap.size, 0, none⟩ = some v := c1
    have c2' : W.drew.cell? ⟨w.heap.size + 1, 0, none⟩ = some (.int .i64 (farP p0 : Nat)) := c2
    have HSP := Lib.hid hsp
    have HM := Lib.hid hm
    clear hsp hm
    gi_wp2
    gi_region
    all_goals gi_wp2
    have hK' : W.drew.heap[D]? = some (.deferred (some [])) := hK
    have hg := grownBy_putObj' W.drew D (.deferred none)
    have hr : ∀ r, some D = some r → ∃ o : Obj, W.drew.heap[r]? = some o ∧ o.isCells = false := fun r e => by cases e; exact ⟨_, hK', rfl⟩
    have ho' : OwnS (w.heap.size + 1 + 1 + 1) W.drew v ys := ho.on (Below.refl _ _).drew
    have hi' : ∀ y ∈ ys, Ints8 W.drew (cellS y) := fun y hy => (hi y hy).carry fun g _ => rfl
    refine ⟨by simp, .inl ⟨_, _, rfl, run_takeDeferred hK', ?_⟩⟩
    refine ⟨.tuple #[v, .int .i64 (farP p0 : Nat)], by simp [results, Tryz.f39, go_sem], v, ys, ?_, ?_, (ho'.kept hg hr).weak (by omega), fun y hy => (hi' y hy).kept (ho'.good y hy) hg hr, ?_⟩
    · rw [HSP.out]
    · rw [HSP.out, HM.out, List.map_map]; rfl
    · exact hB.drew.trans (belowK_b (w := w) (Nat.le_refl _) W.drew D _ _ (by simp at hD; omega) hK' rfl rfl)
  case stop =>
    rintro D c pre W hD ⟨k, hG⟩ ⟨⟨rfl, p0, y, rfl, hy, hne, ⟨v, ys, bv, ho, hi, hm⟩, ba, bc⟩, hB⟩ hK
    rw [List.map_append] at hG
    obtain ⟨k0, hG0, hst⟩ := hG.last h.bytes hy
    have hsp := split_stop (hG0.split h.bytes (by intro z hz; obtain ⟨z', hz', rfl⟩ := List.mem_map.1 hz; exact hne z' hz')) hst
    rw [hG0.far] at hsp
    change Frm.split zs = (_, farP p0) at hsp
    have c1 := bv.cell
    have c2 := ba.cell
    have c1' : W.drew.cell? ⟨w.heap.size, 0, none⟩ = some v := c1
    have c2' : W.drew.cell? ⟨w.heap.size + 1, 0, none⟩ = some (.int .i64 (farP p0 : Nat)) := c2
    have HSP := Lib.hid hsp
    have HM := Lib.hid hm
    clear hsp hm
    gi_wp2
    gi_region
    all_goals gi_wp2
    have hK' : W.drew.heap[D]? = some (.deferred (some [])) := hK
    have hg := grownBy_putObj' W.drew D (.deferred none)
    have hr : ∀ r, some D = some r → ∃ o : Obj, W.drew.heap[r]? = some o ∧ o.isCells = false := fun r e => by cases e; exact ⟨_, hK', rfl⟩
    have ho' : OwnS (w.heap.size + 1 + 1 + 1) W.drew v ys := ho.on (Below.refl _ _).drew
    have hi' : ∀ y ∈ ys, Ints8 W.drew (cellS y) := fun y hy => (hi y hy).carry fun g _ => rfl
    refine ⟨by simp, .inl ⟨_, _, rfl, run_takeDeferred hK', ?_⟩⟩
    refine ⟨.tuple #[v, .int .i64 (farP p0 : Nat)], by simp [results, Tryz.f39, go_sem], v, ys, ?_, ?_, (ho'.kept hg hr).weak (by omega), fun y hy => (hi' y hy).kept (ho'.good y hy) hg hr, ?_⟩
    · rw [HSP.out]
    · rw [HSP.out, HM.out, List.map_map]; rfl
    · exact hB.drew.trans (belowK_b (w := w) (Nat.le_refl _) W.drew D _ _ (by simp at hD; omega) hK' rfl rfl)
end
section
open Go.RowKit Sha
theorem frameOK : FrameOK where
  put := fun zs n p cap w hn h => fput_any zs n p cap w hn h
  split := fun zs n p cap w hn h hs => fsplit_any zs n p cap w hn h hs
end
section
set_option linter.unusedSimpArgs false
set_option linter.unusedVariables false
open Go.RowKit Sha Nte
open Fld (Itm)
/-- One block alone of those that were there is written to. -/
structure Only (gb : Nat) (w w' : World) : Prop where
  b0 : Below 0 w w'
  block : ∀ k, k < w.heap.size → k ≠ gb → w'.heap[k]? = w.heap[k]?
namespace Only
variable {gb B : Nat} {w w' w'' a : World}
theorem refl (gb : Nat) (w : World) : Only gb w w := ⟨Below.refl _ _, fun _ _ _ => rfl⟩
theorem trans (h : Only gb w w') (k : Only gb w' w'') : Only gb w w'' := ⟨h.b0.trans k.b0, fun i hi hne => (k.block i (Nat.lt_of_lt_of_le hi h.b0.size) hne).trans (h.block i hi hne)⟩
theorem next (h : Only gb w w') (hb : Below w.heap.size w' w'') : Only gb w w'' := ⟨h.b0.trans (hb.mono (Nat.zero_le _)), fun i hi hne => (hb.block i hi).trans (h.block i hi hne)⟩
theorem call (h : Only gb w w') (hb : Below w'.heap.size w' w'') : Only gb w w'' := h.next (hb.mono h.b0.size)
theorem set (h : Only gb w w') (i : Nat) (v : Value) : Only gb w (w'.setCell ⟨gb, i, none⟩ v) := ⟨h.b0.setCell (Nat.zero_le _) v, fun k hk hne => (Below.heap_setCell w' ⟨gb, i, none⟩ v k hne).trans (h.block k hk hne)⟩
theorem alloc (h : Only gb w w') (o : Obj) : Only gb w (w'.alloc o) := h.next ((Below.refl _ _).alloc h.b0.size o)
theorem row (h : Only gb w w') {g : Nat} (hg : w.heap.size ≤ g) (cs : Array Value) : Only gb w (w'.setRow g cs) := h.next (Go.Proofs.YtbogjfmefkhglaaGreat.Below.setRow (Below.refl _ _) hg cs)
theorem below (h : Only gb w w') (hb : Below B a w) (hB : B ≤ gb) (hw : B ≤ w.heap.size) : Below B a w' := ⟨h.b0.os.trans hb.os, h.b0.tape.trans hb.tape, h.b0.output.trans hb.output, Nat.le_trans hb.size h.b0.size, fun k hk => (h.block k (by omega) (by omega)).trans (hb.block k hk)⟩
theorem keep (h : Only gb w w') {k : Nat} {o : Obj} (hk : w.heap[k]? = some o) (hne : k ≠ gb) : w'.heap[k]? = some o := (h.block k (Array.getElem?_eq_some_iff.1 hk).1 hne).trans hk
theorem blk (h : Only gb w w') {g : Nat} {cs : List Value} {t : TypeId} (hk : Blk w g cs t) (hne : g ≠ gb) : Blk w' g cs t := h.keep hk hne
end Only
theorem LeftAt.tail {w : World} {p : Option Addr} {n c : Nat} {y : Hdr} {ys : List Hdr} (h : LeftAt w p n c (y :: ys)) : LeftAt w (if c = 1 then p else p.map (·.add 34)) ys.length (c - 1) ys := by
  have h1 := h.len
  have h2 := h.le
  have h3 := h.max
  rw [List.length_cons] at h1
  refine ⟨rfl, by omega, by omega, fun e => ?_, ?_, fun z hz => h.good z (List.mem_cons_of_mem _ hz)⟩
  · split at e
    · omega
    · cases p with
      | none => have := h.nil rfl; omega
      | some a => simp at e
  · split
    · have : ys = [] := List.eq_nil_of_length_eq_zero (by omega)
      subst this
      exact At.nil _ _
    · have hl : (cellsI y).length = 34 := icells_length (h.good y (List.mem_cons_self ..)).ok _ _
      obtain ⟨b, off, rfl, hcell⟩ := h.at_.addr (by rw [List.flatMap_cons, List.length_append, hl]; omega)
      have := At.back (w := w) (b := b) (off := off) (xs := cellsI y) (ys := ys.flatMap cellsI) (Or.inr ⟨b, off, rfl, by simpa [List.flatMap_cons] using hcell⟩)
      rw [hl] at this
      simpa [Addr.add_mid] using this
theorem LeftAt.first {w : World} {p : Option Addr} {n c : Nat} {y : Hdr} {ys : List Hdr} (h : LeftAt w p n c (y :: ys)) : ∃ b off, p = some ⟨b, off, none⟩ ∧ w.rangeAt b off (cellsI y) := by
  have hl : (cellsI y).length = 34 := icells_length (h.good y (List.mem_cons_self ..)).ok _ _
  obtain ⟨b, off, rfl, hcell⟩ := h.at_.addr (by rw [List.flatMap_cons, List.length_append, hl]; omega)
  refine ⟨b, off, rfl, fun j v hj => hcell j v ?_⟩
  rw [List.flatMap_cons, List.getElem?_append_left (List.getElem?_eq_some_iff.1 hj).1]
  exact hj
/-- A reader: what it has left, and whether something was wrong; behind it other cells. -/
structure Rd (w0 : World) (gb : Nat) (ys : List Hdr) (wr : Bool) (cs : List Value) (w : World) : Prop where
  ex : ∃ p n c, LeftAt w0 p n c ys ∧ Blk w gb (.slice p n c :: .bool wr :: cs) 110
  below : Below w0.heap.size w0 w
  base : w0.heap.size ≤ gb
theorem Rd.on {w0 w w' : World} {gb : Nat} {ys : List Hdr} {wr : Bool} {cs : List Value} (h : Rd w0 gb ys wr cs w) (hb : Below w.heap.size w w') : Rd w0 gb ys wr cs w' := by
  obtain ⟨p, n, c, h1, h2⟩ := h.ex
  exact ⟨⟨p, n, c, h1, h2.below hb h2.lt⟩, h.below.trans (hb.mono h.below.size), h.base⟩
theorem Rd.lt {w0 w : World} {gb : Nat} {ys : List Hdr} {wr : Bool} {cs : List Value} (h : Rd w0 gb ys wr cs w) : gb < w.heap.size := by
  obtain ⟨p, n, c, _, h2⟩ := h.ex
  exact h2.lt
theorem Rd.setWrong {w0 w : World} {gb : Nat} {ys : List Hdr} {wr : Bool} {cs : List Value} (h : Rd w0 gb ys wr cs w) (b : Bool) : Rd w0 gb ys b cs (w.setCell ⟨gb, 1, none⟩ (.bool b)) := by
  obtain ⟨p, n, c, h1, h2⟩ := h.ex
  exact ⟨⟨p, n, c, h1, h2.set 1 _⟩, h.below.setCell h.base _, h.base⟩
theorem Rd.setCell {w0 w : World} {gb : Nat} {ys : List Hdr} {wr : Bool} {cs : List Value} (h : Rd w0 gb ys wr cs w) (i : Nat) (v : Value) : Rd w0 gb ys wr (cs.set i v) (w.setCell ⟨gb, i + 2, none⟩ v) := by
  obtain ⟨p, n, c, h1, h2⟩ := h.ex
  exact ⟨⟨p, n, c, h1, h2.set (i + 2) _⟩, h.below.setCell h.base _, h.base⟩
theorem Rd.wrong {w0 w : World} {gb : Nat} {ys : List Hdr} {wr : Bool} {cs : List Value} (h : Rd w0 gb ys wr cs w) : w.cell? ⟨gb, 1, none⟩ = some (.bool wr) ∧ w.frozen? ⟨gb, 1, none⟩ = false := by
  obtain ⟨p, n, c, _, h2⟩ := h.ex
  exact ⟨h2.cell 1, h2.free 1⟩
theorem Rd.cell {w0 w : World} {gb : Nat} {ys : List Hdr} {wr : Bool} {cs : List Value} (h : Rd w0 gb ys wr cs w) (i : Nat) {v : Value} (hv : cs[i]? = some v) : w.cell? ⟨gb, i + 2, none⟩ = some v ∧ w.frozen? ⟨gb, i + 2, none⟩ = false := by
  obtain ⟨p, n, c, _, h2⟩ := h.ex
  exact ⟨(h2.cell (i + 2)).trans hv, h2.free (i + 2)⟩
section
variable (ρ : Operand → Value) (dst : Option Tmp) (ty : TypeId) (pos : String) (after : Array Edge) (guard : Option (Nat × Bool)) (x y : Operand)
theorem execOp_nloadItem : execOp ρ { dst := dst, op := .load 118 x, type := ty, pos := pos, after := after, guard := guard } = loadOp 118 (ρ x) := by unfold loadOp; rfl
theorem execOp_nallocItem : execOp ρ { dst := dst, op := .alloc 118, type := ty, pos := pos, after := after, guard := guard } = allocOp 118 := by unfold allocOp; rfl
theorem execOp_nstoreItem : execOp ρ { dst := dst, op := .store 118 x y, type := ty, pos := pos, after := after, guard := guard } = storeOp 118 (ρ x) (ρ y) := by unfold storeOp; rfl
end
def iz0 : Itm := ⟨0, [], Fld.zero32⟩
theorem iz0_ok : iz0.ok := ⟨by simp [iz0], by simp [iz0], by simp [iz0], nz32_ok.1, nz32_ok.2⟩
theorem item_zero15 : (Tryz.prog.info? 118).map (fun i => i.zero) = some (some (.agg (icells iz0 none 0).toArray)) := by unfold icells; kernel_rfl
theorem item_sz15 {x : Itm} (hx : x.ok) (q : Option Addr) (c : Nat) : (Tryz.prog.info? 118).map (fun i => i.size) = some (icells x q c).toArray.size := by
  rw [item_size, List.size_toArray, icells_length hx]
theorem item_al15 (x : Itm) (q : Option Addr) (c : Nat) : (icells x q c).toArray.all (·.oneCell') = true := by
  rw [Array.all_eq_true_iff_forall_mem]; intro v hv; exact icells_one x q c v (by simpa using hv)
theorem item_eq15 {x y : Itm} (hx : x.ok) (hy : y.ok) (q r : Option Addr) (c d : Nat) : (icells x q c).toArray.size = (icells y r d).toArray.size := by
  rw [List.size_toArray, List.size_toArray, icells_length hx, icells_length hy]
theorem alloc_item15 (w : World) : (allocOp 118).run Tryz.prog w = .ok (.value (.pointer (some ⟨w.heap.size, 0, none⟩))) (w.alloc (.cells (icells iz0 none 0).toArray 118)) := run_allocOp w item_zero15
theorem store_item15 {w : World} {g : Nat} {x y : Itm} {q r : Option Addr} {c d : Nat} (h : Blk w g (icells y r d) 118) (hy : y.ok) (hx : x.ok) : (storeOp 118 (.pointer (some ⟨g, 0, none⟩)) (.agg (icells x q c).toArray)).run Tryz.prog w = .ok .skip (w.setRow g (icells x q c).toArray) :=
  run_storeOp h (item_sz15 hx q c) (item_eq15 hy hx ..) (item_al15 ..)
theorem store_new15 (w : World) {x : Itm} {q : Option Addr} {c : Nat} (hx : x.ok) : (storeOp 118 (.pointer (some ⟨w.heap.size, 0, none⟩)) (.agg (icells x q c).toArray)).run Tryz.prog (w.alloc (.cells (icells iz0 none 0).toArray 118)) = .ok .skip (w.alloc (.cells (icells x q c).toArray 118)) :=
  run_storeNew w (item_sz15 hx q c) (item_eq15 iz0_ok hx ..) (item_al15 ..)
theorem load_item15 {w : World} {g o : Nat} {x : Itm} {q : Option Addr} {c : Nat} (hx : x.ok) (hr : w.rangeAt g o (icells x q c)) : (loadOp 118 (.pointer (some ⟨g, o, none⟩))).run Tryz.prog w = .ok (.value (.agg (icells x q c).toArray)) w :=
  run_loadOp (run_loadAt_mid w g o 118 _ _ hr Tryz.underlying118 rfl (by rw [item_size, icells_length hx]))
def RDone15 (w0 : World) (gb : Nat) (ys : List Hdr) (wr : Bool) (cs : List Value) (w : World) (v : Value) (e : Ending) (w' : World) : Prop :=
  e = .returned v ∧ Rd w0 gb ys wr cs w' ∧ Only gb w w'
section
attribute [local go_sem ↓] execOp_nloadItem execOp_nallocItem execOp_nstoreItem
set_option maxRecDepth 100000 in
set_option maxHeartbeats 2000000 in
theorem wnext_any (w0 : World) (gb : Nat) (y : Hdr) (ys : List Hdr) (wr : Bool) (cs : List Value) (w : World) (h : Rd w0 gb (y :: ys) wr cs w) :
    Calls Tryz.prog 99 #[.pointer (some ⟨gb, 0, none⟩)] w (RDone15 w0 gb ys wr cs w (.agg (cellsI y).toArray)) := by
  obtain ⟨p, n, c, hL, hK⟩ := h.ex
  have hy := (hL.good y (List.mem_cons_self ..)).ok
  have HT := Lib.hid hL.tail
  obtain ⟨b, off, hp, hr⟩ := hL.first
  have hn : n = ys.length + 1 := hL.len
  have hcut := fun w => run_cut1 (P := Tryz.prog) Tryz.underlying67 item_size p (ys.length + 1) c (by omega) w
  obtain ⟨p', hp'⟩ : ∃ p', p' = (if c = 1 then p else p.map (·.add 34)) := ⟨_, rfl⟩
  rw [← hp'] at hcut HT
  rw [Nat.add_sub_cancel] at hcut
  subst hp hn
  have HCUT := Lib.hid hcut
  obtain ⟨m, hm⟩ : ∃ m, m = ys.length := ⟨_, rfl⟩
  rw [← hm] at HCUT HT hK
  obtain ⟨yi, yq, yc⟩ := y
  have hr : w0.rangeAt b off (icells yi yq yc) := hr
  have hy : yi.ok := hy
  have hj : (0 : Int) ≤ 0 ∧ (0 : Int) < ((m + 1 : Nat) : Int) := by omega
  show Calls Tryz.prog 99 #[.pointer (some ⟨gb, 0, none⟩)] w (RDone15 w0 gb ys wr cs w (.agg (icells yi yq yc).toArray))
  have HB := Lib.hid h.below
  have HBA := Lib.hid h.base
  have hlt := hK.lt
  -- the worlds ahead
  have al0 := alloc_item15 w
  have B1 := Lib.hid ((Below.refl _ w).alloc (Nat.le_refl _) (.cells (icells iz0 none 0).toArray 118))
  have N1 := Lib.hid (show Blk (w.alloc (.cells (icells iz0 none 0).toArray 118)) w.heap.size (icells iz0 none 0) 118 from Blk.new w (icells iz0 none 0).toArray 118)
  have O1 := Lib.hid ((Only.refl gb w).alloc (.cells (icells iz0 none 0).toArray 118))
  have K1 := Lib.hid (hK.old (.cells (icells iz0 none 0).toArray 118))
  have hs1 : (w.alloc (.cells (icells iz0 none 0).toArray 118)).heap.size = w.heap.size + 1 := World.size_alloc ..
  obtain ⟨w1, hw1⟩ : ∃ w1, w1 = w.alloc (.cells (icells iz0 none 0).toArray 118) := ⟨_, rfl⟩
  rw [← hw1] at al0 B1 N1 O1 K1 hs1
  have b0 : w1.cell? ⟨gb, 0, none⟩ = some (.slice (some ⟨b, off, none⟩) (m + 1) c) := K1.out.cell 0
  have l1 := load_item15 hy (rangeN_on hr (HB.out.trans (B1.out.mono HB.out.size)))
  have al1 := alloc_item15 w1
  have st1 := store_new15 w1 (q := yq) (c := yc) hy
  have B2 := Lib.hid ((Below.refl _ w1).alloc (Nat.le_refl _) (.cells (icells yi yq yc).toArray 118))
  have N2 := Lib.hid (show Blk (w1.alloc (.cells (icells yi yq yc).toArray 118)) w1.heap.size (icells yi yq yc) 118 from Blk.new w1 (icells yi yq yc).toArray 118)
  obtain ⟨w2, hw2⟩ : ∃ w2, w2 = w1.alloc (.cells (icells yi yq yc).toArray 118) := ⟨_, rfl⟩
  rw [← hw2] at st1 B2 N2
  have K2 := Lib.hid (K1.out.below B2.out K1.out.lt)
  have M2 := Lib.hid (N1.out.below B2.out N1.out.lt)
  have O2 := Lib.hid (O1.out.call B2.out)
  have c0 : w2.cell? ⟨gb, 0, none⟩ = some (.slice (some ⟨b, off, none⟩) (m + 1) c) := K2.out.cell 0
  have f0 : w2.frozen? ⟨gb, 0, none⟩ = false := K2.out.free 0
  have N3 := Lib.hid (N2.out.setOther ⟨gb, 0, none⟩ (.slice p' m (c - 1)) (by have := B1.out.size; simp only; omega))
  have M3 := Lib.hid (M2.out.setOther ⟨gb, 0, none⟩ (.slice p' m (c - 1)) (by simp only; omega))
  have K3 := Lib.hid (show Blk (w2.setCell ⟨gb, 0, none⟩ (.slice p' m (c - 1))) gb (.slice p' m (c - 1) :: .bool wr :: cs) 110 from K2.out.set 0 (.slice p' m (c - 1)))
  have O3 := Lib.hid (O2.out.set 0 (.slice p' m (c - 1)))
  obtain ⟨w3, hw3⟩ : ∃ w3, w3 = w2.setCell ⟨gb, 0, none⟩ (.slice p' m (c - 1)) := ⟨_, rfl⟩
  rw [← hw3] at N3 M3 K3 O3
  have l3 := load_item15 (o := 0) hy N3.out.range
  have s3 := store_item15 (q := yq) (c := yc) M3.out iz0_ok hy
  have K4 := Lib.hid (K3.out.rowOther (icells yi yq yc).toArray (k := w.heap.size) (by omega))
  have M4 := Lib.hid (show Blk (w3.setRow w.heap.size (icells yi yq yc).toArray) w.heap.size (icells yi yq yc) 118 from M3.out.row (icells yi yq yc))
  have O4 := Lib.hid (O3.out.row (Nat.le_refl _) (icells yi yq yc).toArray)
  have HZ := Lib.hid (item_sz15 hy yq yc)
  rw [hw3] at l3 s3 K4 M4 O4
  have HWS := Lib.hid h.lt
  clear hs1 h hK hr hL hm hw1 hw2 hp' hcut hy B1 N1 O1 K1 B2 N2 K2 M2 O2 N3 M3 K3 O3 hw3
  go_enter Tryz.func99, Tryz.ntmps99
  go_wp2_with (refine wpList_slice_run rfl 67 (.tmp 14) _ _ rfl _ (HCUT.out _) ?_)
  refine bodyPost_ret (v := .agg (icells yi yq yc).toArray) (results_cell_row rfl _ _ _ _ _ _ _ rfl M4.out (Tryz.underlying118) rfl HZ.out) rfl ?_
  exact ⟨rfl, ⟨⟨p', m, c - 1, HT.out, K4.out⟩, O4.out.below HB.out HBA.out HB.out.size, HBA.out⟩, O4.out⟩
end
end
end Go.Proofs.YtbogjfmefkhglaaGreat
