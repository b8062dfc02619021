/-
  The law package of frames: FramePuts, FrameSplits.
-/
import Derived.Test.YtfjopbgnijfajaaFrL
import Derived.Test.YtfjopbgnijfajaaKit
namespace Go.Proofs.Ytfjopbgnijfajaa
set_option linter.unusedSimpArgs false
set_option linter.unusedVariables false
open Go.RowKit Sha
/-- Bytes of the call's own, whatever they are. -/
def W8 (w : World) (B : Nat) (v : Value) (n : Nat) : Prop := ∃ xs, Own8 w B 5 v n xs
theorem own8_belowF {w w' : World} {B n : Nat} {v : Value} {xs : List Value} (h : Own8 w B 5 v n xs) (hb : Below w.heap.size w w') : Own8 w' B 5 v n xs :=
  ⟨own_belowS h.row hb, h.ints.carry fun g hg => hb.block g (h.row.lt g hg).2⟩
theorem W8.on {w w' : World} {B n : Nat} {v : Value} (h : W8 w B v n) (hb : Below w.heap.size w w') : W8 w' B v n := by
  obtain ⟨xs, h⟩ := h
  exact ⟨xs, own8_belowF h hb⟩
/-- What is written over a slice leaves another one a slice of bytes. -/
theorem W8.over {w w' : World} {B B' n n' : Nat} {v v' : Value} {xs : List Value} (hv : Own8 w B 5 v n xs) (h : W8 w B' v' n')
    (ho : ∀ k, some k ≠ v.ownBlock → w'.heap[k]? = w.heap[k]?) (hs : ∀ g cs, v.ownBlock = some g → Blk w g cs 5 → ∃ cs', Blk w' g cs' 5 ∧ cs'.length = cs.length ∧ ∀ u ∈ cs', ∃ n, u = Value.int .u8 n) : W8 w' B' v' n' := by
  obtain ⟨ys, hr, hi⟩ := h
  rcases hr.2 with ⟨hv', h0⟩ | ⟨g, cap, cur, hv', hg, hh, h1, h2, h3, h4⟩
  · exact ⟨ys, ⟨hr.1, Or.inl ⟨hv', h0⟩⟩, by rw [hv']; exact Ints8.nil _⟩
  · by_cases e : some g = v.ownBlock
    · obtain ⟨cs', hb', hl, hints⟩ := hs g cur.toList e.symm (by unfold Blk; simpa using hh)
      refine ⟨cs'.take n', ⟨by rw [List.length_take, hl]; simp; omega, Or.inr ⟨g, cap, cs'.toArray, hv', hg, hb', h1, h2, by simp [hl]; omega, by simp⟩⟩, ?_⟩
      rw [hv']
      exact ints_block hb' (by simpa using hints)
    · have hk := ho g e
      refine ⟨ys, ⟨hr.1, Or.inr ⟨g, cap, cur, hv', hg, by rw [hk]; exact hh, h1, h2, h3, h4⟩⟩, ?_⟩
      rw [hv'] at hi ⊢
      exact hi.carry fun g' hg' => by cases hg'; exact hk
/-- .. and the slice of slices as it was. -/
theorem outer_over {w w' : World} {B B' n : Nat} {v v' : Value} {xs : List Value} {ys : List SHdr} (hv : Own8 w B 5 v n xs) (h : w.ownsRow B' 26 1 v' ys.length (ys.map cellS))
    (ho : ∀ k, some k ≠ v.ownBlock → w'.heap[k]? = w.heap[k]?) : w'.ownsRow B' 26 1 v' ys.length (ys.map cellS) := by
  refine ⟨h.1, ?_⟩
  rcases h.2 with h' | ⟨g, cap, cur, hv', hg, hh, h4⟩
  · exact Or.inl h'
  · refine Or.inr ⟨g, cap, cur, hv', hg, ?_, h4⟩
    rw [ho g ?_]
    · exact hh
    · intro e
      rcases hv.row.2 with ⟨hv2, _⟩ | ⟨g2, cap2, cur2, hv2, _, hh2, _⟩
      · rw [hv2] at e; cases e
      · rw [hv2] at e
        cases e
        rw [hh2] at hh
        injection hh with hh; injection hh with _ ht
        exact us_ne ht
set_option maxRecDepth 100000 in
set_option maxHeartbeats 2000000 in
theorem fsplits_any (F : FrameOK) (aw : ∀ w : World, Calls Try.prog 10 #[] w fun e w' => e = .returned (.bool true) ∧ Below w.heap.size w w') (zs : List Int) (n : Nat) (p : Option Addr) (cap : Nat) (w : World) (hn : zs.length = n) (h : GoodS w (zs, p, cap)) :
    Calls Try.prog 4 #[.slice p n cap] w fun e w' => e = .returned (.bool true) ∧ Below w.heap.size w w' := by
  have G := Lib.hid h
  have HN := Lib.hid hn
  have hm := h.max
  have hc : n ≤ cap := by rw [← hn]; exact h.le
  simp only at hm
  clear h hn
  go_enter Try.func4, Try.ntmps4
  by_cases hbig : 9000 < n
  · go_wp2_with fail
    refine (aw w).mono ?_
    rintro e1 w1 ⟨rfl, hb1⟩
    go_wp2_with fail
    go_ret
    exact ⟨rfl, hb1⟩
  · go_wp2_with fail
    refine (lent_any zs n p cap w HN.out G.out.at_ hc G.out.nil (by omega)).mono ?_
    rintro e1 w1 ⟨g1, rfl, hA1, hb1⟩
    have L1 := Lib.hid hA1
    have B1 := Lib.hid hb1
    have GL := Lib.hid (show GoodS w1 (zs, some ⟨g1, 0, none⟩, n + 4) from ⟨G.out.bytes, by have h1 := hA1; rw [List.map_append] at h1; exact h1.front, by simp only; rw [HN.out]; omega, by simp only; omega, by intro h; cases h⟩)
    clear hA1 hb1
    obtain ⟨⟨l, pl⟩, hr⟩ : ∃ r, r = Frm.split zs := ⟨_, rfl⟩
    have HR := Lib.hid hr
    clear hr
    go_wp2_with fail
    refine (F.split zs n (some ⟨g1, 0, none⟩) (n + 4) w1 HN.out GL.out (by omega)).mono ?_
    rw [← HR.out]
    rintro e2 w2 ⟨vx, ys, rfl, hys, ho2, hi2, hb2⟩
    dsimp only at hys ⊢
    have OW2 := Lib.hid ho2
    have W2 := Lib.hid (show ∀ y ∈ ys, W8 w2 w1.heap.size (cellS y) y.1.length from fun y hy => ⟨_, (ho2.good y hy).own, hi2 y hy⟩)
    have B2 := Lib.hid hb2
    have YS := Lib.hid hys
    clear ho2 hi2 hb2 hys
    go_wp2_with fail
    refine (rsplit_any zs n p cap w2 HN.out (G.out.below (bel_on B1.out B2.out)) (by omega)).mono ?_
    rw [← HR.out]
    rintro e3 w3 ⟨vy, zs2, rfl, hz3, ho3, hb3⟩
    dsimp only at hz3 ⊢
    obtain ⟨q3, c3, rfl, ht3⟩ := ho3.told
    rw [hz3] at ht3
    have T3 := Lib.hid ht3
    have OW3 := Lib.hid (OW2.out.on hb3)
    obtain ⟨qx, cx, rfl, htx⟩ := OW3.out.told
    rw [YS.out] at htx
    have TX := Lib.hid htx
    have W3 := Lib.hid (show ∀ y ∈ ys, W8 w3 w1.heap.size (cellS y) y.1.length from fun y hy => (W2.out y hy).on hb3)
    have B3 := Lib.hid (B2.out.trans (hb3.mono B2.out.size))
    clear ho3 hb3 hz3 ht3 htx OW2 W2 B2
    obtain ⟨mx, hmx⟩ : ∃ m, m = ys.length := ⟨_, rfl⟩
    rw [← hmx] at TX ⊢
    have HMX := Lib.hid hmx
    clear hmx
    generalize zs2.length = my at *
    have hmxc := TX.out.le
    have hmxm := TX.out.max
    go_wp2_with fail
    refine (recsSame_any l l qx q3 mx my cx c3 w3 TX.out T3.out).mono ?_
    rw [decide_eq_true (rfl : l = l)]
    rintro e4 w4 ⟨rfl, hb4⟩
    have O4 := Lib.hid (own_belowS OW3.out.own hb4)
    have W4 := Lib.hid (show ∀ y ∈ ys, W8 w4 w1.heap.size (cellS y) y.1.length from fun y hy => (W3.out y hy).on hb4)
    have B4 := Lib.hid (B3.out.trans (hb4.mono B3.out.size))
    rw [← HMX.out] at O4
    clear hb4 T3 TX OW3 W3 B3
    go_wp2_with fail
    go_loopw [9] (fun i wr => ∃ k : Nat, i = .int .i64 k ∧ k ≤ mx ∧ Hid (wr.ownsRow w1.heap.size 26 1 (.slice qx mx cx) mx (ys.map cellS)) ∧ Hid (∀ y ∈ ys, W8 wr w1.heap.size (cellS y) y.1.length) ∧ Hid (Below w1.heap.size w1 wr)) (fun i _ => mx - (intOf i).toNat)
    case atStart => exact ⟨0, rfl, by omega, O4, W4, B4⟩
    case round =>
      clear O4 W4 B4
      obtain ⟨k, rfl, hk, HO, HW, HB⟩ := hrel
      by_cases hlt : k < mx
      · have hky : k < ys.length := by rw [← HMX.out]; exact hlt
        have hrow := HO.out
        rcases hrow.2 with ⟨hv0, h00⟩ | ⟨g, cap9, cur, hv0, hg, hh, h1, h2, h3, h4⟩
        · omega
        · cases hv0
          have a1 : wr.cell? ⟨g, k, none⟩ = some (.slice (ys[k]).2.1 (ys[k]).1.length (ys[k]).2.2) := by
            have h5 := hrow.cells (g := g) rfl k (cellS ys[k]) (by rw [List.getElem?_map, List.getElem?_eq_getElem hky]; rfl)
            rw [Addr.add_mid, Nat.zero_add] at h5
            exact h5
          obtain ⟨xs5, hw5⟩ := HW.out ys[k] (List.getElem_mem hky)
          have H5 := Lib.hid hw5
          unfold cellS at H5
          generalize (ys[k]).1.length = l5 at *
          generalize (ys[k]).2.1 = q5 at *
          generalize (ys[k]).2.2 = c5 at *
          have HOV := Lib.hid (over_keep w1.heap.size (.slice q5 l5 c5) l5 xs5 wr H5.out)
          clear hrow hh h1 h2 h3 h4 hw5 hky
          go_wp2_with (go_at_call 17; refine HOV.out.mono ?_; rintro e6 w6 ⟨rfl, hb6, hot6, hsm6⟩; have O6 := Lib.hid (by have h9 := outer_over (ys := ys) H5.out (by rw [← HMX.out]; exact HO.out) hot6; rw [← HMX.out] at h9; exact h9 : w6.ownsRow w1.heap.size 26 1 (.slice (some ⟨g, 0, none⟩) mx cx) mx (ys.map cellS)); have W6 := Lib.hid (show ∀ y ∈ ys, W8 w6 w1.heap.size (cellS y) y.1.length from fun y hy => W8.over H5.out (HW.out y hy) hot6 hsm6); have B6 := Lib.hid (HB.out.trans hb6); clear hb6 hot6 hsm6)
          go_roundw
          case rel => exact ⟨k + 1, by go_num, by omega, O6, W6, B6⟩
          case measure => simp [intOf]; omega
      · obtain rfl : k = mx := by omega
        have BW := Lib.hid (bel_on B1.out HB.out)
        go_wp2_with fail
        refine (kept_any zs n g1 p cap wr HN.out G.out.bytes (L1.out.below HB.out) (G.out.at_.below BW.out) (by omega)).mono ?_
        rintro e7 w7 ⟨rfl, hb7⟩
        go_wp2_with fail
        refine (aw w7).mono ?_
        rintro e8 w8 ⟨rfl, hb8⟩
        go_wp2_with fail
        go_ret
        exact ⟨rfl, bel_on (bel_on BW.out hb7) hb8⟩
end Go.Proofs.Ytfjopbgnijfajaa
