/-
  The law WirePuts. (written by mknteq15.py)
-/
import Derived.Test.YtbogjfmefkhglaaGreatP4
import Derived.Test.YtbogjfmefkhglaaGreatP15
import Derived.Test.YtbogjfmefkhglaaGreatP7
namespace Go.Proofs.YtbogjfmefkhglaaGreat
section
set_option linter.unusedSimpArgs false
set_option linter.unusedVariables false
open Go.RowKit Sha Nte
theorem put_bytesQ {x : Not} (h : x.ok) : ∀ n ∈ (Nte.put x).1, 0 ≤ n ∧ n ≤ 255 := by
  by_cases hc : check x = 0
  · rw [Nte.put_ok hc]; exact Frm.fr_bytes (inner_bytes h)
  · rw [Nte.put_no hc]; simp
theorem own8Q {w w' : World} {B n : Nat} {v : Value} {xs : List Value} (h : Own8 w B 5 v n xs) (hb : Below w.heap.size w w') : Own8 w' B 5 v n xs :=
  ⟨rowM_below h.row hb, h.ints.carry fun g hg => by
    obtain ⟨c, fz, hh⟩ := row_kind h.row g hg
    exact hb.block g (Array.getElem?_eq_some_iff.1 hh).1⟩
section
variable {P : Program} {md : Region.Mode} {l : List Oper} {Q : Exit → Act → World → Prop} {S : World → Prop} {fuel : Nat} {listed : Array Bool} {a : Act} {w : World}
theorem ready3_at (i j k : Nat) (hi : Nat.blt i l.length = true) (hj : Nat.blt j l.length = true) (hk : Nat.blt k l.length = true) (hr : Region.ready md l.toArray listed = [i, j, k])
    (h1 : ∀ K' : Act → World → Prop, Shut (∀ a w, S w → (S w → wpAnyH P md l.toArray Q S fuel (listed.setIfInBounds i true) a w) → K' a w) → if Region.wanted (l[i]'(blt_lt hi)) (yielded l.toArray a.tmps) = true then Oper.wp P (l[i]'(blt_lt hi)) a w K' Q else K' (a.put (l[i]'(blt_lt hi)).dst undef) w)
    (h2 : ∀ K' : Act → World → Prop, Shut (∀ a w, S w → (S w → wpAnyH P md l.toArray Q S fuel (listed.setIfInBounds j true) a w) → K' a w) → if Region.wanted (l[j]'(blt_lt hj)) (yielded l.toArray a.tmps) = true then Oper.wp P (l[j]'(blt_lt hj)) a w K' Q else K' (a.put (l[j]'(blt_lt hj)).dst undef) w)
    (h3 : ∀ K' : Act → World → Prop, Shut (∀ a w, S w → (S w → wpAnyH P md l.toArray Q S fuel (listed.setIfInBounds k true) a w) → K' a w) → if Region.wanted (l[k]'(blt_lt hk)) (yielded l.toArray a.tmps) = true then Oper.wp P (l[k]'(blt_lt hk)) a w K' Q else K' (a.put (l[k]'(blt_lt hk)).dst undef) w) :
    wpAnyH P md l.toArray Q S (fuel + 1) listed a w :=
  wpAnyH_ready hr (by simp) (AllReadyH.cons (at_toArray (blt_lt hi)) h1 (AllReadyH.cons (at_toArray (blt_lt hj)) h2 (AllReadyH.cons (at_toArray (blt_lt hk)) h3 AllReadyH.nil)))
end
/-- What the kit's SameNote and the reference's Same answer. -/
def SameOf (f : Nat) : Prop := ∀ (x y : Not) (h k : NHd) (w : World), NGood w x h → NGood w y k →
    Calls Tryz.prog f #[.agg (ncells x h).toArray, .agg (ncells y k).toArray] w fun e w' => e = .returned (.bool (decide (x = y))) ∧ Below w.heap.size w w'
/-- Copies under way: which of the two notes are copied, which of the two variables are there, and what lies in them. -/
structure Cp (w2 wv : World) (x y : Not) (oa ob : Option NHd) (cp cq : Option (Nat × List Value)) : Prop where
  below : Below w2.heap.size w2 wv
  a : ∀ k, oa = some k → NRow wv w2.heap.size x k
  b : ∀ k, ob = some k → NRow wv w2.heap.size y k
  p : ∀ g cs, cp = some (g, cs) → w2.heap.size ≤ g ∧ Blk wv g cs 32
  q : ∀ g cs, cq = some (g, cs) → w2.heap.size ≤ g ∧ Blk wv g cs 32
  ne : ∀ g cs g' cs', cp = some (g, cs) → cq = some (g', cs') → g ≠ g'
variable {w2 wv wn : World} {x y : Not} {oa ob : Option NHd} {cp cq : Option (Nat × List Value)} {k : NHd}
theorem Cp.start (hb : Below w2.heap.size w2 wv) : Cp w2 wv x y none none none none :=
  ⟨hb, (fun _ e => by cases e), (fun _ e => by cases e), (fun _ _ e => by cases e), (fun _ _ e => by cases e), (fun _ _ _ _ e => by cases e)⟩
theorem Cp.next (h : Cp w2 wv x y oa ob cp cq) (hb : Below wv.heap.size wv wn) : Cp w2 wn x y oa ob cp cq :=
  ⟨h.below.trans (hb.mono h.below.size), fun k e => (h.a k e).below hb, fun k e => (h.b k e).below hb, fun g cs e => ⟨(h.p g cs e).1, (h.p g cs e).2.below hb (h.p g cs e).2.lt⟩, fun g cs e => ⟨(h.q g cs e).1, (h.q g cs e).2.below hb (h.q g cs e).2.lt⟩, h.ne⟩
theorem Cp.callA (h : Cp w2 wv x y none ob cp cq) (hr : NRow wn wv.heap.size x k) (hb : Below wv.heap.size wv wn) : Cp w2 wn x y (some k) ob cp cq :=
  { h.next hb with a := fun k' e => by cases e; exact hr.weak h.below.size }
theorem Cp.callB (h : Cp w2 wv x y oa none cp cq) (hr : NRow wn wv.heap.size y k) (hb : Below wv.heap.size wv wn) : Cp w2 wn x y oa (some k) cp cq :=
  { h.next hb with b := fun k' e => by cases e; exact hr.weak h.below.size }
theorem Cp.allocP (h : Cp w2 wv x y oa ob none cq) (cs : List Value) : Cp w2 (wv.alloc (.cells cs.toArray 32)) x y oa ob (some (wv.heap.size, cs)) cq :=
  { h.next ((Below.refl wv.heap.size wv).alloc (Nat.le_refl _) _) with
    p := fun g cs' e => by cases e; exact ⟨h.below.size, Blk.new wv cs.toArray 32⟩
    ne := fun g c g' c' e e' => by cases e; have := (h.q g' c' e').2.lt; omega }
theorem Cp.allocQ (h : Cp w2 wv x y oa ob cp none) (cs : List Value) : Cp w2 (wv.alloc (.cells cs.toArray 32)) x y oa ob cp (some (wv.heap.size, cs)) :=
  { h.next ((Below.refl wv.heap.size wv).alloc (Nat.le_refl _) _) with
    q := fun g cs' e => by cases e; exact ⟨h.below.size, Blk.new wv cs.toArray 32⟩
    ne := fun g c g' c' e e' => by cases e'; have := (h.p g c e).2.lt; omega }
theorem Cp.storeP {g : Nat} {cs : List Value} (h : Cp w2 wv x y oa ob (some (g, cs)) cq) (cs' : List Value) : Cp w2 (wv.setRow g cs'.toArray) x y oa ob (some (g, cs')) cq :=
  have hp := h.p g cs rfl
  ⟨Below.setRow h.below hp.1 _, fun k e => (h.a k e).setRow hp.2 _, fun k e => (h.b k e).setRow hp.2 _, fun g' c e => by cases e; exact ⟨hp.1, hp.2.row _⟩, fun g' c e => ⟨(h.q g' c e).1, (h.q g' c e).2.rowOther _ (fun e' => h.ne g cs g' c rfl e e'.symm)⟩, fun g1 c1 g2 c2 e e' => by cases e; exact h.ne _ _ g2 c2 rfl e'⟩
theorem Cp.storeQ {g : Nat} {cs : List Value} (h : Cp w2 wv x y oa ob cp (some (g, cs))) (cs' : List Value) : Cp w2 (wv.setRow g cs'.toArray) x y oa ob cp (some (g, cs')) :=
  have hp := h.q g cs rfl
  ⟨Below.setRow h.below hp.1 _, fun k e => (h.a k e).setRow hp.2 _, fun k e => (h.b k e).setRow hp.2 _, fun g' c e => ⟨(h.p g' c e).1, (h.p g' c e).2.rowOther _ (fun e' => h.ne g' c g cs e rfl e')⟩, fun g' c e => by cases e; exact ⟨hp.1, hp.2.row _⟩, fun g1 c1 g2 c2 e e' => by cases e'; exact h.ne g1 c1 _ _ e rfl⟩
section
attribute [local go_sem ↓] execOp_boxNote execOp_loadNote execOp_allocNote execOp_storeNote
set_option maxRecDepth 100000 in
set_option maxHeartbeats 20000000 in
theorem wputs_any (Wr : WirePart) (F : FrameOK) (SN : SameOf 16) (RS : SameOf 14) (x y : Not) (h k : NHd) (w : World) (hx : NGood w x h) (hy : NGood w y k) :
    Calls Tryz.prog 3 #[.agg (ncells x h).toArray, .agg (ncells y k).toArray] w fun e w' => e = .returned (.bool true) ∧ Below w.heap.size w w' := by
  obtain ⟨g, w1, r1, hg1, hl1, K1, B1⟩ := box_note w x h
  obtain ⟨g2, w2, r2, hg2, hl2, K2, B2⟩ := box_note w1 y k
  have KX := Lib.hid (K1.below B2 hl1)
  have KY := Lib.hid K2
  have B0 := Lib.hid (B1.trans (B2.mono B1.size))
  have DX := Lib.hid hx.ok.len
  have DY := Lib.hid hy.ok.len
  have OX := Lib.hid hx.ok
  have OY := Lib.hid hy.ok
  have LX := Lib.hid (fun (W : World) (hb : Below w2.heap.size w2 W) => load_note (x := x) (h := h) (o := 0) DX.out (KX.out.below hb KX.out.lt).range)
  have LY := Lib.hid (fun (W : World) (hb : Below w2.heap.size w2 W) => load_note (x := y) (h := k) (o := 0) DY.out (KY.out.below hb KY.out.lt).range)
  have GX := Lib.hid (fun (W : World) (hb : Below w2.heap.size w2 W) => hx.below (B0.out.trans (hb.mono B0.out.size)))
  have GY := Lib.hid (fun (W : World) (hb : Below w2.heap.size w2 W) => hy.below (B0.out.trans (hb.mono B0.out.size)))
  have R2 := Lib.hid (Below.refl w2.heap.size w2)
  clear hx hy hg1 hl1 K1 B1 hg2 hl2 K2 B2 KX KY
  have lx := LX.out w2 R2.out
  go_enter Tryz.func3, Tryz.ntmps3
  go_wp2_with fail
  refine (longNote_any x h w2 (GX.out w2 R2.out)).mono ?_
  clear lx r1 r2
  by_cases fx : Few x
  case neg =>
    rw [show (!decide (Few x)) = true by simp [fx]]
    rintro e3 w3 ⟨rfl, hb3⟩
    have B3 := Lib.hid (R2.out.trans (hb3.mono R2.out.size))
    clear hb3 fx
    go_wp2_with fail
    refine (wawake_any Wr F w3).mono ?_
    rintro e4 w4 ⟨rfl, hb4⟩
    have B4 := Lib.hid (B3.out.trans (hb4.mono B3.out.size))
    clear hb4
    go_wp2_with fail
    go_ret
    exact ⟨rfl, B0.out.trans (B4.out.mono B0.out.size)⟩
  rw [show (!decide (Few x)) = false by simp [fx]]
  rintro e3 w3 ⟨rfl, hb3⟩
  have B3 := Lib.hid (R2.out.trans (hb3.mono R2.out.size))
  have FX := Lib.hid fx
  clear hb3 fx
  have ly := LY.out w3 B3.out
  go_wp2_with fail
  refine (longNote_any y k w3 (GY.out w3 B3.out)).mono ?_
  clear ly
  by_cases fy : Few y
  case neg =>
    rw [show (!decide (Few y)) = true by simp [fy]]
    rintro e4 w4 ⟨rfl, hb4⟩
    have B4 := Lib.hid (B3.out.trans (hb4.mono B3.out.size))
    clear hb4 fy
    go_wp2_with fail
    refine (wawake_any Wr F w4).mono ?_
    rintro e5 w5 ⟨rfl, hb5⟩
    have B5 := Lib.hid (B4.out.trans (hb5.mono B4.out.size))
    clear hb5
    go_wp2_with fail
    go_ret
    exact ⟨rfl, B0.out.trans (B5.out.mono B0.out.size)⟩
  rw [show (!decide (Few y)) = false by simp [fy]]
  rintro e4 w4 ⟨rfl, hb4⟩
  have B4 := Lib.hid (B3.out.trans (hb4.mono B3.out.size))
  have FY := Lib.hid fy
  clear hb4 fy B3
  go_upto_region 3 with (fail)
  go_cut [5, 6] from 19 to 22 (fun s5 s6 wx => ∃ gi gb hi hb, s5 = .pointer (some ⟨gi, 0, none⟩) ∧ s6 = .pointer (some ⟨gb, 0, none⟩) ∧ Hid (Cp w4 wx x y (some hi) (some hb) (some (gi, ncells x hi)) (some (gb, ncells y hb))))
  case first =>
    have SS := Lib.hid (fun (W : World) (hb : Below w4.heap.size w4 W) => (⟨LX.out W (B4.out.trans (hb.mono B4.out.size)), LY.out W (B4.out.trans (hb.mono B4.out.size))⟩ : (loadOp 32 (.pointer (some ⟨g, 0, none⟩))).run Tryz.prog W = .ok (.value (.agg (ncells x h).toArray)) W ∧ (loadOp 32 (.pointer (some ⟨g2, 0, none⟩))).run Tryz.prog W = .ok (.value (.agg (ncells y k).toArray)) W))
    have GG := Lib.hid (fun (W : World) (hb : Below w4.heap.size w4 W) => (⟨GX.out W (B4.out.trans (hb.mono B4.out.size)), GY.out W (B4.out.trans (hb.mono B4.out.size))⟩ : NGood W x h ∧ NGood W y k))
    have al := fun w => alloc_note w
    clear LX LY GX GY R2
    refine wp_region_held_drew (S := (fun W => (loadOp 32 (.pointer (some ⟨g, 0, none⟩))).run Tryz.prog W = .ok (.value (.agg (ncells x h).toArray)) W ∧ (loadOp 32 (.pointer (some ⟨g2, 0, none⟩))).run Tryz.prog W = .ok (.value (.agg (ncells y k).toArray)) W)) (by kernel_rfl) (SS.out _ (Below.refl w4.heap.size w4).drew) (fun hHeld => ?_)
    have C0 := Lib.hid (Cp.start (x := x) (y := y) (Below.refl w4.heap.size w4).drew)
    generalize w4.drew = v0 at *
    refine take_at 0 (by kernel_rfl) (v := ?v1) (by kernel_rfl) (by kernel_rfl) (by kernel_rfl) (fun _ _ _ h => h) (by rfl) ?y1 (by assumption) ?r1
    case y1 => (intro w hSw; (try dsimp only at hSw); (try (obtain ⟨hSa, hSb⟩ := hSw)); simp only [List.getElem_cons_succ, List.getElem_cons_zero]; go_simp; (try with_reducible rfl))
    try simp only [List.getElem_cons_succ, List.getElem_cons_zero, Act.put, List.setIfInBounds_toArray, List.set_cons_zero, List.set_cons_succ]
    refine take_at 2 (by kernel_rfl) (v := ?v2) (by kernel_rfl) (by kernel_rfl) (by kernel_rfl) (fun _ _ _ h => h) (by rfl) ?y2 (by assumption) ?r2
    case y2 => (intro w hSw; (try dsimp only at hSw); (try (obtain ⟨hSa, hSb⟩ := hSw)); simp only [List.getElem_cons_succ, List.getElem_cons_zero]; go_simp; (try with_reducible rfl))
    try simp only [List.getElem_cons_succ, List.getElem_cons_zero, Act.put, List.setIfInBounds_toArray, List.set_cons_zero, List.set_cons_succ]
    refine ready3_at 1 4 5 (by kernel_rfl) (by kernel_rfl) (by kernel_rfl) (by kernel_rfl) (fun K hK => ?_) (fun K hK => ?_) (fun K hK => ?_)
    · skip
      simp only [List.getElem_cons_succ, List.getElem_cons_zero]
      go_simp
      go_at_call 7
      refine (copyNote_any x h v0 (GG.out _ C0.out.below).1 FX.out).mono ?_
      rintro e_ v1 ⟨hi, rfl, hr_, hb_⟩
      have C1 := Lib.hid (C0.out.callA hr_ hb_)
      clear hr_ hb_ C0
      (try go_wp2_with fail)
      refine hK.out _ _ (SS.out _ C1.out.below) (fun hHeld => ?_)
      clear hK K
      try simp only [List.getElem_cons_succ, List.getElem_cons_zero, Act.put, List.setIfInBounds_toArray, List.set_cons_zero, List.set_cons_succ]
      refine ready3_at 3 4 5 (by kernel_rfl) (by kernel_rfl) (by kernel_rfl) (by kernel_rfl) (fun K hK => ?_) (fun K hK => ?_) (fun K hK => ?_)
      · skip
        simp only [List.getElem_cons_succ, List.getElem_cons_zero]
        go_simp
        go_at_call 7
        refine (copyNote_any y k v1 (GG.out _ C1.out.below).2 FY.out).mono ?_
        rintro e_ v2 ⟨hb, rfl, hr_, hb_⟩
        have C2 := Lib.hid (C1.out.callB hr_ hb_)
        clear hr_ hb_ C1
        (try go_wp2_with fail)
        refine hK.out _ _ (SS.out _ C2.out.below) (fun hHeld => ?_)
        clear hK K
        try simp only [List.getElem_cons_succ, List.getElem_cons_zero, Act.put, List.setIfInBounds_toArray, List.set_cons_zero, List.set_cons_succ]
        refine ready2_at 4 5 (by kernel_rfl) (by kernel_rfl) (by kernel_rfl) (fun K hK => ?_) (fun K hK => ?_)
        · skip
          simp only [List.getElem_cons_succ, List.getElem_cons_zero]
          have C3 := Lib.hid (C2.out.allocP (ncells none_ NHd.none_))
          go_simp
          clear C2
          generalize v2.alloc (.cells (ncells none_ NHd.none_).toArray 32) = v3 at *
          generalize v2.heap.size = gi at *
          refine hK.out _ _ (SS.out _ C3.out.below) (fun hHeld => ?_)
          clear hK K
          try simp only [List.getElem_cons_succ, List.getElem_cons_zero, Act.put, List.setIfInBounds_toArray, List.set_cons_zero, List.set_cons_succ]
          refine ready_at 5 (by kernel_rfl) (by kernel_rfl) (fun K hK => ?_)
          simp only [List.getElem_cons_succ, List.getElem_cons_zero]
          have C4 := Lib.hid (C3.out.allocQ (ncells none_ NHd.none_))
          go_simp
          clear C3
          generalize v3.alloc (.cells (ncells none_ NHd.none_).toArray 32) = v4 at *
          generalize v3.heap.size = gb at *
          refine hK.out _ _ (SS.out _ C4.out.below) (fun hHeld => ?_)
          clear hK K
          try simp only [List.getElem_cons_succ, List.getElem_cons_zero, Act.put, List.setIfInBounds_toArray, List.set_cons_zero, List.set_cons_succ]
          refine ready_at 6 (by kernel_rfl) (by kernel_rfl) (fun K hK => ?_)
          simp only [List.getElem_cons_succ, List.getElem_cons_zero]
          have st_ := store_note (x := x) (h := hi) (C4.out.p _ _ rfl).2 nz_len DX.out
          have C5 := Lib.hid (C4.out.storeP (ncells x hi))
          go_simp
          clear C4 st_
          generalize v4.setRow gi (ncells x hi).toArray = v5 at *
          refine hK.out _ _ (SS.out _ C5.out.below) (fun hHeld => ?_)
          clear hK K
          try simp only [List.getElem_cons_succ, List.getElem_cons_zero, Act.put, List.setIfInBounds_toArray, List.set_cons_zero, List.set_cons_succ]
          refine ready_at 7 (by kernel_rfl) (by kernel_rfl) (fun K hK => ?_)
          simp only [List.getElem_cons_succ, List.getElem_cons_zero]
          have st_ := store_note (x := y) (h := hb) (C5.out.q _ _ rfl).2 nz_len DY.out
          have C6 := Lib.hid (C5.out.storeQ (ncells y hb))
          go_simp
          clear C5 st_
          generalize v5.setRow gb (ncells y hb).toArray = v6 at *
          refine hK.out _ _ (SS.out _ C6.out.below) (fun hHeld => ?_)
          clear hK K
          try simp only [List.getElem_cons_succ, List.getElem_cons_zero, Act.put, List.setIfInBounds_toArray, List.set_cons_zero, List.set_cons_succ]
          refine wpAnyH_done (by kernel_rfl) ?_ _
          go_wp2_with fail
          go_meet
          case rel => exact ⟨_, _, _, _, rfl, rfl, C6⟩
        · skip
          simp only [List.getElem_cons_succ, List.getElem_cons_zero]
          have C3 := Lib.hid (C2.out.allocQ (ncells none_ NHd.none_))
          go_simp
          clear C2
          generalize v2.alloc (.cells (ncells none_ NHd.none_).toArray 32) = v3 at *
          generalize v2.heap.size = gb at *
          refine hK.out _ _ (SS.out _ C3.out.below) (fun hHeld => ?_)
          clear hK K
          try simp only [List.getElem_cons_succ, List.getElem_cons_zero, Act.put, List.setIfInBounds_toArray, List.set_cons_zero, List.set_cons_succ]
          refine ready_at 4 (by kernel_rfl) (by kernel_rfl) (fun K hK => ?_)
          simp only [List.getElem_cons_succ, List.getElem_cons_zero]
          have C4 := Lib.hid (C3.out.allocP (ncells none_ NHd.none_))
          go_simp
          clear C3
          generalize v3.alloc (.cells (ncells none_ NHd.none_).toArray 32) = v4 at *
          generalize v3.heap.size = gi at *
          refine hK.out _ _ (SS.out _ C4.out.below) (fun hHeld => ?_)
          clear hK K
          try simp only [List.getElem_cons_succ, List.getElem_cons_zero, Act.put, List.setIfInBounds_toArray, List.set_cons_zero, List.set_cons_succ]
          refine ready_at 6 (by kernel_rfl) (by kernel_rfl) (fun K hK => ?_)
          simp only [List.getElem_cons_succ, List.getElem_cons_zero]
          have st_ := store_note (x := x) (h := hi) (C4.out.p _ _ rfl).2 nz_len DX.out
          have C5 := Lib.hid (C4.out.storeP (ncells x hi))
          go_simp
          clear C4 st_
          generalize v4.setRow gi (ncells x hi).toArray = v5 at *
          refine hK.out _ _ (SS.out _ C5.out.below) (fun hHeld => ?_)
          clear hK K
          try simp only [List.getElem_cons_succ, List.getElem_cons_zero, Act.put, List.setIfInBounds_toArray, List.set_cons_zero, List.set_cons_succ]
          refine ready_at 7 (by kernel_rfl) (by kernel_rfl) (fun K hK => ?_)
          simp only [List.getElem_cons_succ, List.getElem_cons_zero]
          have st_ := store_note (x := y) (h := hb) (C5.out.q _ _ rfl).2 nz_len DY.out
          have C6 := Lib.hid (C5.out.storeQ (ncells y hb))
          go_simp
          clear C5 st_
          generalize v5.setRow gb (ncells y hb).toArray = v6 at *
          refine hK.out _ _ (SS.out _ C6.out.below) (fun hHeld => ?_)
          clear hK K
          try simp only [List.getElem_cons_succ, List.getElem_cons_zero, Act.put, List.setIfInBounds_toArray, List.set_cons_zero, List.set_cons_succ]
          refine wpAnyH_done (by kernel_rfl) ?_ _
          go_wp2_with fail
          go_meet
          case rel => exact ⟨_, _, _, _, rfl, rfl, C6⟩
      · skip
        simp only [List.getElem_cons_succ, List.getElem_cons_zero]
        have C2 := Lib.hid (C1.out.allocP (ncells none_ NHd.none_))
        go_simp
        clear C1
        generalize v1.alloc (.cells (ncells none_ NHd.none_).toArray 32) = v2 at *
        generalize v1.heap.size = gi at *
        refine hK.out _ _ (SS.out _ C2.out.below) (fun hHeld => ?_)
        clear hK K
        try simp only [List.getElem_cons_succ, List.getElem_cons_zero, Act.put, List.setIfInBounds_toArray, List.set_cons_zero, List.set_cons_succ]
        refine ready2_at 3 5 (by kernel_rfl) (by kernel_rfl) (by kernel_rfl) (fun K hK => ?_) (fun K hK => ?_)
        · skip
          simp only [List.getElem_cons_succ, List.getElem_cons_zero]
          go_simp
          go_at_call 7
          refine (copyNote_any y k v2 (GG.out _ C2.out.below).2 FY.out).mono ?_
          rintro e_ v3 ⟨hb, rfl, hr_, hb_⟩
          have C3 := Lib.hid (C2.out.callB hr_ hb_)
          clear hr_ hb_ C2
          (try go_wp2_with fail)
          refine hK.out _ _ (SS.out _ C3.out.below) (fun hHeld => ?_)
          clear hK K
          try simp only [List.getElem_cons_succ, List.getElem_cons_zero, Act.put, List.setIfInBounds_toArray, List.set_cons_zero, List.set_cons_succ]
          refine ready_at 5 (by kernel_rfl) (by kernel_rfl) (fun K hK => ?_)
          simp only [List.getElem_cons_succ, List.getElem_cons_zero]
          have C4 := Lib.hid (C3.out.allocQ (ncells none_ NHd.none_))
          go_simp
          clear C3
          generalize v3.alloc (.cells (ncells none_ NHd.none_).toArray 32) = v4 at *
          generalize v3.heap.size = gb at *
          refine hK.out _ _ (SS.out _ C4.out.below) (fun hHeld => ?_)
          clear hK K
          try simp only [List.getElem_cons_succ, List.getElem_cons_zero, Act.put, List.setIfInBounds_toArray, List.set_cons_zero, List.set_cons_succ]
          refine ready_at 6 (by kernel_rfl) (by kernel_rfl) (fun K hK => ?_)
          simp only [List.getElem_cons_succ, List.getElem_cons_zero]
          have st_ := store_note (x := x) (h := hi) (C4.out.p _ _ rfl).2 nz_len DX.out
          have C5 := Lib.hid (C4.out.storeP (ncells x hi))
          go_simp
          clear C4 st_
          generalize v4.setRow gi (ncells x hi).toArray = v5 at *
          refine hK.out _ _ (SS.out _ C5.out.below) (fun hHeld => ?_)
          clear hK K
          try simp only [List.getElem_cons_succ, List.getElem_cons_zero, Act.put, List.setIfInBounds_toArray, List.set_cons_zero, List.set_cons_succ]
          refine ready_at 7 (by kernel_rfl) (by kernel_rfl) (fun K hK => ?_)
          simp only [List.getElem_cons_succ, List.getElem_cons_zero]
          have st_ := store_note (x := y) (h := hb) (C5.out.q _ _ rfl).2 nz_len DY.out
          have C6 := Lib.hid (C5.out.storeQ (ncells y hb))
          go_simp
          clear C5 st_
          generalize v5.setRow gb (ncells y hb).toArray = v6 at *
          refine hK.out _ _ (SS.out _ C6.out.below) (fun hHeld => ?_)
          clear hK K
          try simp only [List.getElem_cons_succ, List.getElem_cons_zero, Act.put, List.setIfInBounds_toArray, List.set_cons_zero, List.set_cons_succ]
          refine wpAnyH_done (by kernel_rfl) ?_ _
          go_wp2_with fail
          go_meet
          case rel => exact ⟨_, _, _, _, rfl, rfl, C6⟩
        · skip
          simp only [List.getElem_cons_succ, List.getElem_cons_zero]
          have C3 := Lib.hid (C2.out.allocQ (ncells none_ NHd.none_))
          go_simp
          clear C2
          generalize v2.alloc (.cells (ncells none_ NHd.none_).toArray 32) = v3 at *
          generalize v2.heap.size = gb at *
          refine hK.out _ _ (SS.out _ C3.out.below) (fun hHeld => ?_)
          clear hK K
          try simp only [List.getElem_cons_succ, List.getElem_cons_zero, Act.put, List.setIfInBounds_toArray, List.set_cons_zero, List.set_cons_succ]
          refine ready_at 3 (by kernel_rfl) (by kernel_rfl) (fun K hK => ?_)
          simp only [List.getElem_cons_succ, List.getElem_cons_zero]
          go_simp
          go_at_call 7
          refine (copyNote_any y k v3 (GG.out _ C3.out.below).2 FY.out).mono ?_
          rintro e_ v4 ⟨hb, rfl, hr_, hb_⟩
          have C4 := Lib.hid (C3.out.callB hr_ hb_)
          clear hr_ hb_ C3
          (try go_wp2_with fail)
          refine hK.out _ _ (SS.out _ C4.out.below) (fun hHeld => ?_)
          clear hK K
          try simp only [List.getElem_cons_succ, List.getElem_cons_zero, Act.put, List.setIfInBounds_toArray, List.set_cons_zero, List.set_cons_succ]
          refine ready_at 6 (by kernel_rfl) (by kernel_rfl) (fun K hK => ?_)
          simp only [List.getElem_cons_succ, List.getElem_cons_zero]
          have st_ := store_note (x := x) (h := hi) (C4.out.p _ _ rfl).2 nz_len DX.out
          have C5 := Lib.hid (C4.out.storeP (ncells x hi))
          go_simp
          clear C4 st_
          generalize v4.setRow gi (ncells x hi).toArray = v5 at *
          refine hK.out _ _ (SS.out _ C5.out.below) (fun hHeld => ?_)
          clear hK K
          try simp only [List.getElem_cons_succ, List.getElem_cons_zero, Act.put, List.setIfInBounds_toArray, List.set_cons_zero, List.set_cons_succ]
          refine ready_at 7 (by kernel_rfl) (by kernel_rfl) (fun K hK => ?_)
          simp only [List.getElem_cons_succ, List.getElem_cons_zero]
          have st_ := store_note (x := y) (h := hb) (C5.out.q _ _ rfl).2 nz_len DY.out
          have C6 := Lib.hid (C5.out.storeQ (ncells y hb))
          go_simp
          clear C5 st_
          generalize v5.setRow gb (ncells y hb).toArray = v6 at *
          refine hK.out _ _ (SS.out _ C6.out.below) (fun hHeld => ?_)
          clear hK K
          try simp only [List.getElem_cons_succ, List.getElem_cons_zero, Act.put, List.setIfInBounds_toArray, List.set_cons_zero, List.set_cons_succ]
          refine wpAnyH_done (by kernel_rfl) ?_ _
          go_wp2_with fail
          go_meet
          case rel => exact ⟨_, _, _, _, rfl, rfl, C6⟩
      · skip
        simp only [List.getElem_cons_succ, List.getElem_cons_zero]
        have C2 := Lib.hid (C1.out.allocQ (ncells none_ NHd.none_))
        go_simp
        clear C1
        generalize v1.alloc (.cells (ncells none_ NHd.none_).toArray 32) = v2 at *
        generalize v1.heap.size = gb at *
        refine hK.out _ _ (SS.out _ C2.out.below) (fun hHeld => ?_)
        clear hK K
        try simp only [List.getElem_cons_succ, List.getElem_cons_zero, Act.put, List.setIfInBounds_toArray, List.set_cons_zero, List.set_cons_succ]
        refine ready2_at 3 4 (by kernel_rfl) (by kernel_rfl) (by kernel_rfl) (fun K hK => ?_) (fun K hK => ?_)
        · skip
          simp only [List.getElem_cons_succ, List.getElem_cons_zero]
          go_simp
          go_at_call 7
          refine (copyNote_any y k v2 (GG.out _ C2.out.below).2 FY.out).mono ?_
          rintro e_ v3 ⟨hb, rfl, hr_, hb_⟩
          have C3 := Lib.hid (C2.out.callB hr_ hb_)
          clear hr_ hb_ C2
          (try go_wp2_with fail)
          refine hK.out _ _ (SS.out _ C3.out.below) (fun hHeld => ?_)
          clear hK K
          try simp only [List.getElem_cons_succ, List.getElem_cons_zero, Act.put, List.setIfInBounds_toArray, List.set_cons_zero, List.set_cons_succ]
          refine ready_at 4 (by kernel_rfl) (by kernel_rfl) (fun K hK => ?_)
          simp only [List.getElem_cons_succ, List.getElem_cons_zero]
          have C4 := Lib.hid (C3.out.allocP (ncells none_ NHd.none_))
          go_simp
          clear C3
          generalize v3.alloc (.cells (ncells none_ NHd.none_).toArray 32) = v4 at *
          generalize v3.heap.size = gi at *
          refine hK.out _ _ (SS.out _ C4.out.below) (fun hHeld => ?_)
          clear hK K
          try simp only [List.getElem_cons_succ, List.getElem_cons_zero, Act.put, List.setIfInBounds_toArray, List.set_cons_zero, List.set_cons_succ]
          refine ready_at 6 (by kernel_rfl) (by kernel_rfl) (fun K hK => ?_)
          simp only [List.getElem_cons_succ, List.getElem_cons_zero]
          have st_ := store_note (x := x) (h := hi) (C4.out.p _ _ rfl).2 nz_len DX.out
          have C5 := Lib.hid (C4.out.storeP (ncells x hi))
          go_simp
          clear C4 st_
          generalize v4.setRow gi (ncells x hi).toArray = v5 at *
          refine hK.out _ _ (SS.out _ C5.out.below) (fun hHeld => ?_)
          clear hK K
          try simp only [List.getElem_cons_succ, List.getElem_cons_zero, Act.put, List.setIfInBounds_toArray, List.set_cons_zero, List.set_cons_succ]
          refine ready_at 7 (by kernel_rfl) (by kernel_rfl) (fun K hK => ?_)
          simp only [List.getElem_cons_succ, List.getElem_cons_zero]
          have st_ := store_note (x := y) (h := hb) (C5.out.q _ _ rfl).2 nz_len DY.out
          have C6 := Lib.hid (C5.out.storeQ (ncells y hb))
          go_simp
          clear C5 st_
          generalize v5.setRow gb (ncells y hb).toArray = v6 at *
          refine hK.out _ _ (SS.out _ C6.out.below) (fun hHeld => ?_)
          clear hK K
          try simp only [List.getElem_cons_succ, List.getElem_cons_zero, Act.put, List.setIfInBounds_toArray, List.set_cons_zero, List.set_cons_succ]
          refine wpAnyH_done (by kernel_rfl) ?_ _
          go_wp2_with fail
          go_meet
          case rel => exact ⟨_, _, _, _, rfl, rfl, C6⟩
        · skip
          simp only [List.getElem_cons_succ, List.getElem_cons_zero]
          have C3 := Lib.hid (C2.out.allocP (ncells none_ NHd.none_))
          go_simp
          clear C2
          generalize v2.alloc (.cells (ncells none_ NHd.none_).toArray 32) = v3 at *
          generalize v2.heap.size = gi at *
          refine hK.out _ _ (SS.out _ C3.out.below) (fun hHeld => ?_)
          clear hK K
          try simp only [List.getElem_cons_succ, List.getElem_cons_zero, Act.put, List.setIfInBounds_toArray, List.set_cons_zero, List.set_cons_succ]
          refine ready_at 3 (by kernel_rfl) (by kernel_rfl) (fun K hK => ?_)
          simp only [List.getElem_cons_succ, List.getElem_cons_zero]
          go_simp
          go_at_call 7
          refine (copyNote_any y k v3 (GG.out _ C3.out.below).2 FY.out).mono ?_
          rintro e_ v4 ⟨hb, rfl, hr_, hb_⟩
          have C4 := Lib.hid (C3.out.callB hr_ hb_)
          clear hr_ hb_ C3
          (try go_wp2_with fail)
          refine hK.out _ _ (SS.out _ C4.out.below) (fun hHeld => ?_)
          clear hK K
          try simp only [List.getElem_cons_succ, List.getElem_cons_zero, Act.put, List.setIfInBounds_toArray, List.set_cons_zero, List.set_cons_succ]
          refine ready_at 6 (by kernel_rfl) (by kernel_rfl) (fun K hK => ?_)
          simp only [List.getElem_cons_succ, List.getElem_cons_zero]
          have st_ := store_note (x := x) (h := hi) (C4.out.p _ _ rfl).2 nz_len DX.out
          have C5 := Lib.hid (C4.out.storeP (ncells x hi))
          go_simp
          clear C4 st_
          generalize v4.setRow gi (ncells x hi).toArray = v5 at *
          refine hK.out _ _ (SS.out _ C5.out.below) (fun hHeld => ?_)
          clear hK K
          try simp only [List.getElem_cons_succ, List.getElem_cons_zero, Act.put, List.setIfInBounds_toArray, List.set_cons_zero, List.set_cons_succ]
          refine ready_at 7 (by kernel_rfl) (by kernel_rfl) (fun K hK => ?_)
          simp only [List.getElem_cons_succ, List.getElem_cons_zero]
          have st_ := store_note (x := y) (h := hb) (C5.out.q _ _ rfl).2 nz_len DY.out
          have C6 := Lib.hid (C5.out.storeQ (ncells y hb))
          go_simp
          clear C5 st_
          generalize v5.setRow gb (ncells y hb).toArray = v6 at *
          refine hK.out _ _ (SS.out _ C6.out.below) (fun hHeld => ?_)
          clear hK K
          try simp only [List.getElem_cons_succ, List.getElem_cons_zero, Act.put, List.setIfInBounds_toArray, List.set_cons_zero, List.set_cons_succ]
          refine wpAnyH_done (by kernel_rfl) ?_ _
          go_wp2_with fail
          go_meet
          case rel => exact ⟨_, _, _, _, rfl, rfl, C6⟩
    · skip
      simp only [List.getElem_cons_succ, List.getElem_cons_zero]
      have C1 := Lib.hid (C0.out.allocP (ncells none_ NHd.none_))
      go_simp
      clear C0
      generalize v0.alloc (.cells (ncells none_ NHd.none_).toArray 32) = v1 at *
      generalize v0.heap.size = gi at *
      refine hK.out _ _ (SS.out _ C1.out.below) (fun hHeld => ?_)
      clear hK K
      try simp only [List.getElem_cons_succ, List.getElem_cons_zero, Act.put, List.setIfInBounds_toArray, List.set_cons_zero, List.set_cons_succ]
      refine ready2_at 1 5 (by kernel_rfl) (by kernel_rfl) (by kernel_rfl) (fun K hK => ?_) (fun K hK => ?_)
      · skip
        simp only [List.getElem_cons_succ, List.getElem_cons_zero]
        go_simp
        go_at_call 7
        refine (copyNote_any x h v1 (GG.out _ C1.out.below).1 FX.out).mono ?_
        rintro e_ v2 ⟨hi, rfl, hr_, hb_⟩
        have C2 := Lib.hid (C1.out.callA hr_ hb_)
        clear hr_ hb_ C1
        (try go_wp2_with fail)
        refine hK.out _ _ (SS.out _ C2.out.below) (fun hHeld => ?_)
        clear hK K
        try simp only [List.getElem_cons_succ, List.getElem_cons_zero, Act.put, List.setIfInBounds_toArray, List.set_cons_zero, List.set_cons_succ]
        refine ready2_at 3 5 (by kernel_rfl) (by kernel_rfl) (by kernel_rfl) (fun K hK => ?_) (fun K hK => ?_)
        · skip
          simp only [List.getElem_cons_succ, List.getElem_cons_zero]
          go_simp
          go_at_call 7
          refine (copyNote_any y k v2 (GG.out _ C2.out.below).2 FY.out).mono ?_
          rintro e_ v3 ⟨hb, rfl, hr_, hb_⟩
          have C3 := Lib.hid (C2.out.callB hr_ hb_)
          clear hr_ hb_ C2
          (try go_wp2_with fail)
          refine hK.out _ _ (SS.out _ C3.out.below) (fun hHeld => ?_)
          clear hK K
          try simp only [List.getElem_cons_succ, List.getElem_cons_zero, Act.put, List.setIfInBounds_toArray, List.set_cons_zero, List.set_cons_succ]
          refine ready_at 5 (by kernel_rfl) (by kernel_rfl) (fun K hK => ?_)
          simp only [List.getElem_cons_succ, List.getElem_cons_zero]
          have C4 := Lib.hid (C3.out.allocQ (ncells none_ NHd.none_))
          go_simp
          clear C3
          generalize v3.alloc (.cells (ncells none_ NHd.none_).toArray 32) = v4 at *
          generalize v3.heap.size = gb at *
          refine hK.out _ _ (SS.out _ C4.out.below) (fun hHeld => ?_)
          clear hK K
          try simp only [List.getElem_cons_succ, List.getElem_cons_zero, Act.put, List.setIfInBounds_toArray, List.set_cons_zero, List.set_cons_succ]
          refine ready_at 6 (by kernel_rfl) (by kernel_rfl) (fun K hK => ?_)
          simp only [List.getElem_cons_succ, List.getElem_cons_zero]
          have st_ := store_note (x := x) (h := hi) (C4.out.p _ _ rfl).2 nz_len DX.out
          have C5 := Lib.hid (C4.out.storeP (ncells x hi))
          go_simp
          clear C4 st_
          generalize v4.setRow gi (ncells x hi).toArray = v5 at *
          refine hK.out _ _ (SS.out _ C5.out.below) (fun hHeld => ?_)
          clear hK K
          try simp only [List.getElem_cons_succ, List.getElem_cons_zero, Act.put, List.setIfInBounds_toArray, List.set_cons_zero, List.set_cons_succ]
          refine ready_at 7 (by kernel_rfl) (by kernel_rfl) (fun K hK => ?_)
          simp only [List.getElem_cons_succ, List.getElem_cons_zero]
          have st_ := store_note (x := y) (h := hb) (C5.out.q _ _ rfl).2 nz_len DY.out
          have C6 := Lib.hid (C5.out.storeQ (ncells y hb))
          go_simp
          clear C5 st_
          generalize v5.setRow gb (ncells y hb).toArray = v6 at *
          refine hK.out _ _ (SS.out _ C6.out.below) (fun hHeld => ?_)
          clear hK K
          try simp only [List.getElem_cons_succ, List.getElem_cons_zero, Act.put, List.setIfInBounds_toArray, List.set_cons_zero, List.set_cons_succ]
          refine wpAnyH_done (by kernel_rfl) ?_ _
          go_wp2_with fail
          go_meet
          case rel => exact ⟨_, _, _, _, rfl, rfl, C6⟩
        · skip
          simp only [List.getElem_cons_succ, List.getElem_cons_zero]
          have C3 := Lib.hid (C2.out.allocQ (ncells none_ NHd.none_))
          go_simp
          clear C2
          generalize v2.alloc (.cells (ncells none_ NHd.none_).toArray 32) = v3 at *
          generalize v2.heap.size = gb at *
          refine hK.out _ _ (SS.out _ C3.out.below) (fun hHeld => ?_)
          clear hK K
          try simp only [List.getElem_cons_succ, List.getElem_cons_zero, Act.put, List.setIfInBounds_toArray, List.set_cons_zero, List.set_cons_succ]
          refine ready_at 3 (by kernel_rfl) (by kernel_rfl) (fun K hK => ?_)
          simp only [List.getElem_cons_succ, List.getElem_cons_zero]
          go_simp
          go_at_call 7
          refine (copyNote_any y k v3 (GG.out _ C3.out.below).2 FY.out).mono ?_
          rintro e_ v4 ⟨hb, rfl, hr_, hb_⟩
          have C4 := Lib.hid (C3.out.callB hr_ hb_)
          clear hr_ hb_ C3
          (try go_wp2_with fail)
          refine hK.out _ _ (SS.out _ C4.out.below) (fun hHeld => ?_)
          clear hK K
          try simp only [List.getElem_cons_succ, List.getElem_cons_zero, Act.put, List.setIfInBounds_toArray, List.set_cons_zero, List.set_cons_succ]
          refine ready_at 6 (by kernel_rfl) (by kernel_rfl) (fun K hK => ?_)
          simp only [List.getElem_cons_succ, List.getElem_cons_zero]
          have st_ := store_note (x := x) (h := hi) (C4.out.p _ _ rfl).2 nz_len DX.out
          have C5 := Lib.hid (C4.out.storeP (ncells x hi))
          go_simp
          clear C4 st_
          generalize v4.setRow gi (ncells x hi).toArray = v5 at *
          refine hK.out _ _ (SS.out _ C5.out.below) (fun hHeld => ?_)
          clear hK K
          try simp only [List.getElem_cons_succ, List.getElem_cons_zero, Act.put, List.setIfInBounds_toArray, List.set_cons_zero, List.set_cons_succ]
          refine ready_at 7 (by kernel_rfl) (by kernel_rfl) (fun K hK => ?_)
          simp only [List.getElem_cons_succ, List.getElem_cons_zero]
          have st_ := store_note (x := y) (h := hb) (C5.out.q _ _ rfl).2 nz_len DY.out
          have C6 := Lib.hid (C5.out.storeQ (ncells y hb))
          go_simp
          clear C5 st_
          generalize v5.setRow gb (ncells y hb).toArray = v6 at *
          refine hK.out _ _ (SS.out _ C6.out.below) (fun hHeld => ?_)
          clear hK K
          try simp only [List.getElem_cons_succ, List.getElem_cons_zero, Act.put, List.setIfInBounds_toArray, List.set_cons_zero, List.set_cons_succ]
          refine wpAnyH_done (by kernel_rfl) ?_ _
          go_wp2_with fail
          go_meet
          case rel => exact ⟨_, _, _, _, rfl, rfl, C6⟩
      · skip
        simp only [List.getElem_cons_succ, List.getElem_cons_zero]
        have C2 := Lib.hid (C1.out.allocQ (ncells none_ NHd.none_))
        go_simp
        clear C1
        generalize v1.alloc (.cells (ncells none_ NHd.none_).toArray 32) = v2 at *
        generalize v1.heap.size = gb at *
        refine hK.out _ _ (SS.out _ C2.out.below) (fun hHeld => ?_)
        clear hK K
        try simp only [List.getElem_cons_succ, List.getElem_cons_zero, Act.put, List.setIfInBounds_toArray, List.set_cons_zero, List.set_cons_succ]
        refine ready_at 1 (by kernel_rfl) (by kernel_rfl) (fun K hK => ?_)
        simp only [List.getElem_cons_succ, List.getElem_cons_zero]
        go_simp
        go_at_call 7
        refine (copyNote_any x h v2 (GG.out _ C2.out.below).1 FX.out).mono ?_
        rintro e_ v3 ⟨hi, rfl, hr_, hb_⟩
        have C3 := Lib.hid (C2.out.callA hr_ hb_)
        clear hr_ hb_ C2
        (try go_wp2_with fail)
        refine hK.out _ _ (SS.out _ C3.out.below) (fun hHeld => ?_)
        clear hK K
        try simp only [List.getElem_cons_succ, List.getElem_cons_zero, Act.put, List.setIfInBounds_toArray, List.set_cons_zero, List.set_cons_succ]
        refine ready_at 3 (by kernel_rfl) (by kernel_rfl) (fun K hK => ?_)
        simp only [List.getElem_cons_succ, List.getElem_cons_zero]
        go_simp
        go_at_call 7
        refine (copyNote_any y k v3 (GG.out _ C3.out.below).2 FY.out).mono ?_
        rintro e_ v4 ⟨hb, rfl, hr_, hb_⟩
        have C4 := Lib.hid (C3.out.callB hr_ hb_)
        clear hr_ hb_ C3
        (try go_wp2_with fail)
        refine hK.out _ _ (SS.out _ C4.out.below) (fun hHeld => ?_)
        clear hK K
        try simp only [List.getElem_cons_succ, List.getElem_cons_zero, Act.put, List.setIfInBounds_toArray, List.set_cons_zero, List.set_cons_succ]
        refine ready_at 6 (by kernel_rfl) (by kernel_rfl) (fun K hK => ?_)
        simp only [List.getElem_cons_succ, List.getElem_cons_zero]
        have st_ := store_note (x := x) (h := hi) (C4.out.p _ _ rfl).2 nz_len DX.out
        have C5 := Lib.hid (C4.out.storeP (ncells x hi))
        go_simp
        clear C4 st_
        generalize v4.setRow gi (ncells x hi).toArray = v5 at *
        refine hK.out _ _ (SS.out _ C5.out.below) (fun hHeld => ?_)
        clear hK K
        try simp only [List.getElem_cons_succ, List.getElem_cons_zero, Act.put, List.setIfInBounds_toArray, List.set_cons_zero, List.set_cons_succ]
        refine ready_at 7 (by kernel_rfl) (by kernel_rfl) (fun K hK => ?_)
        simp only [List.getElem_cons_succ, List.getElem_cons_zero]
        have st_ := store_note (x := y) (h := hb) (C5.out.q _ _ rfl).2 nz_len DY.out
        have C6 := Lib.hid (C5.out.storeQ (ncells y hb))
        go_simp
        clear C5 st_
        generalize v5.setRow gb (ncells y hb).toArray = v6 at *
        refine hK.out _ _ (SS.out _ C6.out.below) (fun hHeld => ?_)
        clear hK K
        try simp only [List.getElem_cons_succ, List.getElem_cons_zero, Act.put, List.setIfInBounds_toArray, List.set_cons_zero, List.set_cons_succ]
        refine wpAnyH_done (by kernel_rfl) ?_ _
        go_wp2_with fail
        go_meet
        case rel => exact ⟨_, _, _, _, rfl, rfl, C6⟩
    · skip
      simp only [List.getElem_cons_succ, List.getElem_cons_zero]
      have C1 := Lib.hid (C0.out.allocQ (ncells none_ NHd.none_))
      go_simp
      clear C0
      generalize v0.alloc (.cells (ncells none_ NHd.none_).toArray 32) = v1 at *
      generalize v0.heap.size = gb at *
      refine hK.out _ _ (SS.out _ C1.out.below) (fun hHeld => ?_)
      clear hK K
      try simp only [List.getElem_cons_succ, List.getElem_cons_zero, Act.put, List.setIfInBounds_toArray, List.set_cons_zero, List.set_cons_succ]
      refine ready2_at 1 4 (by kernel_rfl) (by kernel_rfl) (by kernel_rfl) (fun K hK => ?_) (fun K hK => ?_)
      · skip
        simp only [List.getElem_cons_succ, List.getElem_cons_zero]
        go_simp
        go_at_call 7
        refine (copyNote_any x h v1 (GG.out _ C1.out.below).1 FX.out).mono ?_
        rintro e_ v2 ⟨hi, rfl, hr_, hb_⟩
        have C2 := Lib.hid (C1.out.callA hr_ hb_)
        clear hr_ hb_ C1
        (try go_wp2_with fail)
        refine hK.out _ _ (SS.out _ C2.out.below) (fun hHeld => ?_)
        clear hK K
        try simp only [List.getElem_cons_succ, List.getElem_cons_zero, Act.put, List.setIfInBounds_toArray, List.set_cons_zero, List.set_cons_succ]
        refine ready2_at 3 4 (by kernel_rfl) (by kernel_rfl) (by kernel_rfl) (fun K hK => ?_) (fun K hK => ?_)
        · skip
          simp only [List.getElem_cons_succ, List.getElem_cons_zero]
          go_simp
          go_at_call 7
          refine (copyNote_any y k v2 (GG.out _ C2.out.below).2 FY.out).mono ?_
          rintro e_ v3 ⟨hb, rfl, hr_, hb_⟩
          have C3 := Lib.hid (C2.out.callB hr_ hb_)
          clear hr_ hb_ C2
          (try go_wp2_with fail)
          refine hK.out _ _ (SS.out _ C3.out.below) (fun hHeld => ?_)
          clear hK K
          try simp only [List.getElem_cons_succ, List.getElem_cons_zero, Act.put, List.setIfInBounds_toArray, List.set_cons_zero, List.set_cons_succ]
          refine ready_at 4 (by kernel_rfl) (by kernel_rfl) (fun K hK => ?_)
          simp only [List.getElem_cons_succ, List.getElem_cons_zero]
          have C4 := Lib.hid (C3.out.allocP (ncells none_ NHd.none_))
          go_simp
          clear C3
          generalize v3.alloc (.cells (ncells none_ NHd.none_).toArray 32) = v4 at *
          generalize v3.heap.size = gi at *
          refine hK.out _ _ (SS.out _ C4.out.below) (fun hHeld => ?_)
          clear hK K
          try simp only [List.getElem_cons_succ, List.getElem_cons_zero, Act.put, List.setIfInBounds_toArray, List.set_cons_zero, List.set_cons_succ]
          refine ready_at 6 (by kernel_rfl) (by kernel_rfl) (fun K hK => ?_)
          simp only [List.getElem_cons_succ, List.getElem_cons_zero]
          have st_ := store_note (x := x) (h := hi) (C4.out.p _ _ rfl).2 nz_len DX.out
          have C5 := Lib.hid (C4.out.storeP (ncells x hi))
          go_simp
          clear C4 st_
          generalize v4.setRow gi (ncells x hi).toArray = v5 at *
          refine hK.out _ _ (SS.out _ C5.out.below) (fun hHeld => ?_)
          clear hK K
          try simp only [List.getElem_cons_succ, List.getElem_cons_zero, Act.put, List.setIfInBounds_toArray, List.set_cons_zero, List.set_cons_succ]
          refine ready_at 7 (by kernel_rfl) (by kernel_rfl) (fun K hK => ?_)
          simp only [List.getElem_cons_succ, List.getElem_cons_zero]
          have st_ := store_note (x := y) (h := hb) (C5.out.q _ _ rfl).2 nz_len DY.out
          have C6 := Lib.hid (C5.out.storeQ (ncells y hb))
          go_simp
          clear C5 st_
          generalize v5.setRow gb (ncells y hb).toArray = v6 at *
          refine hK.out _ _ (SS.out _ C6.out.below) (fun hHeld => ?_)
          clear hK K
          try simp only [List.getElem_cons_succ, List.getElem_cons_zero, Act.put, List.setIfInBounds_toArray, List.set_cons_zero, List.set_cons_succ]
          refine wpAnyH_done (by kernel_rfl) ?_ _
          go_wp2_with fail
          go_meet
          case rel => exact ⟨_, _, _, _, rfl, rfl, C6⟩
        · skip
          simp only [List.getElem_cons_succ, List.getElem_cons_zero]
          have C3 := Lib.hid (C2.out.allocP (ncells none_ NHd.none_))
          go_simp
          clear C2
          generalize v2.alloc (.cells (ncells none_ NHd.none_).toArray 32) = v3 at *
          generalize v2.heap.size = gi at *
          refine hK.out _ _ (SS.out _ C3.out.below) (fun hHeld => ?_)
          clear hK K
          try simp only [List.getElem_cons_succ, List.getElem_cons_zero, Act.put, List.setIfInBounds_toArray, List.set_cons_zero, List.set_cons_succ]
          refine ready_at 3 (by kernel_rfl) (by kernel_rfl) (fun K hK => ?_)
          simp only [List.getElem_cons_succ, List.getElem_cons_zero]
          go_simp
          go_at_call 7
          refine (copyNote_any y k v3 (GG.out _ C3.out.below).2 FY.out).mono ?_
          rintro e_ v4 ⟨hb, rfl, hr_, hb_⟩
          have C4 := Lib.hid (C3.out.callB hr_ hb_)
          clear hr_ hb_ C3
          (try go_wp2_with fail)
          refine hK.out _ _ (SS.out _ C4.out.below) (fun hHeld => ?_)
          clear hK K
          try simp only [List.getElem_cons_succ, List.getElem_cons_zero, Act.put, List.setIfInBounds_toArray, List.set_cons_zero, List.set_cons_succ]
          refine ready_at 6 (by kernel_rfl) (by kernel_rfl) (fun K hK => ?_)
          simp only [List.getElem_cons_succ, List.getElem_cons_zero]
          have st_ := store_note (x := x) (h := hi) (C4.out.p _ _ rfl).2 nz_len DX.out
          have C5 := Lib.hid (C4.out.storeP (ncells x hi))
          go_simp
          clear C4 st_
          generalize v4.setRow gi (ncells x hi).toArray = v5 at *
          refine hK.out _ _ (SS.out _ C5.out.below) (fun hHeld => ?_)
          clear hK K
          try simp only [List.getElem_cons_succ, List.getElem_cons_zero, Act.put, List.setIfInBounds_toArray, List.set_cons_zero, List.set_cons_succ]
          refine ready_at 7 (by kernel_rfl) (by kernel_rfl) (fun K hK => ?_)
          simp only [List.getElem_cons_succ, List.getElem_cons_zero]
          have st_ := store_note (x := y) (h := hb) (C5.out.q _ _ rfl).2 nz_len DY.out
          have C6 := Lib.hid (C5.out.storeQ (ncells y hb))
          go_simp
          clear C5 st_
          generalize v5.setRow gb (ncells y hb).toArray = v6 at *
          refine hK.out _ _ (SS.out _ C6.out.below) (fun hHeld => ?_)
          clear hK K
          try simp only [List.getElem_cons_succ, List.getElem_cons_zero, Act.put, List.setIfInBounds_toArray, List.set_cons_zero, List.set_cons_succ]
          refine wpAnyH_done (by kernel_rfl) ?_ _
          go_wp2_with fail
          go_meet
          case rel => exact ⟨_, _, _, _, rfl, rfl, C6⟩
      · skip
        simp only [List.getElem_cons_succ, List.getElem_cons_zero]
        have C2 := Lib.hid (C1.out.allocP (ncells none_ NHd.none_))
        go_simp
        clear C1
        generalize v1.alloc (.cells (ncells none_ NHd.none_).toArray 32) = v2 at *
        generalize v1.heap.size = gi at *
        refine hK.out _ _ (SS.out _ C2.out.below) (fun hHeld => ?_)
        clear hK K
        try simp only [List.getElem_cons_succ, List.getElem_cons_zero, Act.put, List.setIfInBounds_toArray, List.set_cons_zero, List.set_cons_succ]
        refine ready_at 1 (by kernel_rfl) (by kernel_rfl) (fun K hK => ?_)
        simp only [List.getElem_cons_succ, List.getElem_cons_zero]
        go_simp
        go_at_call 7
        refine (copyNote_any x h v2 (GG.out _ C2.out.below).1 FX.out).mono ?_
        rintro e_ v3 ⟨hi, rfl, hr_, hb_⟩
        have C3 := Lib.hid (C2.out.callA hr_ hb_)
        clear hr_ hb_ C2
        (try go_wp2_with fail)
        refine hK.out _ _ (SS.out _ C3.out.below) (fun hHeld => ?_)
        clear hK K
        try simp only [List.getElem_cons_succ, List.getElem_cons_zero, Act.put, List.setIfInBounds_toArray, List.set_cons_zero, List.set_cons_succ]
        refine ready_at 3 (by kernel_rfl) (by kernel_rfl) (fun K hK => ?_)
        simp only [List.getElem_cons_succ, List.getElem_cons_zero]
        go_simp
        go_at_call 7
        refine (copyNote_any y k v3 (GG.out _ C3.out.below).2 FY.out).mono ?_
        rintro e_ v4 ⟨hb, rfl, hr_, hb_⟩
        have C4 := Lib.hid (C3.out.callB hr_ hb_)
        clear hr_ hb_ C3
        (try go_wp2_with fail)
        refine hK.out _ _ (SS.out _ C4.out.below) (fun hHeld => ?_)
        clear hK K
        try simp only [List.getElem_cons_succ, List.getElem_cons_zero, Act.put, List.setIfInBounds_toArray, List.set_cons_zero, List.set_cons_succ]
        refine ready_at 6 (by kernel_rfl) (by kernel_rfl) (fun K hK => ?_)
        simp only [List.getElem_cons_succ, List.getElem_cons_zero]
        have st_ := store_note (x := x) (h := hi) (C4.out.p _ _ rfl).2 nz_len DX.out
        have C5 := Lib.hid (C4.out.storeP (ncells x hi))
        go_simp
        clear C4 st_
        generalize v4.setRow gi (ncells x hi).toArray = v5 at *
        refine hK.out _ _ (SS.out _ C5.out.below) (fun hHeld => ?_)
        clear hK K
        try simp only [List.getElem_cons_succ, List.getElem_cons_zero, Act.put, List.setIfInBounds_toArray, List.set_cons_zero, List.set_cons_succ]
        refine ready_at 7 (by kernel_rfl) (by kernel_rfl) (fun K hK => ?_)
        simp only [List.getElem_cons_succ, List.getElem_cons_zero]
        have st_ := store_note (x := y) (h := hb) (C5.out.q _ _ rfl).2 nz_len DY.out
        have C6 := Lib.hid (C5.out.storeQ (ncells y hb))
        go_simp
        clear C5 st_
        generalize v5.setRow gb (ncells y hb).toArray = v6 at *
        refine hK.out _ _ (SS.out _ C6.out.below) (fun hHeld => ?_)
        clear hK K
        try simp only [List.getElem_cons_succ, List.getElem_cons_zero, Act.put, List.setIfInBounds_toArray, List.set_cons_zero, List.set_cons_succ]
        refine wpAnyH_done (by kernel_rfl) ?_ _
        go_wp2_with fail
        go_meet
        case rel => exact ⟨_, _, _, _, rfl, rfl, C6⟩
  case rest =>
    obtain ⟨gi, gb, hi, hb, rfl, rfl, CP⟩ := hcut
    generalize wc = w5 at *
    have B5 := Lib.hid (B4.out.trans (CP.out.below.mono B4.out.size))
    have KI := Lib.hid (CP.out.p _ _ rfl).2
    have KB := Lib.hid (CP.out.q _ _ rfl).2
    have NI := Lib.hid (CP.out.a _ rfl)
    have NB := Lib.hid (CP.out.b _ rfl)
    have LI := Lib.hid (fun (W : World) (hb' : Below w5.heap.size w5 W) => load_note (x := x) (h := hi) (o := 0) DX.out (KI.out.below hb' KI.out.lt).range)
    have LB := Lib.hid (fun (W : World) (hb' : Below w5.heap.size w5 W) => load_note (x := y) (h := hb) (o := 0) DY.out (KB.out.below hb' KB.out.lt).range)
    have GI := Lib.hid (fun (W : World) (hb' : Below w5.heap.size w5 W) => (NI.out.below hb').good OX.out)
    have GB := Lib.hid (fun (W : World) (hb' : Below w5.heap.size w5 W) => (NB.out.below hb').good OY.out)
    have R5 := Lib.hid (Below.refl w5.heap.size w5)
    have L5 := Lib.hid (fun (W : World) (hb' : Below w5.heap.size w5 W) => B5.out.trans (hb'.mono B5.out.size))
    obtain ⟨⟨b, er⟩, hr⟩ : ∃ r, r = Nte.put x := ⟨_, rfl⟩
    have HR := Lib.hid hr
    have HBY := Lib.hid (put_bytesQ OX.out)
    rw [← hr] at HBY
    dsimp only at HBY
    obtain ⟨m, hm⟩ : ∃ m, m = b.length := ⟨_, rfl⟩
    have HM := Lib.hid hm
    obtain ⟨ce, hce⟩ : ∃ c, c = check x := ⟨_, rfl⟩
    obtain ⟨sm, hsm⟩ : ∃ s, s = decide (x = y) := ⟨_, rfl⟩
    have HCE := Lib.hid hce
    have HSM := Lib.hid hsm
    clear hr CP KI KB NI NB hm hce hsm B4 R2
    have li := LI.out w5 R5.out
    go_wp2_with fail
    refine (Wr.put x hi w5 (GI.out w5 R5.out) FX.out).mono ?_
    rw [← HR.out]
    rintro e6 w6 ⟨va, rfl, ho6, hb6⟩
    dsimp only at ho6 ⊢
    have O6 := Lib.hid ho6
    have C6 := Lib.hid hb6
    clear li ho6 hb6
    have lx := LX.out w6 (L5.out w6 C6.out)
    go_wp2_with fail
    refine (rnput_any x h w6 (GX.out w6 (L5.out w6 C6.out)) FX.out).mono ?_
    rw [← HR.out]
    rintro e7 w7 ⟨vb, rfl, ho7, hb7⟩
    dsimp only at ho7 ⊢
    have O7 := Lib.hid (own8Q O6.out hb7)
    have C7 := Lib.hid (C6.out.trans (hb7.mono C6.out.size))
    obtain ⟨pb, cb, rfl, _, _, hAb, _, _⟩ := own_at ho7
    obtain ⟨pa, ca, rfl, _, _, hAa, _, _⟩ := own_at O7.out.row
    have AA := Lib.hid (fun (W : World) (hb' : Below w7.heap.size w7 W) => hAa.below hb')
    have AB := Lib.hid (fun (W : World) (hb' : Below w7.heap.size w7 W) => hAb.below hb')
    rw [← HM.out] at O7 ⊢
    clear lx ho7 hb7 O6 C6 hAa hAb
    have L7 := Lib.hid (fun (W : World) (hb' : Below w7.heap.size w7 W) => C7.out.trans (hb'.mono C7.out.size))
    go_upto_region 6 with (fail)
    go_cut [11] from 33 to 56 (fun s wx => s = .bool true ∧ Hid (Below w7.heap.size w7 wx))
    case first =>
      have SS := Lib.hid (fun (W : World) (hb' : Below w7.heap.size w7 W) => (⟨LX.out W (L5.out W (L7.out W hb')), LY.out W (L5.out W (L7.out W hb')), LI.out W (L7.out W hb'), LB.out W (L7.out W hb')⟩ : (loadOp 32 (.pointer (some ⟨g, 0, none⟩))).run Tryz.prog W = .ok (.value (.agg (ncells x h).toArray)) W ∧ (loadOp 32 (.pointer (some ⟨g2, 0, none⟩))).run Tryz.prog W = .ok (.value (.agg (ncells y k).toArray)) W ∧ (loadOp 32 (.pointer (some ⟨gi, 0, none⟩))).run Tryz.prog W = .ok (.value (.agg (ncells x hi).toArray)) W ∧ (loadOp 32 (.pointer (some ⟨gb, 0, none⟩))).run Tryz.prog W = .ok (.value (.agg (ncells y hb).toArray)) W))
      refine wp_region_held_drew (S := (fun W => (loadOp 32 (.pointer (some ⟨g, 0, none⟩))).run Tryz.prog W = .ok (.value (.agg (ncells x h).toArray)) W ∧ (loadOp 32 (.pointer (some ⟨g2, 0, none⟩))).run Tryz.prog W = .ok (.value (.agg (ncells y k).toArray)) W ∧ (loadOp 32 (.pointer (some ⟨gi, 0, none⟩))).run Tryz.prog W = .ok (.value (.agg (ncells x hi).toArray)) W ∧ (loadOp 32 (.pointer (some ⟨gb, 0, none⟩))).run Tryz.prog W = .ok (.value (.agg (ncells y hb).toArray)) W)) (by kernel_rfl) (SS.out _ (Below.refl w7.heap.size w7).drew) (fun hHeld => ?_)
      have D0 := Lib.hid (Below.refl w7.heap.size w7).drew
      generalize w7.drew = v0 at *
      refine take_at 0 (by kernel_rfl) (v := ?v3) (by kernel_rfl) (by kernel_rfl) (by kernel_rfl) (fun _ _ _ h => h) (by rfl) ?y3 (by assumption) ?r3
      case y3 => (intro w hSw; (try dsimp only at hSw); (try (obtain ⟨hSa, hSb, hSc, hSd⟩ := hSw)); simp only [List.getElem_cons_succ, List.getElem_cons_zero]; go_simp; (try with_reducible rfl))
      try simp only [List.getElem_cons_succ, List.getElem_cons_zero, Act.put, List.setIfInBounds_toArray, List.set_cons_zero, List.set_cons_succ]
      refine take_at 1 (by kernel_rfl) (v := ?v4) (by kernel_rfl) (by kernel_rfl) (by kernel_rfl) (fun _ _ _ h => h) (by rfl) ?y4 (by assumption) ?r4
      case y4 => (intro w hSw; (try dsimp only at hSw); (try (obtain ⟨hSa, hSb, hSc, hSd⟩ := hSw)); simp only [List.getElem_cons_succ, List.getElem_cons_zero]; go_simp; (try with_reducible rfl))
      try simp only [List.getElem_cons_succ, List.getElem_cons_zero, Act.put, List.setIfInBounds_toArray, List.set_cons_zero, List.set_cons_succ]
      refine ready_at 2 (by kernel_rfl) (by kernel_rfl) (fun K hK => ?_)
      simp only [List.getElem_cons_succ, List.getElem_cons_zero]
      go_simp
      go_at_call 10
      refine (same_any b b m m pa pb ca cb v0 HM.out.symm HM.out.symm (AA.out _ D0.out) (AB.out _ D0.out) HBY.out HBY.out).mono ?_
      rintro e_ v1 ⟨rfl, rfl⟩
      have D1 := D0
      rw [decide_eq_true (rfl : b = b)]
      (try go_wp2_with fail)
      refine hK.out _ _ (SS.out _ D1.out) (fun hHeld => ?_)
      clear hK K
      try simp only [List.getElem_cons_succ, List.getElem_cons_zero, Act.put, List.setIfInBounds_toArray, List.set_cons_zero, List.set_cons_succ]
      refine take_at 3 (by kernel_rfl) (v := ?v5) (by kernel_rfl) (by kernel_rfl) (by kernel_rfl) (fun _ _ _ h => h) (by rfl) ?y5 (by assumption) ?r5
      case y5 => (intro w hSw; (try dsimp only at hSw); (try (obtain ⟨hSa, hSb, hSc, hSd⟩ := hSw)); simp only [List.getElem_cons_succ, List.getElem_cons_zero]; go_simp; (try with_reducible rfl))
      try simp only [List.getElem_cons_succ, List.getElem_cons_zero, Act.put, List.setIfInBounds_toArray, List.set_cons_zero, List.set_cons_succ]
      refine take_at 4 (by kernel_rfl) (v := ?v6) (by kernel_rfl) (by kernel_rfl) (by kernel_rfl) (fun _ _ _ h => h) (by rfl) ?y6 (by assumption) ?r6
      case y6 => (intro w hSw; (try dsimp only at hSw); (try (obtain ⟨hSa, hSb, hSc, hSd⟩ := hSw)); simp only [List.getElem_cons_succ, List.getElem_cons_zero]; go_simp; (try with_reducible rfl))
      try simp only [List.getElem_cons_succ, List.getElem_cons_zero, Act.put, List.setIfInBounds_toArray, List.set_cons_zero, List.set_cons_succ]
      refine take_at 5 (by kernel_rfl) (v := ?v7) (by kernel_rfl) (by kernel_rfl) (by kernel_rfl) (fun _ _ _ h => h) (by rfl) ?y7 (by assumption) ?r7
      case y7 => (intro w hSw; (try dsimp only at hSw); (try (obtain ⟨hSa, hSb, hSc, hSd⟩ := hSw)); simp only [List.getElem_cons_succ, List.getElem_cons_zero]; go_simp; (try with_reducible rfl))
      try simp only [List.getElem_cons_succ, List.getElem_cons_zero, Act.put, List.setIfInBounds_toArray, List.set_cons_zero, List.set_cons_succ]
      refine take_at 6 (by kernel_rfl) (v := ?v8) (by kernel_rfl) (by kernel_rfl) (by kernel_rfl) (fun _ _ _ h => h) (by rfl) ?y8 (by assumption) ?r8
      case y8 => (intro w hSw; (try dsimp only at hSw); (try (obtain ⟨hSa, hSb, hSc, hSd⟩ := hSw)); simp only [List.getElem_cons_succ, List.getElem_cons_zero]; go_simp; (try with_reducible rfl))
      try simp only [List.getElem_cons_succ, List.getElem_cons_zero, Act.put, List.setIfInBounds_toArray, List.set_cons_zero, List.set_cons_succ]
      refine take_at 7 (by kernel_rfl) (v := ?v9) (by kernel_rfl) (by kernel_rfl) (by kernel_rfl) (fun _ _ _ h => h) (by rfl) ?y9 (by assumption) ?r9
      case y9 => (intro w hSw; (try dsimp only at hSw); (try (obtain ⟨hSa, hSb, hSc, hSd⟩ := hSw)); simp only [List.getElem_cons_succ, List.getElem_cons_zero]; go_simp; (try with_reducible rfl))
      try simp only [List.getElem_cons_succ, List.getElem_cons_zero, Act.put, List.setIfInBounds_toArray, List.set_cons_zero, List.set_cons_succ]
      refine take_at 8 (by kernel_rfl) (v := ?v10) (by kernel_rfl) (by kernel_rfl) (by kernel_rfl) (fun _ _ _ h => h) (by rfl) ?y10 (by assumption) ?r10
      case y10 => (intro w hSw; (try dsimp only at hSw); (try (obtain ⟨hSa, hSb, hSc, hSd⟩ := hSw)); simp only [List.getElem_cons_succ, List.getElem_cons_zero]; go_simp; (try with_reducible rfl))
      try simp only [List.getElem_cons_succ, List.getElem_cons_zero, Act.put, List.setIfInBounds_toArray, List.set_cons_zero, List.set_cons_succ]
      refine take_at 9 (by kernel_rfl) (v := ?v11) (by kernel_rfl) (by kernel_rfl) (by kernel_rfl) (fun _ _ _ h => h) (by rfl) ?y11 (by assumption) ?r11
      case y11 => (intro w hSw; (try dsimp only at hSw); (try (obtain ⟨hSa, hSb, hSc, hSd⟩ := hSw)); simp only [List.getElem_cons_succ, List.getElem_cons_zero]; go_simp; (try with_reducible rfl))
      try simp only [List.getElem_cons_succ, List.getElem_cons_zero, Act.put, List.setIfInBounds_toArray, List.set_cons_zero, List.set_cons_succ]
      refine take_at 11 (by kernel_rfl) (v := ?v12) (by kernel_rfl) (by kernel_rfl) (by kernel_rfl) (fun _ _ _ h => h) (by rfl) ?y12 (by assumption) ?r12
      case y12 => (intro w hSw; (try dsimp only at hSw); (try (obtain ⟨hSa, hSb, hSc, hSd⟩ := hSw)); simp only [List.getElem_cons_succ, List.getElem_cons_zero]; go_simp; (try with_reducible rfl))
      try simp only [List.getElem_cons_succ, List.getElem_cons_zero, Act.put, List.setIfInBounds_toArray, List.set_cons_zero, List.set_cons_succ]
      refine ready_at 10 (by kernel_rfl) (by kernel_rfl) (fun K hK => ?_)
      simp only [List.getElem_cons_succ, List.getElem_cons_zero]
      go_simp
      go_at_call 11
      refine (Wr.check x hi _ (GI.out _ (L7.out _ D1.out)) FX.out).mono ?_
      rw [← HCE.out]
      rintro e_ v2 ⟨rfl, hb_⟩
      have D2 := Lib.hid (D1.out.trans (hb_.mono D1.out.size))
      clear hb_
      (try go_wp2_with fail)
      refine hK.out _ _ (SS.out _ D2.out) (fun hHeld => ?_)
      clear hK K
      try simp only [List.getElem_cons_succ, List.getElem_cons_zero, Act.put, List.setIfInBounds_toArray, List.set_cons_zero, List.set_cons_succ]
      refine ready_at 12 (by kernel_rfl) (by kernel_rfl) (fun K hK => ?_)
      simp only [List.getElem_cons_succ, List.getElem_cons_zero]
      go_simp
      go_at_call 12
      refine (rcheck15_any x h _ (GX.out _ (L5.out _ (L7.out _ D2.out))) FX.out).mono ?_
      rw [← HCE.out]
      rintro e_ v3 ⟨rfl, hb_⟩
      have D3 := Lib.hid (D2.out.trans (hb_.mono D2.out.size))
      clear hb_
      (try go_wp2_with fail)
      refine hK.out _ _ (SS.out _ D3.out) (fun hHeld => ?_)
      clear hK K
      try simp only [List.getElem_cons_succ, List.getElem_cons_zero, Act.put, List.setIfInBounds_toArray, List.set_cons_zero, List.set_cons_succ]
      refine take_at 13 (by kernel_rfl) (v := ?v13) (by kernel_rfl) (by kernel_rfl) (by kernel_rfl) (fun _ _ _ h => h) (by rfl) ?y13 (by assumption) ?r13
      case y13 => (intro w hSw; (try dsimp only at hSw); (try (obtain ⟨hSa, hSb, hSc, hSd⟩ := hSw)); simp only [List.getElem_cons_succ, List.getElem_cons_zero]; go_simp; (try with_reducible rfl))
      try simp only [List.getElem_cons_succ, List.getElem_cons_zero, Act.put, List.setIfInBounds_toArray, List.set_cons_zero, List.set_cons_succ]
      refine take_at 14 (by kernel_rfl) (v := ?v14) (by kernel_rfl) (by kernel_rfl) (by kernel_rfl) (fun _ _ _ h => h) (by rfl) ?y14 (by assumption) ?r14
      case y14 => (intro w hSw; (try dsimp only at hSw); (try (obtain ⟨hSa, hSb, hSc, hSd⟩ := hSw)); simp only [List.getElem_cons_succ, List.getElem_cons_zero]; go_simp; (try with_reducible rfl))
      try simp only [List.getElem_cons_succ, List.getElem_cons_zero, Act.put, List.setIfInBounds_toArray, List.set_cons_zero, List.set_cons_succ]
      refine take_at 15 (by kernel_rfl) (v := ?v15) (by kernel_rfl) (by kernel_rfl) (by kernel_rfl) (fun _ _ _ h => h) (by rfl) ?y15 (by assumption) ?r15
      case y15 => (intro w hSw; (try dsimp only at hSw); (try (obtain ⟨hSa, hSb, hSc, hSd⟩ := hSw)); simp only [List.getElem_cons_succ, List.getElem_cons_zero]; go_simp; (try with_reducible rfl))
      try simp only [List.getElem_cons_succ, List.getElem_cons_zero, Act.put, List.setIfInBounds_toArray, List.set_cons_zero, List.set_cons_succ]
      refine take_at 16 (by kernel_rfl) (v := ?v16) (by kernel_rfl) (by kernel_rfl) (by kernel_rfl) (fun _ _ _ h => h) (by rfl) ?y16 (by assumption) ?r16
      case y16 => (intro w hSw; (try dsimp only at hSw); (try (obtain ⟨hSa, hSb, hSc, hSd⟩ := hSw)); simp only [List.getElem_cons_succ, List.getElem_cons_zero]; go_simp; (try with_reducible rfl))
      try simp only [List.getElem_cons_succ, List.getElem_cons_zero, Act.put, List.setIfInBounds_toArray, List.set_cons_zero, List.set_cons_succ]
      refine take_at 17 (by kernel_rfl) (v := ?v17) (by kernel_rfl) (by kernel_rfl) (by kernel_rfl) (fun _ _ _ h => h) (by rfl) ?y17 (by assumption) ?r17
      case y17 => (intro w hSw; (try dsimp only at hSw); (try (obtain ⟨hSa, hSb, hSc, hSd⟩ := hSw)); simp only [List.getElem_cons_succ, List.getElem_cons_zero]; go_simp; (try with_reducible rfl))
      try simp only [List.getElem_cons_succ, List.getElem_cons_zero, Act.put, List.setIfInBounds_toArray, List.set_cons_zero, List.set_cons_succ]
      refine take_at 19 (by kernel_rfl) (v := ?v18) (by kernel_rfl) (by kernel_rfl) (by kernel_rfl) (fun _ _ _ h => h) (by rfl) ?y18 (by assumption) ?r18
      case y18 => (intro w hSw; (try dsimp only at hSw); (try (obtain ⟨hSa, hSb, hSc, hSd⟩ := hSw)); simp only [List.getElem_cons_succ, List.getElem_cons_zero]; go_simp; (try with_reducible rfl))
      try simp only [List.getElem_cons_succ, List.getElem_cons_zero, Act.put, List.setIfInBounds_toArray, List.set_cons_zero, List.set_cons_succ]
      refine take_at 20 (by kernel_rfl) (v := ?v19) (by kernel_rfl) (by kernel_rfl) (by kernel_rfl) (fun _ _ _ h => h) (by rfl) ?y19 (by assumption) ?r19
      case y19 => (intro w hSw; (try dsimp only at hSw); (try (obtain ⟨hSa, hSb, hSc, hSd⟩ := hSw)); simp only [List.getElem_cons_succ, List.getElem_cons_zero]; go_simp; (try with_reducible rfl))
      try simp only [List.getElem_cons_succ, List.getElem_cons_zero, Act.put, List.setIfInBounds_toArray, List.set_cons_zero, List.set_cons_succ]
      refine ready_at 18 (by kernel_rfl) (by kernel_rfl) (fun K hK => ?_)
      simp only [List.getElem_cons_succ, List.getElem_cons_zero]
      go_simp
      go_at_call 13
      refine (Wr.same x y hi hb _ (GI.out _ (L7.out _ D3.out)) (GB.out _ (L7.out _ D3.out)) FX.out FY.out).mono ?_
      rw [← HSM.out]
      rintro e_ v4 ⟨rfl, hb_⟩
      have D4 := Lib.hid (D3.out.trans (hb_.mono D3.out.size))
      clear hb_
      (try go_wp2_with fail)
      refine hK.out _ _ (SS.out _ D4.out) (fun hHeld => ?_)
      clear hK K
      try simp only [List.getElem_cons_succ, List.getElem_cons_zero, Act.put, List.setIfInBounds_toArray, List.set_cons_zero, List.set_cons_succ]
      refine ready_at 21 (by kernel_rfl) (by kernel_rfl) (fun K hK => ?_)
      simp only [List.getElem_cons_succ, List.getElem_cons_zero]
      go_simp
      go_at_call 14
      refine (RS x y h k _ (GX.out _ (L5.out _ (L7.out _ D4.out))) (GY.out _ (L5.out _ (L7.out _ D4.out)))).mono ?_
      rw [← HSM.out]
      rintro e_ v5 ⟨rfl, hb_⟩
      have D5 := Lib.hid (D4.out.trans (hb_.mono D4.out.size))
      clear hb_
      (try go_wp2_with fail)
      refine hK.out _ _ (SS.out _ D5.out) (fun hHeld => ?_)
      clear hK K
      try simp only [List.getElem_cons_succ, List.getElem_cons_zero, Act.put, List.setIfInBounds_toArray, List.set_cons_zero, List.set_cons_succ]
      refine take_at 22 (by kernel_rfl) (v := ?v20) (by kernel_rfl) (by kernel_rfl) (by kernel_rfl) (fun _ _ _ h => h) (by rfl) ?y20 (by assumption) ?r20
      case y20 => (intro w hSw; (try dsimp only at hSw); (try (obtain ⟨hSa, hSb, hSc, hSd⟩ := hSw)); simp only [List.getElem_cons_succ, List.getElem_cons_zero]; go_simp; (try with_reducible rfl))
      try simp only [List.getElem_cons_succ, List.getElem_cons_zero, Act.put, List.setIfInBounds_toArray, List.set_cons_zero, List.set_cons_succ]
      refine take_at 23 (by kernel_rfl) (v := ?v21) (by kernel_rfl) (by kernel_rfl) (by kernel_rfl) (fun _ _ _ h => h) (by rfl) ?y21 (by assumption) ?r21
      case y21 => (intro w hSw; (try dsimp only at hSw); (try (obtain ⟨hSa, hSb, hSc, hSd⟩ := hSw)); simp only [List.getElem_cons_succ, List.getElem_cons_zero]; go_simp; (try with_reducible rfl))
      try simp only [List.getElem_cons_succ, List.getElem_cons_zero, Act.put, List.setIfInBounds_toArray, List.set_cons_zero, List.set_cons_succ]
      refine take_at 24 (by kernel_rfl) (v := ?v22) (by kernel_rfl) (by kernel_rfl) (by kernel_rfl) (fun _ _ _ h => h) (by rfl) ?y22 (by assumption) ?r22
      case y22 => (intro w hSw; (try dsimp only at hSw); (try (obtain ⟨hSa, hSb, hSc, hSd⟩ := hSw)); simp only [List.getElem_cons_succ, List.getElem_cons_zero]; go_simp; (try with_reducible rfl))
      try simp only [List.getElem_cons_succ, List.getElem_cons_zero, Act.put, List.setIfInBounds_toArray, List.set_cons_zero, List.set_cons_succ]
      refine wpAnyH_done (by kernel_rfl) ?_ _
      go_wp2_with fail
      go_meet
      case rel => exact ⟨rfl, D5⟩
    case rest =>
      obtain ⟨rfl, D8⟩ := hcut
      generalize wc = w8 at *
      have C8 := Lib.hid (L7.out w8 D8.out)
      have O8 := Lib.hid (own8Q O7.out D8.out)
      clear D8 O7 AA AB L7 C7
      go_wp2_with fail
      refine (over_any w5.heap.size _ m _ w8 O8.out).mono ?_
      rintro e9 w9 ⟨rfl, hb9⟩
      have C9 := Lib.hid (C8.out.trans hb9)
      clear hb9 O8 C8
      have li := LI.out w9 C9.out
      have lx := LX.out w9 (L5.out w9 C9.out)
      go_wp2_with fail
      refine (SN x x hi h w9 (GI.out w9 C9.out) (GX.out w9 (L5.out w9 C9.out))).mono ?_
      rw [decide_eq_true (rfl : x = x)]
      rintro e10 w10 ⟨rfl, hb10⟩
      have C10 := Lib.hid (C9.out.trans (hb10.mono C9.out.size))
      clear hb10 li lx
      have li := LB.out w10 C10.out
      have lx := LY.out w10 (L5.out w10 C10.out)
      go_wp2_with fail
      refine (SN y y hb k w10 (GB.out w10 C10.out) (GY.out w10 (L5.out w10 C10.out))).mono ?_
      rw [decide_eq_true (rfl : y = y)]
      rintro e11 w11 ⟨rfl, hb11⟩
      have C11 := Lib.hid (C10.out.trans (hb11.mono C10.out.size))
      clear hb11 li lx
      go_wp2_with fail
      refine (wawake_any Wr F w11).mono ?_
      rintro e12 w12 ⟨rfl, hb12⟩
      have C12 := Lib.hid (C11.out.trans (hb12.mono C11.out.size))
      clear hb12
      go_wp2_with fail
      go_ret
      exact ⟨rfl, B0.out.trans ((L5.out w12 C12.out).mono B0.out.size)⟩
end
end
end Go.Proofs.YtbogjfmefkhglaaGreat
