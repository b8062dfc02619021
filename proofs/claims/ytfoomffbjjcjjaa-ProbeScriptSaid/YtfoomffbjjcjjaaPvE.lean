/-
  The program's Next.
-/
import Derived.Test.YtfoomffbjjcjjaaPvQ
import Derived.BigQuiet
import Derived.Deep.QuietTactic
import Derived.Deep.RegionLaw
namespace Go.Proofs.Ytfoomffbjjcjjaa
set_option linter.unusedSimpArgs false
set_option linter.unusedVariables false
open Go.RowKit Sha Lot
/-- An order told anew: the row that permuted makes, from the round's own. -/
theorem perm_of {w0 w : World} {f0 fp fl : List Nat} {b t n c N' : Nat} {L Ls : List Int} {lv : Value} {q : Option Addr} (h : PLx w0 w f0 b fp L t (.slice q n c) lv fl Ls N') (hn : L.length = n) (hn64 : n ≤ 64) (N : Nat) (Bs : Nat) (p : Option Addr) (d : Nat) (hnd : NdI p n d (shuf Ls N n) Bs 0 w) :
    Calls Try.prog 28 #[.slice q n c, .func (.func 49) #[] #[.pointer (some ⟨Bs, 0, none⟩)]] w (PermDone (Rd.ordered L Ls N) w) := by
  obtain ⟨q', c', hv, _, hA, _⟩ := h.rr.cells
  injection hv with h1 h2 h3
  subst h1 h3
  have ho := Rd.shuf_order (Ls := Ls) (N := N) hn64
  have := permuted_any L (shuf Ls N n) n n q p c d Bs hn ho.1 (by omega) (by omega) ho.2.1 w hA hnd
  unfold Rd.ordered
  rw [hn]
  exact this
section
attribute [local go_sem ↓] execOp_sliceI execOp_buildI
set_option maxRecDepth 100000 in
set_option maxHeartbeats 4000000 in
theorem pnext_any (b : Nat) (fp : List Nat) (s : Rd.St) (lv : Value) (fl : List Nat) (Ls : List Int) (N : Nat) (w : World) (h : PRep w b fp s) (hl : LArg ProgLot w lv fl Ls N) (ha : Apart fp fl) (hN : N ≤ 1000000000) :
    Calls Try.prog 20 #[optr b, lv] w (PbDone PRep ProgLot b fp lv fl Ls (Rd.nextS s Ls N) (Rd.nextN s N) (v64 (Rd.nextV s Ls N)) w) := by
  obtain ⟨⟨v, hr⟩, hok⟩ := h
  have HOK := Lib.hid (Rd.next_OK hok Ls N)
  have hn64 := hok.len
  have X := Lib.hid (PLx.start hr hl ha)
  obtain ⟨q, c, rfl, hb, hA, l1, l2, _⟩ := hr.cells
  unfold maxLen at l2
  have HNO := Lib.hid (rnone_any b _ w hb)
  have c0 : w.cell? ⟨b, 1, none⟩ = some (.slice q s.L.length c) := hb.cell 1
  have c1 : w.cell? ⟨b, 2, none⟩ = some (v64 s.t) := hb.cell 2
  clear hr hl ha hb hA
  by_cases hnil : s.L = []
  · have hS : Rd.nextS s Ls N = s := if_pos hnil
    have hV : Rd.nextV s Ls N = 0 := if_pos hnil
    have hNN : Rd.nextN s N = N := if_pos hnil
    rw [hS] at HOK ⊢
    rw [hV, hNN]
    have h0 : s.L.length = 0 := by rw [hnil]; rfl
    have hD := X.out.pdone (u := v64 0) hok
    rw [h0] at c0
    have D := Lib.hid hD
    clear hD X hok hnil hS hV hNN h0 c1
    go_enter Try.func20, Try.ntmps20
    go_wp2_with fail
    refine HNO.out.mono ?_
    rintro e w' ⟨rfl, hw⟩
    obtain rfl := hw.symm
    clear hw HNO
    go_wp2_with fail
    go_ret
    exact D.out
  · have h0 : 0 < s.L.length := List.length_pos_iff.2 hnil
    have hS : Rd.nextS s Ls N = ⟨(Rd.again s Ls N).L, (Rd.again s Ls N).t + 1⟩ := if_neg hnil
    have hV : Rd.nextV s Ls N = (Rd.again s Ls N).L.getD (Rd.again s Ls N).t 0 := if_neg hnil
    have hNN : Rd.nextN s N = Rd.againN s N := if_neg hnil
    have hlt := Rd.again_lt hok hnil Ls N
    have hal := Rd.again_len hok Ls N
    rw [hS] at HOK ⊢
    rw [hV, hNN]
    have t0 : ((s.L.length : Int) == 0) = false := by rw [beq_eq_false_iff_ne]; omega
    have t0' : (s.L.length == 0) = false := by rw [beq_eq_false_iff_ne]; omega
    by_cases ht : s.t = s.L.length
    · have hA1 : Rd.again s Ls N = ⟨Rd.ordered s.L Ls N, 0⟩ := if_pos ht
      have hA2 : Rd.againN s N = N + shufN s.L.length := if_pos ht
      rw [hA1] at HOK hlt hal ⊢
      rw [hA2]
      obtain ⟨L, t⟩ := s
      dsimp only at *
      subst ht
      have t1 : ((L.length : Int) == (L.length : Int)) = true := by simp
      obtain ⟨m, hm⟩ : ∃ m, m = L.length := ⟨_, rfl⟩
      have HSH := Lib.hid (fun W f0 (hX : PLx w W f0 b fp L L.length (.slice q L.length c) lv fl Ls N) => shuffled_any lv fl Ls N L.length W hX.lt hN hn64)
      have HPM := Lib.hid (fun W fl' N' f0 (hX : PLx w W f0 b fp L L.length (.slice q L.length c) lv fl' Ls N') Bs p d hnd => perm_of hX rfl hn64 N Bs p d hnd)
      have HYL := Lib.hid (show (Rd.ordered L Ls N).length = L.length from hal)
      generalize Rd.ordered L Ls N = ys at *
      obtain ⟨x, hx⟩ : ∃ x, ys[0] = x := ⟨_, rfl⟩
      have HX := Lib.hid hx
      rw [show ys.getD 0 0 = x from by rw [List.getD_eq_getElem?_getD, List.getElem?_eq_getElem hlt]; exact hx]
      clear hx
      rw [← hm] at hn64 l1 c0 c1 h0 t0 t0' X t1 hal HSH HPM HYL ⊢
      have HM := Lib.hid hm
      clear hS hV hNN hA1 hA2 hnil hok hm
      go_enter Try.func20, Try.ntmps20
      go_wp2_with fail
      refine HNO.out.mono ?_
      rintro e w' ⟨rfl, hw⟩
      obtain rfl := hw.symm
      clear hw HNO
      go_wp2_with fail
      go_quiet (fail)
      have X1 := Lib.hid (X.out.on (below_drewN (Below.refl _ _) nq))
      clear X c0 c1
      generalize w.drewN nq = w1 at *
      have X1D := Lib.hid (X1.out.on (Below.refl _ _).drew)
      have HSW := Lib.hid (HSH.out w1.drew _ X1D.out)
      have c0 : w1.drew.cell? ⟨b, 1, none⟩ = some (.slice q m c) := X1D.out.rr.blk.cell 1
      clear HSH
      go_wp2_with fail
      go_region_law (first
        | (go_simp; go_at_call 29; refine HSW.out.mono ?_; rintro e wA ⟨Bs, p, d, fl2, rfl, hnd, hlg, ht, hf⟩; have X2 := Lib.hid (X1D.out.lots hlg ht hf); have ND := Lib.hid hnd; have cA : wA.cell? ⟨b, 1, none⟩ = some (.slice q m c) := X2.out.rr.blk.cell 1; clear hnd hlg ht hf)
        | (go_simp; go_at_call 28; refine (HPM.out _ _ _ _ X2.out _ _ _ ND.out).mono ?_; rintro e wB ⟨v6, rfl, ho6, hb6⟩; rw [HYL.out] at ho6; (have X3 := Lib.hid (X2.out.on hb6)); (have X4 := Lib.hid (X3.out.row ho6 HYL.out X2.out.rr.low X2.out.touch.size (fun g e hin => by have h1 := (own_base_w ho6 g e).1; have h2 := larg_low X2.out.lt g hin; omega))); (obtain ⟨p2, k2, hv2, g1, g2, _⟩ := own_at_s ho6); subst hv2; unfold maxLen at g2; (have cB : wB.cell? ⟨b, 1, none⟩ = some (.slice q m c) := X3.out.rr.blk.cell 1); (have fB : wB.frozen? ⟨b, 1, none⟩ = false := X3.out.rr.blk.free 1); (obtain ⟨w3, e3⟩ : ∃ y, wB.setCell ⟨b, 1, none⟩ (.slice p2 m k2) = y := ⟨_, rfl⟩); rw [e3] at X4; (have c3 : w3.cell? ⟨b, 2, none⟩ = some (v64 m) := X4.out.rr.blk.cell 2); (have f3 : w3.frozen? ⟨b, 2, none⟩ = false := X4.out.rr.blk.free 2); clear ho6 hb6))
      all_goals
        have X5 := Lib.hid (show PLx w (w3.setCell ⟨b, 2, none⟩ (.int .i64 0)) _ b _ ys 0 (.slice p2 m k2) lv fl2 Ls (N + shufN m) from X4.out.tell 0)
        obtain ⟨w4, e4⟩ : ∃ y, w3.setCell ⟨b, 2, none⟩ (.int .i64 0) = y := ⟨_, rfl⟩
        rw [e4] at X5
        rw [e4]
        have c4 : w4.cell? ⟨b, 2, none⟩ = some (.int .i64 0) := X5.out.rr.blk.cell 2
        have f4 : w4.frozen? ⟨b, 2, none⟩ = false := X5.out.rr.blk.free 2
        have X6 := Lib.hid (show PLx w (w4.setCell ⟨b, 2, none⟩ (.int .i64 1)) _ b _ ys 1 (.slice p2 m k2) lv fl2 Ls (N + shufN m) from X5.out.tell 1)
        obtain ⟨w5, e5⟩ : ∃ y, w4.setCell ⟨b, 2, none⟩ (.int .i64 1) = y := ⟨_, rfl⟩
        rw [e5] at X6
        have hy0 : 0 < ys.length := hlt
        obtain ⟨q5, k5, hv5, _, hA5, _⟩ := X6.out.rr.cells
        injection hv5 with h51 h52 h53
        subst h51 h53
        clear h52
        obtain ⟨g5, o5, rfl, hc5⟩ := hA5.addr (by rw [List.length_map]; exact hy0)
        have d0 : w5.cell? ⟨b, 1, none⟩ = some (.slice (some ⟨g5, o5, none⟩) m k2) := X6.out.rr.blk.cell 1
        have d1 : w5.cell? ⟨b, 2, none⟩ = some (.int .i64 1) := X6.out.rr.blk.cell 2
        have d2 : w5.cell? ⟨g5, o5, none⟩ = some (v64 x) := by have := hc5 0 _ (pn64_at hy0); rw [HX.out] at this; simpa using this
        have j1 : (0 : Int) < (m : Int) := by omega
        clear hc5 hA5 X1 X1D X2 X3 X4 X5 HSW HPM ND cA cB fB c3 f3 c0
        go_wp2_with fail
        go_quiet (fail)
        have X7 := Lib.hid (X6.out.on (below_drewN (Below.refl _ _) nq))
        generalize w5.drewN nq = w6 at *
        go_wp2_with fail
        go_ret
        exact X7.out.pdone (s' := ⟨ys, 0 + 1⟩) HOK.out
    · have hA1 : Rd.again s Ls N = s := if_neg ht
      have hA2 : Rd.againN s N = N := if_neg ht
      rw [hA1] at HOK hlt hal ⊢
      rw [hA2]
      obtain ⟨L, t⟩ := s
      dsimp only at *
      have t1 : ((t : Int) == (L.length : Int)) = false := by rw [beq_eq_false_iff_ne]; omega
      have t1' : (t == L.length) = false := by rw [beq_eq_false_iff_ne]; exact ht
      have hg0 : L.getD t 0 = L[t] := by rw [List.getD_eq_getElem?_getD, List.getElem?_eq_getElem hlt]; rfl
      rw [hg0]
      have HLT := Lib.hid hlt
      have i1 : IntKind.i64.wrap ((t : Int) + 1) = (t : Int) + 1 := IntWalk.i64_in _ (by omega)
      have i2 : IntKind.i64.wrap ((t : Int) + 1 - 1) = (t : Int) := by rw [IntWalk.i64_in _ (by omega)]; omega
      have j1 : (0 : Int) ≤ (t : Int) ∧ (t : Int) < (L.length : Int) := by omega
      have HC := Lib.hid (fun W f0 (hX : PLx w W f0 b fp L (t + 1) (.slice q L.length c) lv fl Ls N) => (show ∃ g o, q = some ⟨g, o, none⟩ ∧ W.cell? ⟨b, 1, none⟩ = some (.slice q L.length c) ∧ W.cell? ⟨b, 2, none⟩ = some (.int .i64 ((t : Int) + 1)) ∧ W.cell? ⟨g, o + t, none⟩ = some (v64 L[t]) from by
        obtain ⟨q', c', hv, hb, hA, _⟩ := hX.rr.cells
        cases hv
        obtain ⟨g, o, hq, hc⟩ := hA.addr (by rw [List.length_map]; omega)
        exact ⟨g, o, hq, hb.cell 1, hb.cell 2, hc t _ (pn64_at HLT.out)⟩))
      generalize L[t] = x at *
      obtain ⟨m, hm⟩ : ∃ m, m = L.length := ⟨_, rfl⟩
      rw [← hm] at hn64 l1 c0 h0 t0 t0' X t1 t1' j1 HC ht
      clear hS hV hNN hA1 hA2 hnil hok hg0 hal hlt hm
      go_enter Try.func20, Try.ntmps20
      go_wp2_with fail
      refine HNO.out.mono ?_
      rintro e w' ⟨rfl, hw⟩
      obtain rfl := hw.symm
      clear hw HNO
      go_wp2_with fail
      go_quiet (fail)
      have X1 := Lib.hid (X.out.on (below_drewN (Below.refl _ _) nq))
      clear X c0 c1
      generalize w.drewN nq = w1 at *
      have c1 : w1.cell? ⟨b, 2, none⟩ = some (v64 t) := X1.out.rr.blk.cell 2
      have f1 : w1.frozen? ⟨b, 2, none⟩ = false := X1.out.rr.blk.free 2
      have X5 := Lib.hid (show PLx w (w1.setCell ⟨b, 2, none⟩ (.int .i64 ((t : Int) + 1))) _ b _ L (t + 1) (.slice q m c) lv fl Ls N from X1.out.tell (t + 1))
      obtain ⟨w5, e5⟩ : ∃ y, w1.setCell ⟨b, 2, none⟩ (.int .i64 ((t : Int) + 1)) = y := ⟨_, rfl⟩
      rw [e5] at X5
      obtain ⟨g5, o5, rfl, d0, d1, d2⟩ := HC.out _ _ X5.out
      clear X1 HC
      go_wp2_with fail
      go_quiet (fail)
      have X6 := Lib.hid (X5.out.on (below_drewN (Below.refl _ _) nq))
      generalize w5.drewN nq = w6 at *
      go_wp2_with fail
      go_ret
      exact X6.out.pdone (s' := ⟨L, t + 1⟩) HOK.out
end
end Go.Proofs.Ytfoomffbjjcjjaa
