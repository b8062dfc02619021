/-
  The reference's shuffled, the round and lots side by side, Next (RpB, RpC in one).
-/
import Derived.Test.YtfoomffbjjcjjaaRpA
import Derived.Test.YtfoomffbjjcjjaaLtB
namespace Go.Proofs.Ytfoomffbjjcjjaa
set_option linter.unusedSimpArgs false
set_option linter.unusedVariables false
open Go.RowKit Sha Lot
theorem refRepR : ∀ {w w' : World} {b fp L N}, RefLot w b fp L N → Below w.heap.size w w' → RefLot w' b fp L N := fun h hb => refLotOK.keep h fun k hk => hb.block k (refLotOK.low h k hk)
def ShdDone (bl : Nat) (fl : List Nat) (Ls : List Int) (N : Nat) (n : Nat) (ys : List Int) (w : World) (e : Ending) (w' : World) : Prop :=
  ∃ v fl', e = .returned v ∧ w'.ownsRow w.heap.size it 1 v n (ys.map v64) ∧ RefLot w' bl fl' Ls (N + shufN n) ∧ Touch fl w w' ∧ From fl fl' w ∧ ∀ g, v.ownBlock = some g → g ∉ fl'
section
attribute [local go_sem ↓] execOp_sliceI execOp_buildI
set_option maxRecDepth 100000 in
set_option maxHeartbeats 4000000 in
theorem rshd_any (xs : List Int) (n : Nat) (q : Option Addr) (c : Nat) (bl : Nat) (fl : List Nat) (Ls : List Int) (N : Nat) (w : World) (hn : xs.length = n) (hA : At w q (xs.map v64)) (hq : ∀ a, q = some a → a.block ∉ fl ∧ a.block < w.heap.size) (hc : n ≤ c) (hcm : c ≤ maxLen) (hn64 : n ≤ 64) (h : RefLot w bl fl Ls N) (hN : N ≤ 1000000000) :
    Calls Try.prog 31 #[.slice q n c, lptr bl] w (ShdDone bl fl Ls N n (Rd.ordered xs Ls N) w) := by
  have HSH := Lib.hid (refLotOK.shuffle bl fl Ls N n w h hN (by omega))
  have HA := Lib.hid hA
  have HQ := Lib.hid hq
  unfold maxLen at hcm
  have hod : Rd.ordered xs Ls N = (shuf Ls N n).map (fun i => xs.getD i.toNat 0) := by unfold Rd.ordered; rw [hn]
  have HO := Lib.hid (show ∀ j, j < n → ∃ (k : Nat) (hk : k < xs.length), (shuf Ls N n)[j]? = some (k : Int) ∧ (Rd.ordered xs Ls N)[j]? = some xs[k] from fun j hj => by
    obtain ⟨h1, h2, _⟩ := Rd.shuf_order (Ls := Ls) (N := N) hn64
    have hj2 : j < (shuf Ls N n).length := by omega
    have hb := h2 _ (List.getElem_mem hj2)
    refine ⟨(shuf Ls N n)[j].toNat, by omega, by rw [List.getElem?_eq_getElem hj2]; congr 1; omega, ?_⟩
    rw [hod, List.getElem?_map, List.getElem?_eq_getElem hj2]
    show some (xs.getD (shuf Ls N n)[j].toNat 0) = _
    rw [List.getD_eq_getElem?_getD, List.getElem?_eq_getElem (by omega)]
    rfl)
  have HL := Lib.hid (show (shuf Ls N n).length = n from (Rd.shuf_order (Ls := Ls) (N := N) hn64).1)
  have HYL := Lib.hid (show (Rd.ordered xs Ls N).length = n from by rw [Rd.ordered_len (by omega), hn])
  have HXN := Lib.hid hn
  clear h hA hq hn hod
  generalize Rd.ordered xs Ls N = ys at *
  generalize shuf Ls N n = od at *
  go_enter Try.func31, Try.ntmps31
  go_wp2_with fail
  refine HSH.out.mono ?_
  rintro e w1 ⟨va, fl1, rfl, ho, hr, ht, hf, hg⟩
  obtain ⟨qa, ca, hva, l1, l2, hAa, _, _⟩ := own_at_s ho.row
  subst hva
  rw [HL.out] at l1 ⊢
  unfold maxLen at l2
  have HA1 := Lib.hid (HA.out.blocks fun a e => ht.block a.block (HQ.out a e).2 (HQ.out a e).1)
  have HAO := Lib.hid hAa
  have HR1 := Lib.hid hr
  have HT1 := Lib.hid ht
  have HF1 := Lib.hid hf
  clear ho hr ht hf hg hAa HA HQ HSH
  go_wp2_with fail
  go_loopw [5, 7] (fun v iv wr => ∃ j : Nat, iv = .int .i64 j ∧ j ≤ n ∧ Hid (Below w1.heap.size w1 wr) ∧ Hid (wr.ownsRow w1.heap.size it 1 v j ((ys.take j).map v64))) (fun _ iv _ => n - (intOf iv).toNat)
  case atStart => exact ⟨0, rfl, by omega, Lib.hid (Below.refl _ _), Lib.hid (World.ownsRow_nil _ _ _ _)⟩
  case round =>
    obtain ⟨j, rfl, hj, HB, HV⟩ := hrel
    by_cases hlt : j < n
    · obtain ⟨k, hk, ho1, ho2⟩ := HO.out j hlt
      obtain ⟨ga, oa, rfl, hca⟩ := (HAO.out.below HB.out).addr (by rw [List.length_map, HL.out]; omega)
      obtain ⟨gx, ox, rfl, hcx⟩ := (HA1.out.below HB.out).addr (by rw [List.length_map]; omega)
      have c1 := hca j (v64 k) (by rw [List.getElem?_map, ho1]; rfl)
      have c2 := hcx k (v64 xs[k]) (n64_at hk)
      have hkn : k < n := by rw [← HXN.out]; exact hk
      have hys : ys.take (j + 1) = ys.take j ++ [xs[k]] := by
        have hjl : j < ys.length := by rw [HYL.out]; exact hlt
        rw [List.take_succ_eq_append_getElem hjl]
        congr 2
        rw [List.getElem?_eq_getElem hjl] at ho2
        exact Option.some.inj ho2
      have HYS := Lib.hid (show (ys.take j).map v64 ++ [v64 xs[k]] = (ys.take (j + 1)).map v64 from by rw [hys, List.map_append]; rfl)
      generalize xs[k] = x at *
      have j1 : (0 : Int) ≤ (j : Int) ∧ (j : Int) < (n : Int) := by omega
      have j2 : (0 : Int) ≤ (k : Int) ∧ (k : Int) < (n : Int) := by omega
      obtain ⟨p5, c5, hv5, _, _, _, _, _⟩ := own_at_s HV.out
      subst hv5
      have cI := run_buildI1 wr x
      have B2 := Lib.hid (below_next HB.out ((Below.refl wr.heap.size wr).alloc (Nat.le_refl _) (.cells #[.int .i64 x] it)))
      have V2 := Lib.hid (ownsRow_keepR HV.out fun g e => ((Below.refl wr.heap.size wr).alloc (Nat.le_refl _) (.cells #[.int .i64 x] it)).block g (own_base_w HV.out g e).2)
      have HA2 := Lib.hid (at_newR wr [.int .i64 x] it)
      generalize wr.alloc (.cells #[.int .i64 x] it) = w2 at *
      clear hca hcx ho1 ho2 hys HB HV hk
      go_wp2_with (refine wpList_app_s rfl _ _ 22 rfl w1.heap.size it (z := .int .i64 0) (by decide) Try.underlying22 knum_info rfl _ j _ rfl V2.out (some ⟨wr.heap.size, 0, none⟩) 1 1 [.int .i64 x] rfl HA2.out rfl (fun h => by cases h) (Nat.le_refl _) (by intro u hu; rw [List.mem_singleton.1 hu]; rfl) (by omega) (by unfold maxLen; omega) B2.out.size ?_; intro v7 w7 hv7 hg7 hb7; have V7 := Lib.hid hv7; have B7 := Lib.hid (grown_below B2.out hg7 (fun g e => (own_base_w V2.out g e).1) B2.out.size); clear hv7 hg7 hb7)
      rw [HYS.out] at V7
      go_roundw
      case rel => exact ⟨j + 1, by go_num, by omega, B7, V7⟩
      case measure => simp [intOf]; omega
    · obtain rfl : j = n := by omega
      have hyn : ys.take j = ys := List.take_of_length_le (by rw [HYL.out]; exact Nat.le_refl _)
      rw [hyn] at HV
      go_wp2_with fail
      go_ret
      refine ⟨_, fl1, rfl, own_lessR HV.out HT1.out.size, refRepR HR1.out HB.out, HT1.out.trans (Touch.of_below (fp := fl) HB.out) (From.refl _ _), HF1.out, fun g e hin => ?_⟩
      have h1 := (own_base_w HV.out g e).1
      have h2 := refLotOK.low HR1.out g hin
      omega
end
/-- A round and lots, apart; what a call has touched. -/
structure RLx (w0 w : World) (f0 : List Nat) (b : Nat) (fp : List Nat) (L : List Int) (t : Nat) (v : Value) (bl : Nat) (fl : List Nat) (Ls : List Int) (N : Nat) : Prop where
  rr : RRaw w b fp L t v
  lt : RefLot w bl fl Ls N
  ap : Apart fp fl
  touch : Touch f0 w0 w
  from_ : From f0 (fp ++ fl) w0
section
variable {w0 w w' : World} {f0 fp fl fl' : List Nat} {b bl t N N' : Nat} {L Ls Q : List Int} {v v6 : Value}
theorem RLx.start (hr : RRaw w b fp L t v) (hl : RefLot w bl fl Ls N) (ha : Apart fp fl) : RLx w w (fp ++ fl) b fp L t v bl fl Ls N := ⟨hr, hl, ha, Touch.refl _ _, From.refl _ _⟩
theorem RLx.on (h : RLx w0 w f0 b fp L t v bl fl Ls N) (hb : Below w.heap.size w w') : RLx w0 w' f0 b fp L t v bl fl Ls N :=
  ⟨h.rr.on hb, refRepR h.lt hb, h.ap, h.touch.trans (Touch.of_below (fp := f0) hb) (From.refl _ _), h.from_⟩
theorem RLx.lots (h : RLx w0 w f0 b fp L t v bl fl Ls N) (hl : RefLot w' bl fl' Ls N') (ht : Touch fl w w') (hf : From fl fl' w) : RLx w0 w' f0 b fp L t v bl fl' Ls N' := by
  refine ⟨h.rr.keep (ht.keep h.ap.symm h.rr.low), hl, fun k a c => ?_, h.touch.trans ht fun k hk => h.from_ k (List.mem_append.2 (.inr hk)), fun k hk => ?_⟩
  · rcases hf k c with h1 | h1
    · exact h.ap k a h1
    · have := h.rr.low k a; omega
  · rcases List.mem_append.1 hk with h1 | h1
    · exact h.from_ k (List.mem_append.2 (.inl h1))
    · rcases hf k h1 with h2 | h2
      · exact h.from_ k (List.mem_append.2 (.inr h2))
      · exact .inr (Nat.le_trans h.touch.size h2)
theorem RLx.setB (h : RLx w0 w f0 b fp L t v bl fl Ls N) (i : Nat) (x : Value) : RefLot (w.setCell ⟨b, i, none⟩ x) bl fl Ls N ∧ Touch f0 w0 (w.setCell ⟨b, i, none⟩ x) :=
  ⟨refLotOK.keep h.lt fun k hk => Below.heap_setCell _ _ _ _ (fun e => h.ap b h.rr.mem ((show k = b from e) ▸ hk)), h.touch.trans (Touch.setCell (fp := [b]) (by simp)) fun k hk => by rw [List.mem_singleton.1 hk]; exact h.from_ b (List.mem_append.2 (.inl h.rr.mem))⟩
theorem RLx.row (h : RLx w0 w f0 b fp L t v bl fl Ls N) {n B : Nat} (O : w.ownsRow B it 1 v6 n (Q.map v64)) (hn : Q.length = n) (hB : ∀ k ∈ fp, k < B) (hB0 : w0.heap.size ≤ B) (hg : ∀ g, v6.ownBlock = some g → g ∉ fl) : RLx w0 (w.setCell ⟨b, 0, none⟩ v6) f0 b (b :: v6.ownBlock.toList) Q t v6 bl fl Ls N := by
  obtain ⟨h1, h2⟩ := h.setB 0 v6
  have h5 := own_base_w O
  have hb := hB b h.rr.mem
  subst hn
  refine ⟨⟨rfl, h.rr.blk.set 0 _, ownsRow_keepR (own_lessR O (Nat.zero_le _)) fun g e => Below.heap_setCell _ _ _ _ (fun e2 => by have e2 : g = b := e2; have := (h5 g e).1; omega), fun e => by have := (h5 b e).1; omega⟩, h1, fun k a c => ?_, h2, fun k hk => ?_⟩
  · rcases List.mem_cons.1 a with rfl | a
    · exact h.ap k h.rr.mem c
    · exact hg k (by simpa using a) c
  · rcases List.mem_append.1 hk with h3 | h3
    · rcases List.mem_cons.1 h3 with rfl | h3
      · exact h.from_ k (List.mem_append.2 (.inl h.rr.mem))
      · exact .inr (Nat.le_trans hB0 (h5 k (by simpa using h3)).1)
    · exact h.from_ k (List.mem_append.2 (.inr h3))
theorem RLx.tell (h : RLx w0 w f0 b fp L t v bl fl Ls N) (t' : Nat) : RLx w0 (w.setCell ⟨b, 1, none⟩ (v64 t')) f0 b fp L t' v bl fl Ls N := by
  obtain ⟨h1, h2⟩ := h.setB 1 (v64 t')
  exact ⟨(h.rr.told t').1, h1, h.ap, h2, h.from_⟩
end
/-- A call on a round with lots. -/
def RLDone (b : Nat) (fp : List Nat) (bl : Nat) (fl : List Nat) (Ls : List Int) (s' : Rd.St) (N' : Nat) (v : Value) (w : World) (e : Ending) (w' : World) : Prop :=
  e = .returned v ∧ ∃ fp' fl', RRep w' b fp' s' ∧ RefLot w' bl fl' Ls N' ∧ Apart fp' fl' ∧ Touch (fp ++ fl) w w' ∧ From (fp ++ fl) (fp' ++ fl') w
theorem RLx.done {w w' : World} {fp fp' fl fl' : List Nat} {b bl N' : Nat} {Ls : List Int} {s' : Rd.St} {v u : Value} (h : RLx w w' (fp ++ fl) b fp' s'.L s'.t v bl fl' Ls N') (ho : Rd.OK s') : RLDone b fp bl fl Ls s' N' u w (.returned u) w' :=
  ⟨rfl, fp', fl', ⟨⟨v, h.rr⟩, ho⟩, h.lt, h.ap, h.touch, h.from_⟩
section
attribute [local go_sem ↓] execOp_sliceI execOp_buildI
set_option maxRecDepth 100000 in
set_option maxHeartbeats 4000000 in
theorem rnext_any (b : Nat) (fp : List Nat) (s : Rd.St) (bl : Nat) (fl : List Nat) (Ls : List Int) (N : Nat) (w : World) (h : RRep w b fp s) (hl : RefLot w bl fl Ls N) (ha : Apart fp fl) (hN : N ≤ 1000000000) :
    Calls Try.prog 32 #[optr b, lptr bl] w (RLDone b fp bl fl Ls (Rd.nextS s Ls N) (Rd.nextN s N) (v64 (Rd.nextV s Ls N)) w) := by
  obtain ⟨⟨v, hr⟩, hok⟩ := h
  have HOK := Lib.hid (Rd.next_OK hok Ls N)
  have hn64 := hok.len
  have X := Lib.hid (RLx.start hr hl ha)
  obtain ⟨q, c, rfl, hb, hA, l1, l2, _⟩ := hr.cells
  unfold maxLen at l2
  have c0 : w.cell? ⟨b, 0, none⟩ = some (.slice q s.L.length c) := hb.cell 0
  have c1 : w.cell? ⟨b, 1, none⟩ = some (v64 s.t) := hb.cell 1
  clear hr hl ha hb hA
  by_cases hnil : s.L = []
  · have hS : Rd.nextS s Ls N = s := if_pos hnil
    have hV : Rd.nextV s Ls N = 0 := if_pos hnil
    have hNN : Rd.nextN s N = N := if_pos hnil
    rw [hS] at HOK ⊢
    rw [hV, hNN]
    have h0 : s.L.length = 0 := by rw [hnil]; rfl
    have hD := X.out.done (u := v64 0) hok
    rw [h0] at c0
    have D := Lib.hid hD
    clear hD X hok hnil hS hV hNN h0 c1
    go_enter Try.func32, Try.ntmps32
    go_wp2_with fail
    go_ret
    exact D.out
  · have h0 : 0 < s.L.length := List.length_pos_iff.2 hnil
    have hS : Rd.nextS s Ls N = ⟨(Rd.again s Ls N).L, (Rd.again s Ls N).t + 1⟩ := if_neg hnil
    have hV : Rd.nextV s Ls N = (Rd.again s Ls N).L.getD (Rd.again s Ls N).t 0 := if_neg hnil
    have hNN : Rd.nextN s N = Rd.againN s N := if_neg hnil
    have hlt := Rd.again_lt hok hnil Ls N
    have hal := Rd.again_len hok Ls N
    rw [hS] at HOK ⊢
    rw [hV, hNN]
    have t0 : ((s.L.length : Int) == 0) = false := by rw [beq_eq_false_iff_ne]; omega
    have t0' : (s.L.length == 0) = false := by rw [beq_eq_false_iff_ne]; omega
    by_cases ht : s.t = s.L.length
    · have hA1 : Rd.again s Ls N = ⟨Rd.ordered s.L Ls N, 0⟩ := if_pos ht
      have hA2 : Rd.againN s N = N + shufN s.L.length := if_pos ht
      rw [hA1] at HOK hlt hal ⊢
      rw [hA2]
      obtain ⟨L, t⟩ := s
      dsimp only at *
      subst ht
      have t1 : ((L.length : Int) == (L.length : Int)) = true := by simp
      have HSH := Lib.hid (fun W f0 (hX : RLx w W f0 b fp L L.length (.slice q L.length c) bl fl Ls N) => rshd_any L L.length q c bl fl Ls N W rfl (by obtain ⟨q', c', hv, _, hA, _⟩ := hX.rr.cells; cases hv; exact hA) (fun a e => by
        have hm : a.block ∈ fp := by rw [hX.rr.fps, e]; simp [Value.ownBlock]
        exact ⟨fun e2 => hX.ap _ hm e2, hX.rr.low _ hm⟩) l1 (by unfold maxLen; omega) hn64 hX.lt hN)
      have HYL := Lib.hid (show (Rd.ordered L Ls N).length = L.length from hal)
      generalize Rd.ordered L Ls N = ys at *
      obtain ⟨x, hx⟩ : ∃ x, ys[0] = x := ⟨_, rfl⟩
      have HX := Lib.hid hx
      rw [show ys.getD 0 0 = x from by rw [List.getD_eq_getElem?_getD, List.getElem?_eq_getElem hlt]; exact hx]
      clear hx
      obtain ⟨m, hm⟩ : ∃ m, m = L.length := ⟨_, rfl⟩
      rw [← hm] at hn64 l1 c0 c1 h0 t0 t0' X t1 hal HSH HYL ⊢
      have HM := Lib.hid hm
      clear hS hV hNN hA1 hA2 hnil hok hm
      go_enter Try.func32, Try.ntmps32
      go_wp2_with fail
      go_quiet (fail)
      have X1 := Lib.hid (X.out.on (below_drewN (Below.refl _ _) nq))
      clear X c0 c1
      generalize w.drewN nq = w1 at *
      have HSW := Lib.hid (HSH.out w1 _ X1.out)
      have c0 : w1.cell? ⟨b, 0, none⟩ = some (.slice q m c) := X1.out.rr.blk.cell 0
      clear HSH
      go_wp2_with fail
      refine HSW.out.mono ?_
      rintro e w2 ⟨v2, fl2, rfl, ho, hr, ht, hf, hg⟩
      have X2 := Lib.hid (X1.out.lots hr ht hf)
      have X3 := Lib.hid (X2.out.row ho HYL.out X1.out.rr.low X1.out.touch.size hg)
      obtain ⟨p2, k2, hv2, g1, g2, _, _, _⟩ := own_at_s ho
      subst hv2
      unfold maxLen at g2
      have c2 : w2.cell? ⟨b, 0, none⟩ = some (.slice q m c) := X2.out.rr.blk.cell 0
      have f2 : w2.frozen? ⟨b, 0, none⟩ = false := X2.out.rr.blk.free 0
      obtain ⟨w3, e3⟩ : ∃ y, w2.setCell ⟨b, 0, none⟩ (.slice p2 m k2) = y := ⟨_, rfl⟩
      rw [e3] at X3
      have c3 : w3.cell? ⟨b, 1, none⟩ = some (v64 m) := X3.out.rr.blk.cell 1
      have f3 : w3.frozen? ⟨b, 1, none⟩ = false := X3.out.rr.blk.free 1
      have X4 := Lib.hid (show RLx w (w3.setCell ⟨b, 1, none⟩ (.int .i64 0)) _ b _ ys 0 (.slice p2 m k2) bl fl2 Ls (N + shufN m) from X3.out.tell 0)
      obtain ⟨w4, e4⟩ : ∃ y, w3.setCell ⟨b, 1, none⟩ (.int .i64 0) = y := ⟨_, rfl⟩
      rw [e4] at X4
      have c4 : w4.cell? ⟨b, 1, none⟩ = some (.int .i64 0) := X4.out.rr.blk.cell 1
      have f4 : w4.frozen? ⟨b, 1, none⟩ = false := X4.out.rr.blk.free 1
      have X5 := Lib.hid (show RLx w (w4.setCell ⟨b, 1, none⟩ (.int .i64 1)) _ b _ ys 1 (.slice p2 m k2) bl fl2 Ls (N + shufN m) from X4.out.tell 1)
      obtain ⟨w5, e5⟩ : ∃ y, w4.setCell ⟨b, 1, none⟩ (.int .i64 1) = y := ⟨_, rfl⟩
      rw [e5] at X5
      have hy0 : 0 < ys.length := hlt
      obtain ⟨q5, k5, hv5, _, hA5, _⟩ := X5.out.rr.cells
      injection hv5 with h51 h52 h53
      subst h51 h53
      clear h52
      obtain ⟨g5, o5, rfl, hc5⟩ := hA5.addr (by rw [List.length_map]; exact hy0)
      have d0 : w5.cell? ⟨b, 0, none⟩ = some (.slice (some ⟨g5, o5, none⟩) m k2) := X5.out.rr.blk.cell 0
      have d1 : w5.cell? ⟨b, 1, none⟩ = some (.int .i64 1) := X5.out.rr.blk.cell 1
      have d2 : w5.cell? ⟨g5, o5, none⟩ = some (v64 x) := by have := hc5 0 _ (n64_at hy0); rw [HX.out] at this; simpa using this
      have j1 : (0 : Int) < (m : Int) := by omega
      clear ho hr ht hf hg hc5 hA5 X1 X2 X3 X4 HSW
      go_wp2_with fail
      go_quiet (fail)
      have X6 := Lib.hid (X5.out.on (below_drewN (Below.refl _ _) nq))
      generalize w5.drewN nq = w6 at *
      go_wp2_with fail
      go_ret
      exact X6.out.done (s' := ⟨ys, 0 + 1⟩) HOK.out
    · have hA1 : Rd.again s Ls N = s := if_neg ht
      have hA2 : Rd.againN s N = N := if_neg ht
      rw [hA1] at HOK hlt hal ⊢
      rw [hA2]
      obtain ⟨L, t⟩ := s
      dsimp only at *
      have t1 : ((t : Int) == (L.length : Int)) = false := by rw [beq_eq_false_iff_ne]; omega
      have t1' : (t == L.length) = false := by rw [beq_eq_false_iff_ne]; exact ht
      have hg0 : L.getD t 0 = L[t] := by rw [List.getD_eq_getElem?_getD, List.getElem?_eq_getElem hlt]; rfl
      rw [hg0]
      have HLT := Lib.hid hlt
      have i1 : IntKind.i64.wrap ((t : Int) + 1) = (t : Int) + 1 := IntWalk.i64_in _ (by omega)
      have i2 : IntKind.i64.wrap ((t : Int) + 1 - 1) = (t : Int) := by rw [IntWalk.i64_in _ (by omega)]; omega
      have j1 : (0 : Int) ≤ (t : Int) ∧ (t : Int) < (L.length : Int) := by omega
      have HC := Lib.hid (fun W f0 (hX : RLx w W f0 b fp L (t + 1) (.slice q L.length c) bl fl Ls N) => (show ∃ g o, q = some ⟨g, o, none⟩ ∧ W.cell? ⟨b, 0, none⟩ = some (.slice q L.length c) ∧ W.cell? ⟨b, 1, none⟩ = some (.int .i64 ((t : Int) + 1)) ∧ W.cell? ⟨g, o + t, none⟩ = some (v64 L[t]) from by
        obtain ⟨q', c', hv, hb, hA, _⟩ := hX.rr.cells
        cases hv
        obtain ⟨g, o, hq, hc⟩ := hA.addr (by rw [List.length_map]; omega)
        exact ⟨g, o, hq, hb.cell 0, hb.cell 1, hc t _ (n64_at HLT.out)⟩))
      generalize L[t] = x at *
      obtain ⟨m, hm⟩ : ∃ m, m = L.length := ⟨_, rfl⟩
      rw [← hm] at hn64 l1 c0 h0 t0 t0' X t1 t1' j1 HC ht
      clear hS hV hNN hA1 hA2 hnil hok hg0 hal hlt hm
      go_enter Try.func32, Try.ntmps32
      go_wp2_with fail
      go_quiet (fail)
      have X1 := Lib.hid (X.out.on (below_drewN (Below.refl _ _) nq))
      clear X c0 c1
      generalize w.drewN nq = w1 at *
      have c1 : w1.cell? ⟨b, 1, none⟩ = some (v64 t) := X1.out.rr.blk.cell 1
      have f1 : w1.frozen? ⟨b, 1, none⟩ = false := X1.out.rr.blk.free 1
      have X5 := Lib.hid (show RLx w (w1.setCell ⟨b, 1, none⟩ (.int .i64 ((t : Int) + 1))) _ b _ L (t + 1) (.slice q m c) bl fl Ls N from X1.out.tell (t + 1))
      obtain ⟨w5, e5⟩ : ∃ y, w1.setCell ⟨b, 1, none⟩ (.int .i64 ((t : Int) + 1)) = y := ⟨_, rfl⟩
      rw [e5] at X5
      obtain ⟨g5, o5, rfl, d0, d1, d2⟩ := HC.out _ _ X5.out
      clear X1 HC
      go_wp2_with fail
      go_quiet (fail)
      have X6 := Lib.hid (X5.out.on (below_drewN (Below.refl _ _) nq))
      generalize w5.drewN nq = w6 at *
      go_wp2_with fail
      go_ret
      exact X6.out.done (s' := ⟨L, t + 1⟩) HOK.out
end
end Go.Proofs.Ytfoomffbjjcjjaa
