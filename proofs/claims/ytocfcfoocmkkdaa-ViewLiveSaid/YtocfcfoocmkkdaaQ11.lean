/-
  The law ViewMerges.
  The law ViewTells.
-/
import Derived.Test.YtocfcfoocmkkdaaQ10
namespace Go.Proofs.Ytocfcfoocmkkdaa
section
set_option linter.unusedSimpArgs false
set_option linter.unusedVariables false
open Go.RowKit Sha
theorem blk_kept {g g' : Nat} {t : TypeId} : ∀ (vs : List Value) (o : Nat) (w : World) (cs : List Value), Blk w g' cs t → ∃ cs', Blk (w.setCells g o vs) g' cs' t ∧ cs'.length = cs.length
  | [], o, w, cs, h => ⟨cs, h, rfl⟩
  | v :: r, o, w, cs, h => by
    rw [World.setCells]
    by_cases e : g' = g
    · subst e
      obtain ⟨cs', h1, h2⟩ := blk_kept (g := g') r (o + 1) _ _ (h.set o v)
      exact ⟨cs', h1, by rw [h2, List.length_set]⟩
    · obtain ⟨cs', h1, h2⟩ := blk_kept (g := g) r (o + 1) _ _ (h.setOther ⟨g, o, none⟩ v e)
      exact ⟨cs', h1, h2⟩
theorem setCells_above {B b : Nat} {a : World} (hb : B ≤ b) : ∀ (vs : List Value) (o : Nat) (w : World), Below B a w → Below B a (w.setCells b o vs)
  | [], _, _, h => h
  | v :: r, o, w, h => by rw [World.setCells]; exact setCells_above hb r (o + 1) _ (h.setCell hb v)
/-- A row that may be written over: its block is above B. -/
def Wr (w : World) (B : Nat) (q : Option Addr) (n : Nat) : Prop := 0 < n → ∃ g cs, q = some ⟨g, 0, none⟩ ∧ B ≤ g ∧ Blk w g cs mt ∧ n * 3 ≤ cs.length
theorem Wr.of {w : World} {B n c : Nat} {q : Option Addr} {xs : List Value} (h : w.ownsRow B mt 3 (.slice q n c) n xs) : Wr w B q n := fun hn => by
  obtain ⟨g, cap, rest, hv, hg, _, _, hk⟩ := own_blk_w h hn
  cases hv
  exact ⟨g, _, rfl, hg, hk, by rw [List.length_append, h.1]; omega⟩
theorem Wr.on {w w' : World} {B n : Nat} {q : Option Addr} (h : Wr w B q n) (hb : Below w.heap.size w w') : Wr w' B q n := fun hn => by
  obtain ⟨g, cs, h1, h2, h3, h4⟩ := h hn
  exact ⟨g, cs, h1, h2, h3.upon hb, h4⟩
theorem Wr.other {w : World} {B n : Nat} {q : Option Addr} (h : Wr w B q n) (g o : Nat) (vs : List Value) : Wr (w.setCells g o vs) B q n := fun hn => by
  obtain ⟨g', cs, h1, h2, h3, h4⟩ := h hn
  obtain ⟨cs', h5, h6⟩ := blk_kept (g := g) vs o w cs h3
  exact ⟨g', cs', h1, h2, h5, by rw [h6]; exact h4⟩
theorem Wr.store {w : World} {B n : Nat} {q : Option Addr} (h : Wr w B q n) (k : Nat) (hk : k < n) (x : Mb) : ∃ g, q = some ⟨g, 0, none⟩ ∧ B ≤ g ∧ (storeM mt (.pointer (some ⟨g, k * 3, none⟩)) (mv x)).run Try.prog w = .ok .skip (w.setCells g (k * 3) (mc x)) := by
  obtain ⟨g, cs, h1, h2, h3, h4⟩ := h (by omega)
  refine ⟨g, h1, h2, ?_⟩
  have ht : w.there g (k * 3) (mc x).toArray.size := fun j hj => by
    have hj : j < 3 := hj
    exact ⟨by rw [h3.cell, List.getElem?_eq_getElem (by omega)]; rfl, h3.free _⟩
  have hr := run_storeAt_mid (P := Try.prog) w g (k * 3) mt (mc x).toArray ht mem_size (by simp [Value.oneCell'])
  unfold storeM
  simp only [Sem.run_bind]
  rw [show (Instr.storeAt mt (.pointer (some ⟨g, k * 3, none⟩)) (mv x)).run Try.prog w = _ from hr]
  rfl
theorem Vw.mrg_ok1 (l l' : List Mb) : ∀ x ∈ (Vw.mrg l l').1, x.ok := by
  unfold Vw.mrg
  split
  · rename_i h; exact fun x hx => (Vw.put_may h.1.1 h.2 x hx).ok
  · intro x hx; cases hx
theorem Vw.mrg_ok2 (l l' : List Mb) : ∀ x ∈ (Vw.mrg l l').2.1, x.ok := by
  unfold Vw.mrg
  split
  · rename_i h; exact fun x hx => (Vw.put_may h.1.1 h.2 x ((List.mem_filter.1 hx).1)).ok
  · intro x hx; cases hx
section
attribute [local go_sem ↓] execOp_loadM execOp_storeM execOp_eqlM execOp_neqM execOp_buildM
set_option maxRecDepth 100000 in
set_option maxHeartbeats 8000000 in
theorem merges_any (V : ViewOK) (l l' : List Mb) (n m : Nat) (q p : Option Addr) (c d : Nat) (w : World) (hn : l.length = n) (hm : l'.length = m) (hl : GoodW w l q c) (hl' : GoodW w l' p d) :
    Calls Try.prog 3 #[.slice q n c, .slice p m d] w (BoolDone true w) := by
  have HL := Lib.hid hl
  have HR := Lib.hid hl'
  have HN := Lib.hid hn
  have HM := Lib.hid hm
  have b1 := hl.le
  have b2 := hl.max
  have b3 := hl'.le
  have b4 := hl'.max
  rw [hn] at b1
  rw [hm] at b3
  clear hl hl' hn hm
  by_cases h1 : n ≤ 80
  · have t1 : decide ((80 : Int) < (n : Int)) = false := decide_eq_false (by omega)
    by_cases h2 : m ≤ 80
    · have t2 : decide ((80 : Int) < (m : Int)) = false := decide_eq_false (by omega)
      have c0 := run_buildM0 w
      have O0 := own_empty_w w w.heap.size (Nat.le_refl _)
      have BA := Lib.hid (show Below w.heap.size w (w.alloc (.cells #[] mt)) from (Below.refl _ _).alloc (Nat.le_refl _) _)
      have LA := HL.out.below BA.out
      generalize w.alloc (.cells #[] mt) = wa at *
      have tk1 : True := trivial
      go_enter Try.func3, Try.ntmps3
      go_wp2_with ((first
        | (have _t := tk1; refine wpList_app_s rfl _ _ 22 rfl w.heap.size mt (z := .agg #[.int .i64 0, .int .i64 0, .int .i64 0]) (by decide) Try.underlying22 mem_info rfl _ 0 [] rfl O0 q n c (l.flatMap mc) rfl LA.at_ (by rw [wflat_length, HN.out]) LA.nil b1 (wflat_one l) (by omega) (by unfold maxLen; omega) BA.out.size ?_; intro v1 w1 hv1 hgr1 _; (have B1 := Lib.hid (grown_below BA.out hgr1 (fun g e => (own_base_w O0 g e).1) BA.out.size)); rw [Nat.zero_add, List.nil_append] at hv1; (have H1 := Lib.hid hv1); (have c1 := run_buildM0 w1); (have O1 := own_empty_w w1 w1.heap.size (Nat.le_refl _)); (have BBe := Lib.hid (show Below w1.heap.size w1 (w1.alloc (.cells #[] mt)) from (Below.refl _ _).alloc (Nat.le_refl _) _)); (have BB := Lib.hid (below_next B1.out BBe.out)); (have LB := HR.out.below BB.out); generalize w1.alloc (.cells #[] mt) = wb at *; (have tk2 : True := trivial); clear tk1 _t hv1 hgr1)
        | (have _t := tk2; refine wpList_app_s rfl _ _ 22 rfl w1.heap.size mt (z := .agg #[.int .i64 0, .int .i64 0, .int .i64 0]) (by decide) Try.underlying22 mem_info rfl _ 0 [] rfl O1 p m d (l'.flatMap mc) rfl LB.at_ (by rw [wflat_length, HM.out]) LB.nil b3 (wflat_one l') (by omega) (by unfold maxLen; omega) BBe.out.size ?_; intro v2 w2 hv2 hgr2 _; (have B2e := Lib.hid (grown_below BBe.out hgr2 (fun g e => (own_base_w O1 g e).1) BBe.out.size)); (have B2 := Lib.hid (below_next B1.out B2e.out)); rw [Nat.zero_add, List.nil_append] at hv2; (have H2 := Lib.hid hv2); clear tk2 _t hv2 hgr2)))
      have H1e := Lib.hid (own_on_w H1.out B2e.out)
      have H2e := H2
      clear H1 H2 c0 O0 BA LA c1 O1 BBe BB LB B1
      obtain ⟨q5, c5, rfl, hg5⟩ := own_good H1e.out HL.out.ok
      obtain ⟨q6, c6, rfl, hg6⟩ := own_good H2e.out HR.out.ok
      have G5 := Lib.hid hg5
      have G6 := Lib.hid hg6
      have f5 := hg5.le
      have f6 := hg6.le
      have f5m := hg5.max
      have f6m := hg6.max
      rw [HN.out] at f5
      rw [HM.out] at f6
      clear hg5 hg6 H1e H2e B2e
      have HMG := Lib.hid (V.merge l l' n m q5 q6 c5 c6 w2 HN.out HM.out G5.out G6.out (by omega) (by omega))
      have HRM := Lib.hid (fun (w' : World) (hb : Below w2.heap.size w2 w') => rvmerge_any l l' n m q p c d w' HN.out HM.out (HL.out.below (below_next B2.out hb)) (HR.out.below (below_next B2.out hb)) (by omega) (by omega))
      have HOA := Lib.hid (Vw.mrg_ok1 l l')
      have HOB := Lib.hid (Vw.mrg_ok2 l l')
      generalize Vw.mrg l l' = z at *
      obtain ⟨za, zb, ze⟩ := z
      obtain ⟨na, hna⟩ : ∃ na, za.length = na := ⟨_, rfl⟩
      obtain ⟨nb, hnb⟩ : ∃ nb, zb.length = nb := ⟨_, rfl⟩
      have HNA := Lib.hid hna
      have HNB := Lib.hid hnb
      clear hna hnb
      refine HMG.out.mono ?_
      rintro e w3 ⟨ra, rb, rfl, ha, hb, _, hb3⟩
      have ha : w3.ownsRow w2.heap.size mt 3 ra na (za.flatMap mc) := by rw [← HNA.out]; exact ha
      have hb : w3.ownsRow w2.heap.size mt 3 rb nb (zb.flatMap mc) := by rw [← HNB.out]; exact hb
      obtain ⟨qa, ka, rfl, ga⟩ := own_good ha HOA.out
      obtain ⟨qb, kb, rfl, gb⟩ := own_good hb HOB.out
      have WA := Lib.hid (Wr.of ha)
      have WB := Lib.hid (Wr.of hb)
      have GA := Lib.hid ga
      have GB := Lib.hid gb
      have fa := ga.le
      have fb := gb.le
      have fam := ga.max
      have fbm := gb.max
      rw [HNA.out] at fa
      rw [HNB.out] at fb
      have HB3 := Lib.hid hb3
      clear ha hb ga gb hb3 HMG
      go_wp2_with fail
      refine (HRM.out w3 HB3.out).mono ?_
      rintro e w4 ⟨rc, rd, rfl, hc, hd, _, hb4⟩
      have hc : w4.ownsRow w3.heap.size mt 3 rc na (za.flatMap mc) := by rw [← HNA.out]; exact hc
      have hd : w4.ownsRow w3.heap.size mt 3 rd nb (zb.flatMap mc) := by rw [← HNB.out]; exact hd
      obtain ⟨qc, kc, rfl, gc⟩ := own_good hc HOA.out
      obtain ⟨qd, kd, rfl, gd⟩ := own_good hd HOB.out
      have HS1 := Lib.hid (sameM_any za za na na qa qc ka kc w4 HNA.out HNA.out (GA.out.below hb4) gc)
      have HS2 := Lib.hid (fun (w' : World) (hb : Below w4.heap.size w4 w') => sameM_any zb zb nb nb qb qd kb kd w' HNB.out HNB.out ((GB.out.below hb4).below hb) (gd.below hb))
      rw [show decide (za = za) = true from by simp] at HS1
      rw [show decide (zb = zb) = true from by simp] at HS2
      have fc := gc.le
      have fd := gd.le
      have fcm := gc.max
      have fdm := gd.max
      rw [HNA.out] at fc
      rw [HNB.out] at fd
      have WA4 := Lib.hid (WA.out.on hb4)
      have WB4 := Lib.hid (WB.out.on hb4)
      have HB4 := Lib.hid (below_next HB3.out hb4)
      clear hc hd gc gd hb4 WA WB GA GB HB3 HRM
      go_wp2_with fail
      refine HS1.out.mono ?_
      rintro e w5 ⟨rfl, hb5⟩
      have HS2' := Lib.hid (HS2.out w5 hb5)
      have WA5 := Lib.hid (WA4.out.on hb5)
      have WB5 := Lib.hid (WB4.out.on hb5)
      have HB5 := Lib.hid (below_next HB4.out hb5)
      clear hb5 HS1 HS2 WA4 WB4 HB4
      go_wp2_with fail
      refine HS2'.out.mono ?_
      rintro e w6 ⟨rfl, hb6⟩
      have WA6 := Lib.hid (WA5.out.on hb6)
      have WB6 := Lib.hid (WB5.out.on hb6)
      have HB6 := Lib.hid (below_next HB5.out hb6)
      clear hb6 HS2' WA5 WB5 HB5
      have tze : (ze == ze) = true := by simp
      go_wp2_with fail
      go_loopw [14] (fun i wr => ∃ k : Nat, i = .int .i64 k ∧ k ≤ na ∧ Hid (Wr wr w2.heap.size qa na) ∧ Hid (Wr wr w2.heap.size qb nb) ∧ Hid (Below w2.heap.size w2 wr)) (fun i _ => na - (intOf i).toNat)
      case atStart => exact ⟨0, rfl, by omega, WA6, WB6, HB6⟩
      case round =>
        clear WA6 WB6 HB6
        obtain ⟨k, rfl, hk, HA, HBb, HBL⟩ := hrel
        by_cases hlt : k < na
        · obtain ⟨g, hqq, hgB, hst⟩ := HA.out.store k hlt ⟨77, 0, 0⟩
          subst hqq
          have hst : (storeM mt (.pointer (some ⟨g, k * 3, none⟩)) (.agg #[.int .i64 77, .int .i64 0, .int .i64 0])).run Try.prog wr = .ok .skip (wr.setCells g (k * 3) (mc ⟨77, 0, 0⟩)) := hst
          have jk : (0 : Int) ≤ (k : Int) ∧ (k : Int) < (na : Int) := by omega
          have HA2 := Lib.hid (HA.out.other g (k * 3) (mc ⟨77, 0, 0⟩))
          have HB2 := Lib.hid (HBb.out.other g (k * 3) (mc ⟨77, 0, 0⟩))
          have HBL2 := Lib.hid (setCells_above hgB (mc ⟨77, 0, 0⟩) (k * 3) wr HBL.out)
          generalize wr.setCells g (k * 3) (mc ⟨77, 0, 0⟩) = w9 at *
          go_wp2_with fail
          go_roundw
          case rel => exact ⟨k + 1, by go_num, by omega, HA2, HB2, HBL2⟩
          case measure => simp [intOf]; omega
        · obtain rfl : na = k := by omega
          clear hk hlt
          go_wp2_with fail
          go_loopw [15] (fun i wr => ∃ k : Nat, i = .int .i64 k ∧ k ≤ nb ∧ Hid (Wr wr w2.heap.size qa na) ∧ Hid (Wr wr w2.heap.size qb nb) ∧ Hid (Below w2.heap.size w2 wr)) (fun i _ => nb - (intOf i).toNat)
          case atStart => exact ⟨0, rfl, by omega, HA, HBb, HBL⟩
          case round =>
            clear HA HBb HBL
            obtain ⟨k, rfl, hk, HA, HBb, HBL⟩ := hrel
            by_cases hlt : k < nb
            · obtain ⟨g, hqq, hgB, hst⟩ := HBb.out.store k hlt ⟨78, 0, 0⟩
              subst hqq
              have hst : (storeM mt (.pointer (some ⟨g, k * 3, none⟩)) (.agg #[.int .i64 78, .int .i64 0, .int .i64 0])).run Try.prog wr = .ok .skip (wr.setCells g (k * 3) (mc ⟨78, 0, 0⟩)) := hst
              have jk : (0 : Int) ≤ (k : Int) ∧ (k : Int) < (nb : Int) := by omega
              have HA2 := Lib.hid (HA.out.other g (k * 3) (mc ⟨78, 0, 0⟩))
              have HB2 := Lib.hid (HBb.out.other g (k * 3) (mc ⟨78, 0, 0⟩))
              have HBL2 := Lib.hid (setCells_above hgB (mc ⟨78, 0, 0⟩) (k * 3) wr HBL.out)
              generalize wr.setCells g (k * 3) (mc ⟨78, 0, 0⟩) = w9 at *
              go_wp2_with fail
              go_roundw
              case rel => exact ⟨k + 1, by go_num, by omega, HA2, HB2, HBL2⟩
              case measure => simp [intOf]; omega
            · obtain rfl : nb = k := by omega
              clear hk hlt
              rename World => wz
              have HI := Lib.hid (fun (w' : World) (hb : Below wz.heap.size wz w') => sameM_any l l n n q5 q c5 c w' HN.out HN.out (G5.out.below (below_next HBL.out hb)) (HL.out.below (below_next B2.out (below_next HBL.out hb))))
              have HJ := Lib.hid (fun (w' : World) (hb : Below wz.heap.size wz w') => sameM_any l' l' m m q6 p c6 d w' HM.out HM.out (G6.out.below (below_next HBL.out hb)) (HR.out.below (below_next B2.out (below_next HBL.out hb))))
              rw [show decide (l = l) = true from by simp] at HI
              rw [show decide (l' = l') = true from by simp] at HJ
              have BZ := Lib.hid (below_next B2.out HBL.out)
              clear HA HBb
              go_wp2_with fail
              refine (HI.out _ (Below.refl _ _)).mono ?_
              rintro e wx ⟨rfl, hbx⟩
              go_wp2_with fail
              refine (HJ.out _ hbx).mono ?_
              rintro e wy ⟨rfl, hby⟩
              have hby := below_next hbx hby
              go_wp2_with fail
              refine (awake_any V _).mono ?_
              rintro e wv ⟨rfl, hbv⟩
              have hbv := below_next hby hbv
              go_wp2_with fail
              go_ret
              exact ⟨rfl, below_next BZ.out hbv⟩
    · have t2 : decide ((80 : Int) < (m : Int)) = true := decide_eq_true (by omega)
      go_enter Try.func3, Try.ntmps3
      go_wp2_with fail
      refine (awake_any V _).mono ?_
      rintro e w1 ⟨rfl, hb1⟩
      go_wp2_with fail
      go_ret
      exact ⟨rfl, hb1⟩
  · have t1 : decide ((80 : Int) < (n : Int)) = true := decide_eq_true (by omega)
    go_enter Try.func3, Try.ntmps3
    go_wp2_with fail
    refine (awake_any V _).mono ?_
    rintro e w1 ⟨rfl, hb1⟩
    go_wp2_with fail
    go_ret
    exact ⟨rfl, hb1⟩
end
end
section
set_option linter.unusedSimpArgs false
set_option linter.unusedVariables false
open Go.RowKit Sha
theorem nums_ok {l : List Mb} (h : ∀ x ∈ l, x.ok) (f : Mb → Bool) : ∀ n ∈ (l.filter f).map (·.I), -9223372036854775808 ≤ n ∧ n ≤ 9223372036854775807 := by
  intro n hn
  obtain ⟨x, hx, rfl⟩ := List.mem_map.1 hn
  exact (h x (List.mem_filter.1 hx).1).i
theorem Vw.live_nums {l : List Mb} (h : ∀ x ∈ l, x.ok) : ∀ n ∈ Vw.live l, -9223372036854775808 ≤ n ∧ n ≤ 9223372036854775807 := by
  unfold Vw.live; split
  · exact nums_ok h _
  · intro n hn; cases hn
theorem Vw.alive_nums {l : List Mb} (h : ∀ x ∈ l, x.ok) : ∀ n ∈ Vw.alive l, -9223372036854775808 ≤ n ∧ n ≤ 9223372036854775807 := by
  unfold Vw.alive; split
  · exact nums_ok h _
  · intro n hn; cases hn
theorem Vw.live_len (l : List Mb) : (Vw.live l).length ≤ l.length := by
  unfold Vw.live; split
  · rw [List.length_map]; exact List.length_filter_le ..
  · exact Nat.zero_le _
theorem Vw.alive_len (l : List Mb) : (Vw.alive l).length ≤ l.length := by
  unfold Vw.alive; split
  · rw [List.length_map]; exact List.length_filter_le ..
  · exact Nat.zero_le _
theorem own64_apart {w w' : World} {B n : Nat} {e : TypeId} {v : Value} {xs : List Value} (h : Own64 w B e v n xs) (hk : ∀ k, v.ownBlock = some k → w'.heap[k]? = w.heap[k]?) : Own64 w' B e v n xs := by
  refine ⟨⟨h.row.1, ?_⟩, h.ints.carry hk⟩
  rcases h.row.2 with h' | ⟨g, cap, cur, hv, hg, hh, h4⟩
  · exact Or.inl h'
  · exact Or.inr ⟨g, cap, cur, hv, hg, by rw [hk g (by rw [hv]; rfl)]; exact hh, h4⟩
section
attribute [local go_sem ↓] execOp_loadM execOp_storeM execOp_eqlM execOp_neqM execOp_buildM
set_option maxRecDepth 100000 in
set_option maxHeartbeats 8000000 in
theorem tells_any (V : ViewOK) (l l' : List Mb) (n m : Nat) (q p : Option Addr) (c d : Nat) (nd : Int) (w : World) (hn : l.length = n) (hm : l'.length = m) (hl : GoodW w l q c) (hl' : GoodW w l' p d) (hnd : -9223372036854775808 ≤ nd ∧ nd ≤ 9223372036854775807) :
    Calls Try.prog 4 #[.slice q n c, .slice p m d, .int .i64 nd] w (BoolDone true w) := by
  have HL := Lib.hid hl
  have HR := Lib.hid hl'
  have HN := Lib.hid hn
  have HM := Lib.hid hm
  have HND := Lib.hid hnd
  have b1 := hl.le
  have b2 := hl.max
  have b3 := hl'.le
  have b4 := hl'.max
  rw [hn] at b1
  rw [hm] at b3
  clear hl hl' hn hm hnd
  by_cases h1 : n ≤ 80
  · have t1 : decide ((80 : Int) < (n : Int)) = false := decide_eq_false (by omega)
    by_cases h2 : m ≤ 80
    · have t2 : decide ((80 : Int) < (m : Int)) = false := decide_eq_false (by omega)
      have c0 := run_buildM0 w
      have O0 := own_empty_w w w.heap.size (Nat.le_refl _)
      have BA := Lib.hid (show Below w.heap.size w (w.alloc (.cells #[] mt)) from (Below.refl _ _).alloc (Nat.le_refl _) _)
      have LA := HL.out.below BA.out
      generalize w.alloc (.cells #[] mt) = wa at *
      go_enter Try.func4, Try.ntmps4
      go_wp2_with (refine wpList_app_s rfl _ _ 22 rfl w.heap.size mt (z := .agg #[.int .i64 0, .int .i64 0, .int .i64 0]) (by decide) Try.underlying22 mem_info rfl _ 0 [] rfl O0 q n c (l.flatMap mc) rfl LA.at_ (by rw [wflat_length, HN.out]) LA.nil b1 (wflat_one l) (by omega) (by unfold maxLen; omega) BA.out.size ?_; intro v1 w1 hv1 hgr1 _)
      have B1 := Lib.hid (grown_below BA.out hgr1 (fun g e => (own_base_w O0 g e).1) BA.out.size)
      rw [Nat.zero_add, List.nil_append] at hv1
      obtain ⟨q5, c5, rfl, hg5⟩ := own_good hv1 HL.out.ok
      have G5 := Lib.hid hg5
      have f5 := hg5.le
      have f5m := hg5.max
      rw [HN.out] at f5
      clear c0 O0 BA LA hv1 hgr1 hg5
      have LL := Lib.hid (fun (w' : World) (hb : Below w1.heap.size w1 w') => HL.out.below (below_next B1.out hb))
      have RR := Lib.hid (fun (w' : World) (hb : Below w1.heap.size w1 w') => HR.out.below (below_next B1.out hb))
      have GG := Lib.hid (fun (w' : World) (hb : Below w1.heap.size w1 w') => G5.out.below hb)
      have HGE := Lib.hid (fun w' hb => V.get l n q5 c5 nd w' HN.out (GG.out w' hb) (by omega) HND.out)
      have HRG := Lib.hid (fun w' hb => rvget_any l n q c nd w' HN.out (LL.out w' hb))
      have HLI := Lib.hid (fun w' hb => V.live l n q5 c5 w' HN.out (GG.out w' hb) (by omega))
      have HAL := Lib.hid (fun w' hb => V.alive l n q5 c5 w' HN.out (GG.out w' hb) (by omega))
      have HRL := Lib.hid (fun w' hb => rvlive_any l n q c w' HN.out (LL.out w' hb) (by omega))
      have HRA := Lib.hid (fun w' hb => rvalive_any l n q c w' HN.out (LL.out w' hb) (by omega))
      have HCH := Lib.hid (fun w' hb => V.check l n q5 c5 w' HN.out (GG.out w' hb) (by omega))
      have HRC := Lib.hid (fun w' hb => rvcheck_any l n q c w' HN.out (LL.out w' hb))
      have HSA := Lib.hid (fun w' hb => V.same l l' n m q5 p c5 d w' HN.out HM.out (GG.out w' hb) (RR.out w' hb) (by omega) (by omega))
      have HRS := Lib.hid (fun w' hb => rvsame_any l l' n m q p c d w' HN.out HM.out (LL.out w' hb) (RR.out w' hb))
      have HSM := Lib.hid (fun w' hb => sameM_any l l n n q5 q c5 c w' HN.out HN.out (GG.out w' hb) (LL.out w' hb))
      rw [show decide (l = l) = true from by simp] at HSM
      have NLI := Lib.hid (Vw.live_nums HL.out.ok)
      have NAL := Lib.hid (Vw.alive_nums HL.out.ok)
      have NLL := Lib.hid (show (Vw.live l).length ≤ n from by have := Vw.live_len l; rw [HN.out] at this; exact this)
      have NLA := Lib.hid (show (Vw.alive l).length ≤ n from by have := Vw.alive_len l; rw [HN.out] at this; exact this)
      generalize Vw.get l nd = z at *
      obtain ⟨x, er⟩ := z
      generalize Vw.live l = xs at *
      generalize Vw.alive l = ys at *
      generalize decide (l = l') = sm at *
      generalize Vw.err l = ve at *
      obtain ⟨a, ha⟩ : ∃ a, xs.length = a := ⟨_, rfl⟩
      obtain ⟨b, hb⟩ : ∃ b, ys.length = b := ⟨_, rfl⟩
      have HA := Lib.hid ha
      have HBn := Lib.hid hb
      clear ha hb
      have HQ := run_eqlM x x true (by simp)
      have tee : (er == er) = true := by simp
      have tve : (ve == ve) = true := by simp
      have tsm : (sm == sm) = true := by simp
      have HB1 := Lib.hid (Below.refl w1.heap.size w1)
      clear LL RR
      refine (HGE.out w1 HB1.out).mono ?_
      rintro e w2 ⟨rfl, hb2⟩
      have s2 := put_run w2 x
      have P2 := Lib.hid (put_blk w2 x)
      have HB2 := Lib.hid (below_next HB1.out (Below.go hb2 (put_below w2 x)))
      clear hb2
      generalize putM w2 x = w3 at *
      go_wp2_with fail
      generalize w2.heap.size = gA at *
      clear s2
      refine (HRG.out w3 HB2.out).mono ?_
      rintro e w4 ⟨rfl, hb4⟩
      have s4 := put_run w4 x
      have hb5 := Below.go hb4 (put_below w4 x)
      have P4 := Lib.hid (put_blk w4 x)
      have P5 := Lib.hid (P2.out.upon hb5)
      have HB5 := Lib.hid (below_next HB2.out hb5)
      clear hb4 hb5 P2 HB2
      generalize putM w4 x = w5 at *
      go_wp2_with fail
      generalize w4.heap.size = gB at *
      clear s4
      refine (HLI.out w5 HB5.out).mono ?_
      rintro e w6 ⟨r6, rfl, o6, hb6⟩
      have o6 : Own64 w6 w5.heap.size 3 r6 a (xs.map v64) := by rw [← HA.out]; exact o6
      obtain ⟨qx, cx, rfl, _, gx⟩ := o6.good NLI.out
      have OX := Lib.hid o6
      have HXL := Lib.hid (fun g (h : (Value.slice qx a cx).ownBlock = some g) => (own_base_w o6.row g h).2)
      have GX := Lib.hid gx
      have fx := gx.le
      have fxm := gx.max
      rw [HA.out] at fx
      have HB6 := Lib.hid (below_next HB5.out hb6)
      have P6 := Lib.hid (P5.out.upon hb6)
      have P4b := Lib.hid (P4.out.upon hb6)
      clear o6 gx hb6 P4 P5
      go_wp2_with fail
      refine (HAL.out w6 HB6.out).mono ?_
      rintro e w7 ⟨r7, rfl, o7, hb7⟩
      have o7 : Own64 w7 w6.heap.size 3 r7 b (ys.map v64) := by rw [← HBn.out]; exact o7
      obtain ⟨qy, cy, rfl, _, gy⟩ := o7.good NAL.out
      have OY := Lib.hid o7
      have GY := Lib.hid gy
      have fy := gy.le
      have fym := gy.max
      rw [HBn.out] at fy
      have HB7 := Lib.hid (below_next HB6.out hb7)
      have P7 := Lib.hid (P6.out.upon hb7)
      have P8 := Lib.hid (P4b.out.upon hb7)
      have OX7 := Lib.hid (own64_on OX.out hb7)
      have GX7 := Lib.hid (GX.out.below hb7)
      clear o7 gy hb7 P6 P4b OX GX
      have m1 := run_loadM (rangeM_of P7.out)
      have m2 := run_loadM (rangeM_of P8.out)
      go_wp2_with fail
      refine (HRL.out w7 HB7.out).mono ?_
      rintro e w8 ⟨r8, rfl, o8, hb8⟩
      have o8 : Own64 w8 w7.heap.size 3 r8 a (xs.map v64) := by rw [← HA.out]; exact o8
      obtain ⟨q8, c8, rfl, _, g8⟩ := o8.good NLI.out
      have f8 := g8.le
      have f8m := g8.max
      rw [HA.out] at f8
      have HS8 := Lib.hid (sameN_any xs xs a a qx q8 cx c8 w8 HA.out HA.out (GX7.out.below hb8) g8)
      rw [show decide (xs = xs) = true from by simp] at HS8
      have HB8 := Lib.hid (below_next HB7.out hb8)
      have OX8 := Lib.hid (own64_on OX7.out hb8)
      have OY8 := Lib.hid (own64_on OY.out hb8)
      have GY8 := Lib.hid (GY.out.below hb8)
      clear o8 g8 hb8 OX7 OY GX7 GY m1 m2 P7 P8
      go_wp2_with fail
      refine HS8.out.mono ?_
      rintro e _ ⟨rfl, k9, rfl⟩
      have hb9 : Below w8.heap.size w8 (w8.drewN k9) := below_drewN (Below.refl _ _) k9
      have HB9 := Lib.hid (below_next HB8.out hb9)
      have OX9 := Lib.hid (own64_on OX8.out hb9)
      have OY9 := Lib.hid (own64_on OY8.out hb9)
      have GY9 := Lib.hid (GY8.out.below hb9)
      clear hb9 HS8 OX8 OY8 GY8
      generalize w8.drewN k9 = w9 at *
      go_wp2_with fail
      refine (HRA.out w9 HB9.out).mono ?_
      rintro e w10 ⟨r10, rfl, o10, hb10⟩
      have o10 : Own64 w10 w9.heap.size 3 r10 b (ys.map v64) := by rw [← HBn.out]; exact o10
      obtain ⟨q10, c10, rfl, _, g10⟩ := o10.good NAL.out
      have f10 := g10.le
      have f10m := g10.max
      rw [HBn.out] at f10
      have HS10 := Lib.hid (sameN_any ys ys b b qy q10 cy c10 w10 HBn.out HBn.out (GY9.out.below hb10) g10)
      rw [show decide (ys = ys) = true from by simp] at HS10
      have HB10 := Lib.hid (below_next HB9.out hb10)
      have OX10 := Lib.hid (own64_on OX9.out hb10)
      have OY10 := Lib.hid (own64_on OY9.out hb10)
      clear o10 g10 hb10 OX9 OY9 GY9
      go_wp2_with fail
      refine HS10.out.mono ?_
      rintro e _ ⟨rfl, k11, rfl⟩
      have hb11 : Below w10.heap.size w10 (w10.drewN k11) := below_drewN (Below.refl _ _) k11
      have HB11 := Lib.hid (below_next HB10.out hb11)
      have OX11 := Lib.hid (own64_on OX10.out hb11)
      have OY11 := Lib.hid (own64_on OY10.out hb11)
      clear hb11 HS10 OX10 OY10
      generalize w10.drewN k11 = w11 at *
      go_wp2_with fail
      refine (HCH.out w11 HB11.out).mono ?_
      rintro e w12 ⟨rfl, hb12⟩
      have HB12 := Lib.hid (below_next HB11.out hb12)
      have OX12 := Lib.hid (own64_on OX11.out hb12)
      have OY12 := Lib.hid (own64_on OY11.out hb12)
      clear hb12 OX11 OY11
      go_wp2_with fail
      refine (HRC.out w12 HB12.out).mono ?_
      rintro e w13 ⟨rfl, hb13⟩
      have HB13 := Lib.hid (below_next HB12.out hb13)
      have OX13 := Lib.hid (own64_on OX12.out hb13)
      have OY13 := Lib.hid (own64_on OY12.out hb13)
      clear hb13 OX12 OY12
      go_wp2_with fail
      refine (HSA.out w13 HB13.out).mono ?_
      rintro e w14 ⟨rfl, hb14⟩
      have HB14 := Lib.hid (below_next HB13.out hb14)
      have OX14 := Lib.hid (own64_on OX13.out hb14)
      have OY14 := Lib.hid (own64_on OY13.out hb14)
      clear hb14 OX13 OY13
      go_wp2_with fail
      refine (HRS.out w14 HB14.out).mono ?_
      rintro e w15 ⟨rfl, hb15⟩
      have HB15 := Lib.hid (below_next HB14.out hb15)
      have OX15 := Lib.hid (own64_on OX14.out hb15)
      have OY15 := Lib.hid (own64_on OY14.out hb15)
      clear hb15 OX14 OY14
      go_wp2_with fail
      refine (overN_any _ _ _ _ w15 OX15.out).mono ?_
      rintro e w16 ⟨rfl, hb16, hk16⟩
      have HB16 := Lib.hid (HB15.out.trans (hb16.mono HB5.out.size))
      have OY16 := Lib.hid (own64_apart OY15.out (fun k hk => hk16 k (fun e => by have h1 := HXL.out k e.symm; have h2 := (own_base_w OY15.out.row k hk).1; omega)))
      clear hb16 hk16 OX15 OY15
      go_wp2_with fail
      refine (overN_any _ _ _ _ w16 OY16.out).mono ?_
      rintro e w17 ⟨rfl, hb17, _⟩
      have HB17 := Lib.hid (HB16.out.trans (hb17.mono HB6.out.size))
      clear hb17 OY16
      go_wp2_with fail
      refine (HSM.out w17 HB17.out).mono ?_
      rintro e w18 ⟨rfl, hb18⟩
      have HB18 := Lib.hid (below_next HB17.out hb18)
      go_wp2_with fail
      refine (awake_any V _).mono ?_
      rintro e w19 ⟨rfl, hb19⟩
      have HB19 := Lib.hid (below_next B1.out (below_next HB18.out hb19))
      go_wp2_with fail
      go_ret
      exact ⟨rfl, HB19.out⟩
    · have t2 : decide ((80 : Int) < (m : Int)) = true := decide_eq_true (by omega)
      go_enter Try.func4, Try.ntmps4
      go_wp2_with fail
      refine (awake_any V _).mono ?_
      rintro e w1 ⟨rfl, hb1⟩
      go_wp2_with fail
      go_ret
      exact ⟨rfl, hb1⟩
  · have t1 : decide ((80 : Int) < (n : Int)) = true := decide_eq_true (by omega)
    go_enter Try.func4, Try.ntmps4
    go_wp2_with fail
    refine (awake_any V _).mono ?_
    rintro e w1 ⟨rfl, hb1⟩
    go_wp2_with fail
    go_ret
    exact ⟨rfl, hb1⟩
end
end
end Go.Proofs.Ytocfcfoocmkkdaa
