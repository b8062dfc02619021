/-
  The program's iterator over two views at once: what is new of the later one.
  Slices of structs, for seats without items (written by mkins12.py): cut, copied, appended to with noughts; rows of the call's own, parted. General: no function is named here.
-/
import Derived.Test.YtocfcfoocmkkdaaQ17
import Derived.Test.YtocfcfoocmkkdaaQ9
import Derived.Test.YtocfcfoocmkkdaaQ4
import Derived.Laws.Slices
import Derived.Lib.AppendZerosOnto
import Derived.Lib.Overlaps
import Derived.Deep.RegionLaw
namespace Go.Proofs.Ytocfcfoocmkkdaa
section
set_option linter.unusedSimpArgs false
set_option linter.unusedVariables false
open Go.RowKit Go.Shelf Sha
namespace Vw
theorem pos_mono {l : List Mb} {a b : Int} (h : a ≤ b) : pos l a ≤ pos l b := by
  unfold pos
  rw [← List.countP_eq_length_filter, ← List.countP_eq_length_filter]
  exact List.countP_mono_left (fun x _ hx => by simp at hx ⊢; omega)
theorem word_pos {l : List Mb} (h : Up l) (x : Mb) : word l x.I = some x ↔ ∃ hi : pos l x.I < l.length, l[pos l x.I] = x := by
  constructor
  · intro hw
    have hh : has l x.I = true := by unfold has; rw [hw]; rfl
    obtain ⟨hi, he⟩ := (has_at h x.I).1 hh
    refine ⟨hi, ?_⟩
    have := word_at h hi he
    rw [hw] at this
    exact (Option.some.inj this).symm
  · rintro ⟨hi, he⟩
    have := word_at h hi (by rw [he])
    rw [this, he]
theorem fresh_take (l now : List Mb) (k : Nat) (hk : k < now.length) : fresh l (now.take (k + 1)) = fresh l (now.take k) ++ (if word l now[k].I = some now[k] then [] else [now[k]]) := by
  unfold fresh
  rw [List.take_succ_eq_append_getElem hk, List.filter_append]
  congr 1
  by_cases h : word l now[k].I = some now[k] <;> simp [h]
theorem fresh_at_ (l now : List Mb) (k : Nat) (hk : k < now.length) (h : word l now[k].I ≠ some now[k]) : (fresh l (now.take k)).length < (fresh l now).length ∧ (fresh l now).getD (fresh l (now.take k)).length Mb.none = now[k] := by
  have e : now = now.take k ++ now[k] :: now.drop (k + 1) := by rw [← List.drop_eq_getElem_cons hk, List.take_append_drop]
  have e2 : fresh l now = fresh l (now.take k) ++ now[k] :: fresh l (now.drop (k + 1)) := by
    conv => lhs; rw [e]
    unfold fresh
    rw [List.filter_append, List.filter_cons, if_pos (by simpa using h)]
  rw [e2]
  constructor
  · simp
  · rw [List.getD_eq_getElem?_getD, List.getElem?_append_right (Nat.le_refl _)]; simp
end Vw
def tellM (fs : List Mb) (k : Nat) : Array Value := #[mv (fs.getD k Mb.none)]
/-- What the iterator needs: both lists, where they lie. -/
def NdM (l now : List Mb) (n m c d : Nat) (q p : Option Addr) (Bi Bw : Nat) (_ : Nat) (W : World) : Prop :=
  W.cell? ⟨Bi, 0, none⟩ = some (.slice p m d) ∧ W.cell? ⟨Bw, 0, none⟩ = some (.slice q n c) ∧ GoodW W now p d ∧ GoodW W l q c
attribute [local go_sem] Oper.semAt_some
section
attribute [local go_sem ↓] execOp_loadM execOp_storeM execOp_eqlM execOp_neqM execOp_buildM
set_option maxRecDepth 100000 in
set_option maxHeartbeats 4000000 in
theorem news_says (mf : Nat) (h1 : 1 ≤ mf) (l now : List Mb) (n m c d : Nat) (q p : Option Addr) (Bi Bw : Nat) (hlo : Vw.Ok l) (hno : Vw.Ok now) (hn : l.length = n) (hm : now.length = m) (hsn : n ≤ 1000) (hsm : m ≤ 2000) (w : World) :
    SeqSays Fence.wide mf Try.prog 51 #[.pointer (some ⟨Bi, 0, none⟩), .pointer (some ⟨Bw, 0, none⟩)] (tellM (Vw.fresh l now)) (Vw.fresh l now).length (NdM l now n m c d q p Bi Bw) w := by
  intro lp J Jx W hW hJ hJx hNd hY h0
  have HN := Lib.hid hn
  have HM := Lib.hid hm
  have HD := Lib.hid hNd
  have HY := Lib.hid hY
  have HJA := Lib.hid hJ
  have HLO := Lib.hid hlo
  have HNO := Lib.hid hno
  have hN0 := hNd 0 W h0
  have cI := hN0.1
  have b1 := hN0.2.2.1.le
  have b2 := hN0.2.2.1.max
  have b3 := hN0.2.2.2.le
  have b4 := hN0.2.2.2.max
  rw [hm] at b1
  rw [hn] at b3
  clear hn hm hNd hY hJ hJx hW hN0 hlo hno
  refine callsIn_of_wp Try.func51 rfl trivial ?_ rfl
  simp only [Try.ntmps51, List.size_toArray, List.length_cons, List.length_nil, Nat.reduceAdd, Nat.reduceSub, Array.replicate_succ, Array.replicate_zero, List.push_toArray, List.append_toArray, List.nil_append, List.cons_append]
  gi_wp2
  gi_loopw [9, 4] (fun i v wr => ∃ k a cnt : Nat, i = .int .i64 k ∧ v = .int .i64 a ∧ k ≤ m ∧ a ≤ n ∧ Hid ((Vw.fresh l (now.take k)).length = cnt) ∧ Hid (∀ x ∈ now.drop k, a ≤ Vw.pos l x.I) ∧ Hid (J cnt wr)) (fun i _ _ => m - (intOf i).toNat)
  case atStart => exact ⟨0, 0, 0, rfl, rfl, Nat.zero_le _, Nat.zero_le _, Lib.hid (by simp [Vw.fresh]), Lib.hid (fun _ _ => Nat.zero_le _), Lib.hid h0⟩
  case round =>
    clear cI
    obtain ⟨k, a0, cnt, rfl, rfl, hk, ha0, HCN, HPS, HJ⟩ := hrel
    by_cases hlt : k < m
    · have hk1 : k < now.length := by rw [HM.out]; exact hlt
      obtain ⟨e1, e2, g1, g2⟩ := HD.out cnt wr HJ.out
      obtain ⟨b, off, hqq, hr⟩ := g1.get k hk1
      subst hqq
      have l0 := run_loadM hr
      have jk : (0 : Int) ≤ (k : Int) ∧ (k : Int) < (m : Int) := by omega
      have hdc := List.drop_eq_getElem_cons hk1
      have HPS1 := HPS.out now[k] (by rw [hdc]; exact List.mem_cons_self ..)
      have HPSN := Lib.hid (show ∀ x ∈ now.drop (k + 1), Vw.pos l now[k].I ≤ Vw.pos l x.I from fun x hx => Vw.pos_mono (by
        have h3 := HNO.out.2
        rw [← List.take_append_drop k now, hdc] at h3
        have := (List.pairwise_cons.1 (List.pairwise_append.1 h3).2.1).1 x hx
        omega))
      have HFT := Lib.hid (Vw.fresh_take l now k hk1)
      have HFA := Lib.hid (Vw.fresh_at_ l now k hk1)
      rw [HCN.out] at HFA
      have HWP := Lib.hid (Vw.word_pos HLO.out.2 now[k])
      have HPL := Vw.pos_le l now[k].I
      rw [HN.out] at HPL
      have HPT := Lib.hid (fun i hi => Vw.pos_lt HLO.out.2 now[k].I i hi)
      generalize now[k] = x at *
      generalize Vw.pos l x.I = ps at *
      have s9 := put_run wr x
      have P9 := Lib.hid (Put.new wr x)
      have hJ9 := Lib.hid (HJA.out _ _ _ none HJ.out (grownBy_below P9.out.below) (fun r e => by cases e))
      generalize putM wr x = w5 at *
      clear hr hk1 e1 e2 g1 g2 hdc HPS HJ
      gi_wp2
      gi_loopw [4] (fun v wr2 => ∃ a : Nat, v = .int .i64 a ∧ a ≤ ps ∧ Hid (Below w5.heap.size w5 wr2)) (fun v _ => n - (intOf v).toNat)
      case atStart => exact ⟨a0, rfl, HPS1, Lib.hid (Below.refl _ _)⟩
      case round =>
        clear s9 l0 HPS1
        obtain ⟨a, rfl, ha, HB2⟩ := hrel
        rename World => wr2
        have hJ2 := HJA.out _ _ _ none hJ9.out (grownBy_below HB2.out) (fun r e => by cases e)
        obtain ⟨e1, e2, g1, g2⟩ := HD.out cnt wr2 hJ2
        have P2 := Lib.hid (P9.out.on HB2.out)
        have c6 := rangeM_I (rangeM_of P2.out.blk)
        by_cases hA : a < n
        · have ta : decide ((a : Int) < (n : Int)) = true := decide_eq_true (by omega)
          have ha1 : a < l.length := by rw [HN.out]; exact hA
          have hpa := HPT.out a ha1
          have hja : (0 : Int) ≤ (a : Int) ∧ (a : Int) < (n : Int) := by omega
          obtain ⟨b', off', hqq, hr'⟩ := g2.get a ha1
          subst hqq
          have c7 := rangeM_I hr'
          by_cases hA2 : a < ps
          · have tb : decide ((l[a]'ha1).I < x.I) = true := decide_eq_true (hpa.1 hA2)
            generalize l[a] = y at *
            clear hr' hpa hJ2 g1 g2 ha1
            gi_wp2
            refine wpIn_region_quiet_lit rfl (by kernel_rfl) (by kernel_rfl) ?_
            repeat (first | gi_big_quiet_step (fail) | (refine wpQuietIn_step (fun _ _ _ _ => trivial) (fun K hK => ?_); go_simp; refine hK _ ?_; clear hK K))
            refine wpQuietIn_nil ?_
            rintro _ ⟨nq, rfl⟩
            have HB3 := Lib.hid (below_drewN HB2.out nq)
            clear c6 c7 e1 e2 P2 HB2
            generalize wr2.drewN nq = wr3 at *
            gi_wp2
            go_roundw
            case rel => exact ⟨a + 1, by go_num, by omega, HB3⟩
            case measure => simp [intOf]; omega
          · skip
            obtain rfl : a = ps := by omega
            have tb : decide ((l[a]'ha1).I < x.I) = false := decide_eq_false (fun h => hA2 (hpa.2 h))
            have HWA := Lib.hid (show Vw.word l x.I = some x ↔ l[a]'ha1 = x from HWP.out.trans ⟨fun ⟨_, h⟩ => h, fun h => ⟨ha1, h⟩⟩)
            have HRY := Lib.hid hr'
            generalize l[a] = y at *
            clear hr' hpa hJ2 g1 g2 ha1 HWP HPT
            gi_wp2
            refine wpIn_region_quiet_lit rfl (by kernel_rfl) (by kernel_rfl) ?_
            repeat (first | gi_big_quiet_step (fail) | (refine wpQuietIn_step (fun _ _ _ _ => trivial) (fun K hK => ?_); go_simp; refine hK _ ?_; clear hK K))
            refine wpQuietIn_nil ?_
            rintro _ ⟨nq, rfl⟩
            have HB3 := Lib.hid (below_drewN HB2.out nq)
            have hJ3 := HJA.out _ _ _ none hJ9.out (grownBy_below HB3.out) (fun r e => by cases e)
            clear e1 e2
            obtain ⟨e1, e2, _, _⟩ := HD.out cnt _ hJ3
            have HRZ := Lib.hid (rangeM_on HRY.out (below_drewN (Below.refl wr2.heap.size wr2) nq))
            have P3 := Lib.hid (P9.out.on HB3.out)
            clear c6 c7 P2 HB2 HRY hJ3
            generalize wr2.drewN nq = wr3 at *
            have m1 := fun nq => run_loadM (rangeM_on HRZ.out (below_drewN (Below.refl wr3.heap.size wr3) nq))
            have m2 := fun nq => (P3.out.on (below_drewN (Below.refl wr3.heap.size wr3) nq)).load
            by_cases hxy : y = x
            · have HQ := run_eqlM y x true (by simp [hxy])
              have HCN2 := Lib.hid (show (Vw.fresh l (now.take (k + 1))).length = cnt from by rw [HFT.out, if_pos (HWA.out.2 hxy), List.append_nil, HCN.out])
              clear hxy HWA HFA
              gi_wp2
              refine wpIn_region_quiet_lit rfl (by kernel_rfl) (by kernel_rfl) ?_
              repeat (first | gi_big_quiet_step (fail) | (refine wpQuietIn_step (fun _ _ _ _ => trivial) (fun K hK => ?_); go_simp; refine hK _ ?_; clear hK K))
              refine wpQuietIn_nil ?_
              rintro _ ⟨nq, rfl⟩
              have HB4 := Lib.hid (below_drewN HB3.out nq)
              have HJ4 := Lib.hid (HJA.out _ _ _ none hJ9.out (grownBy_below HB4.out) (fun r e => by cases e))
              clear m1 m2 e1 e2 HB3 HQ
              generalize wr3.drewN nq = wr4 at *
              gi_wp2
              go_roundw
              case rel => exact ⟨k + 1, a, cnt, by go_num, rfl, by omega, by omega, HCN2, HPSN, HJ4⟩
              case measure => simp [intOf]; omega
            · have HQ := run_eqlM y x false (by simp [hxy])
              have HNW := Lib.hid (show Vw.word l x.I ≠ some x from fun h => hxy (HWA.out.1 h))
              have HNEW := Lib.hid (HFA.out HNW.out)
              clear hxy HWA HFA
              gi_wp2
              refine wpIn_region_quiet_lit rfl (by kernel_rfl) (by kernel_rfl) ?_
              repeat (first | gi_big_quiet_step (fail) | (refine wpQuietIn_step (fun _ _ _ _ => trivial) (fun K hK => ?_); go_simp; refine hK _ ?_; clear hK K))
              refine wpQuietIn_nil ?_
              rintro _ ⟨nq, rfl⟩
              have HB4 := Lib.hid (below_drewN HB3.out nq)
              clear m1 m2 e1 e2 HB3 HQ
              generalize wr3.drewN nq = wr4 at *
              have hJ4 := HJA.out _ _ _ none hJ9.out (grownBy_below HB4.out) (fun r e => by cases e)
              have l5 := (P9.out.on HB4.out).load
              obtain ⟨fn, tmps, assign, body, hy, hR⟩ := HY.out cnt wr4 HNEW.out.1 hJ4
              unfold tellM at hy
              rw [HNEW.out.2] at hy
              have HR := Lib.hid hR
              have HCN2 := Lib.hid (show (Vw.fresh l (now.take (k + 1))).length = cnt + 1 from by rw [HFT.out, List.length_append, HCN.out, if_neg HNW.out]; rfl)
              have hcl := HNEW.out.1
              clear hR hJ4 HNEW
              gi_wp2
              refine HR.out.mono ?_
              rintro e W3 (⟨rfl, hJ5⟩ | ⟨rfl, hJx5⟩)
              · have HJ5 := Lib.hid hJ5
                clear hJ5 hy l5
                gi_wp2
                go_roundw
                case rel => exact ⟨k + 1, a, cnt + 1, by go_num, rfl, by omega, by omega, HCN2, HPSN, HJ5⟩
                case measure => simp [intOf]; omega
              · have HJ5 := Lib.hid hJx5
                clear hJx5 hy l5
                gi_wp2
                refine bodyPost_ret (results_none rfl _ _ _) rfl ?_
                exact ⟨⟨_, rfl⟩, .inr ⟨cnt + 1, by omega, HJ5.out⟩⟩
        · skip
          obtain rfl : a = n := by omega
          obtain rfl : ps = a := by omega
          have ta : decide ((ps : Int) < (ps : Int)) = false := decide_eq_false (by omega)
          have HNW := Lib.hid (show Vw.word l x.I ≠ some x from fun h => by obtain ⟨hi, _⟩ := HWP.out.1 h; rw [HN.out] at hi; omega)
          have HNEW := Lib.hid (HFA.out HNW.out)
          clear hJ2 g1 g2 HWP HPT HFA
          gi_wp2
          refine wpIn_region_quiet_lit rfl (by kernel_rfl) (by kernel_rfl) ?_
          repeat (first | gi_big_quiet_step (fail) | (refine wpQuietIn_step (fun _ _ _ _ => trivial) (fun K hK => ?_); go_simp; refine hK _ ?_; clear hK K))
          refine wpQuietIn_nil ?_
          rintro _ ⟨nq, rfl⟩
          have HB3 := Lib.hid (below_drewN HB2.out nq)
          have hJ3 := HJA.out _ _ _ none hJ9.out (grownBy_below HB3.out) (fun r e => by cases e)
          clear e1 e2
          obtain ⟨e1, e2, _, _⟩ := HD.out cnt _ hJ3
          clear c6 P2 HB2 hJ3
          generalize wr2.drewN nq = wr3 at *
          gi_wp2
          refine wpIn_region_quiet_lit rfl (by kernel_rfl) (by kernel_rfl) ?_
          repeat (first | gi_big_quiet_step (fail) | (refine wpQuietIn_step (fun _ _ _ _ => trivial) (fun K hK => ?_); go_simp; refine hK _ ?_; clear hK K))
          refine wpQuietIn_nil ?_
          rintro _ ⟨nq, rfl⟩
          have HB4 := Lib.hid (below_drewN HB3.out nq)
          clear e1 e2 HB3
          generalize wr3.drewN nq = wr4 at *
          have hJ4 := HJA.out _ _ _ none hJ9.out (grownBy_below HB4.out) (fun r e => by cases e)
          have l5 := (P9.out.on HB4.out).load
          obtain ⟨fn, tmps, assign, body, hy, hR⟩ := HY.out cnt wr4 HNEW.out.1 hJ4
          unfold tellM at hy
          rw [HNEW.out.2] at hy
          have HR := Lib.hid hR
          have HCN2 := Lib.hid (show (Vw.fresh l (now.take (k + 1))).length = cnt + 1 from by rw [HFT.out, List.length_append, HCN.out, if_neg HNW.out]; rfl)
          have hcl := HNEW.out.1
          clear hR hJ4 HNEW
          gi_wp2
          refine HR.out.mono ?_
          rintro e W3 (⟨rfl, hJ5⟩ | ⟨rfl, hJx5⟩)
          · have HJ5 := Lib.hid hJ5
            clear hJ5 hy l5
            gi_wp2
            go_roundw
            case rel => exact ⟨k + 1, ps, cnt + 1, by go_num, rfl, by omega, by omega, HCN2, HPSN, HJ5⟩
            case measure => simp [intOf]; omega
          · have HJ5 := Lib.hid hJx5
            clear hJx5 hy l5
            gi_wp2
            refine bodyPost_ret (results_none rfl _ _ _) rfl ?_
            exact ⟨⟨_, rfl⟩, .inr ⟨cnt + 1, by omega, HJ5.out⟩⟩
    · obtain rfl : k = m := by omega
      have HE := Lib.hid (show J (Vw.fresh l now).length wr from by
        have h := HCN.out
        rw [List.take_of_length_le (by rw [HM.out]; exact Nat.le_refl _)] at h
        rw [h]; exact HJ.out)
      gi_wp2
      go_end0
      exact ⟨⟨_, rfl⟩, .inl HE.out⟩
end
end
section
set_option linter.unusedSimpArgs false
set_option linter.unusedVariables false
open Go.RowKit Sha
theorem setCells_heap (b : Nat) : ∀ (vs : List Value) (o : Nat) (w : World) (i : Nat), i ≠ b → (w.setCells b o vs).heap[i]? = w.heap[i]?
  | [], _, _, _, _ => rfl
  | v :: r, o, w, i, h => by
    rw [World.setCells, setCells_heap b r (o + 1) _ i h]
    exact Below.heap_setCell w ⟨b, o, none⟩ v i h
theorem setCells_below {B b : Nat} {a : World} (hb : B ≤ b) : ∀ (vs : List Value) (o : Nat) (w : World), Below B a w → Below B a (w.setCells b o vs)
  | [], _, _, h => h
  | v :: r, o, w, h => by rw [World.setCells]; exact setCells_below hb r (o + 1) _ (h.setCell hb v)
theorem Blk.setCells {g : Nat} {t : TypeId} : ∀ (vs : List Value) (o : Nat) (w : World) (pre mid post : List Value), Blk w g (pre ++ mid ++ post) t → pre.length = o → mid.length = vs.length → Blk (w.setCells g o vs) g (pre ++ vs ++ post) t
  | [], o, w, pre, mid, post, h, _, hm => by
    have : mid = [] := List.eq_nil_of_length_eq_zero hm
    subst this; exact h
  | v :: r, o, w, pre, mid, post, h, ho, hm => by
    cases mid with
    | nil => simp at hm
    | cons m mid =>
      rw [World.setCells]
      have h1 := h.set o v
      have e : (pre ++ (m :: mid) ++ post).set o v = (pre ++ [v]) ++ mid ++ post := by
        subst ho; simp
      rw [e] at h1
      have := Blk.setCells r (o + 1) _ (pre ++ [v]) mid post h1 (by simp [ho]) (by simpa using hm)
      simpa using this
theorem Blk.there {w : World} {g : Nat} {cs : List Value} {t : TypeId} (h : Blk w g cs t) (o n : Nat) (hn : o + n ≤ cs.length) : w.there g o n := fun j hj =>
  ⟨by rw [h.cell, List.getElem?_eq_getElem (by omega)]; rfl, h.free _⟩
theorem own_at_s {w : World} {B n size : Nat} {e : TypeId} {v : Value} {xs : List Value} (h : w.ownsRow B e size v n xs) : ∃ p cap, v = .slice p n cap ∧ n ≤ cap ∧ cap ≤ maxLen ∧ At w p xs ∧ xs.length = n * size ∧ (p = none → cap = 0) := by
  have hx := h.1
  rcases h.2 with ⟨hv, h0⟩ | ⟨g, cap, cur, hv, hg, hh, h1, h2, h3, h4⟩
  · subst h0
    refine ⟨none, 0, hv, by omega, by decide, Or.inl (List.eq_nil_of_length_eq_zero (by simpa using hx)), hx, fun _ => rfl⟩
  · refine ⟨_, cap, hv, h1, h2, Or.inr ⟨g, 0, rfl, fun i u hu => ?_⟩, hx, fun h => by cases h⟩
    have := h.cells (g := g) (by rw [hv]; rfl) i u hu
    rwa [Addr.add_mid] at this
theorem At.ofBlk {w : World} {g : Nat} {xs rest : List Value} {t : TypeId} (h : Blk w g (xs ++ rest) t) : At w (some ⟨g, 0, none⟩) xs := by
  refine Or.inr ⟨g, 0, rfl, fun i v hi => ?_⟩
  rw [Nat.zero_add, h.cell, List.getElem?_append_left (List.getElem?_eq_some_iff.1 hi).1]
  exact hi
section
variable {P : Program}
/-- A cut, as one operation. -/
@[irreducible] def sliceOp (t : TypeId) (v : Value) (lo hi : Option Value) : Sem Next := do pure (.value (← Instr.sliceAt t v lo hi none))
theorem run_sliceOp {t : TypeId} {v u : Value} {lo hi : Option Value} {w : World} (h : (Instr.sliceAt t v lo hi none).run P w = .ok u w) : (sliceOp t v lo hi).run P w = .ok (.value u) w := by
  unfold sliceOp; simp only [Sem.run_bind, h, Result.andThen_ok, Sem.run_pure]
variable {t e : TypeId} {s : Nat}
theorem size_ofS (he : (P.info? e).map (fun i => i.size) = some s) (w : World) : (sizeOf e).run P w = .ok s w := by
  cases hq : P.info? e with
  | none => simp [hq] at he
  | some j => simp [hq] at he; simp [sizeOf, typeInfo, hq, he]
theorem elem_ofS (hu : P.underlying t = some (.slice e)) : P.elem t = e := by simp [Program.elem, hu]
theorem run_cutS_l (hu : P.underlying t = some (.slice e)) (he : (P.info? e).map (fun i => i.size) = some s) (p : Option Addr) (len cap k : Nat) (hk : k ≤ len) (hc : len ≤ cap) (w : World) :
    (Instr.sliceAt t (.slice p len cap) (some (.int .i64 k)) none none).run P w = .ok (.slice (if cap = k then p else p.map (·.add (k * s))) (len - k) (cap - k)) w := by
  have hu' : P.underlying t = some (.slice (P.elem t)) := by rw [elem_ofS hu]; exact hu
  rw [run_sliceAt_slice w t _ _ _ _ hu', run_slice_l w t p len cap hu' .i64 k (by omega) (by omega), elem_ofS hu, size_ofS he]
  simp [Result.andThen, sliced]
theorem run_cutS_h (hu : P.underlying t = some (.slice e)) (he : (P.info? e).map (fun i => i.size) = some s) (p : Option Addr) (len cap k : Nat) (hk : k ≤ cap) (w : World) :
    (Instr.sliceAt t (.slice p len cap) none (some (.int .i64 k)) none).run P w = .ok (.slice p k cap) w := by
  have hu' : P.underlying t = some (.slice (P.elem t)) := by rw [elem_ofS hu]; exact hu
  rw [run_sliceAt_slice w t _ _ _ _ hu', run_slice_h w t p len cap hu' .i64 k (by omega) (by omega), elem_ofS hu, size_ofS he]
  simp [Result.andThen, sliced]
  intro _
  cases p with
  | none => rfl
  | some a => simp [Addr.add]
/-- A copy of structs. -/
theorem run_copyS (w : World) (hu : P.underlying t = some (.slice e)) (he : (P.info? e).map (fun i => i.size) = some s) (g off dLen dCap : Nat) (a : Addr) (sLen sCap k : Nat) (cs : List Value) (hk : k = Nat.min sLen dLen) (hl : cs.length = k * s)
    (hc : ∀ j v, cs[j]? = some v → w.cell? (a.add j) = some v) (ht : w.there g off cs.length) (h1 : ∀ v ∈ cs, v.oneCell' = true) (ty : TypeId) :
    (Builtin.copy_ #[t, t] ty #[.slice (some ⟨g, off, none⟩) dLen dCap, .slice (some a) sLen sCap]).run P w = .ok (goInt k) (w.setCells g off cs) := by
  have h2 := run_storeCells_cells (P := P) g off cs 0 w (fun j hj => by simpa using (ht j hj).1) (fun j hj => by simpa using (ht j hj).2) h1
  have h3 := run_firstCells_some (P := P) w s k a sLen sCap cs hl hc
  simp only [Nat.add_zero] at h2
  simp [Builtin.copy_, run_underlying hu, Builtin.lenOf, size_ofS he, ← hk, h3, h2, Result.andThen]
theorem copy_law (w : World) {ops : Array Oper} {rest : List Oper} {o : Oper} {a : Act} {Q : Exit → Act → World → Prop} (hgd : o.guard = none) (d x : Operand) (t1 t2 : TypeId)
    (ho : o.op = .call { callee := .builtin .copy, args := #[d, x], argTypes := #[t1, t2] }) (v u : Value) (hd : a.eval d = v) (hs : a.eval x = u) {v' : Value} {w' : World}
    (hr : (Builtin.copy_ #[t1, t2] o.type #[v, u]).run P w = .ok v' w') (h : wpList P ops Q rest (a.put o.dst v') w') : wpList P ops Q (o :: rest) a w := by
  refine wpList_plain hgd fun K hK => ?_
  unfold Oper.wp execOp
  simp only [ho, resolve, invoke, builtin, Sem.run_bind, Sem.run_pure, Result.andThen_ok, List.map_toArray, List.map_cons, List.map_nil, hd, hs, hr]
  exact hK _ _ h
theorem copy_step {ops : Array Oper} {o : Oper} {a : Act} {w : World} {K : Act → World → Prop} {Q : Exit → Act → World → Prop} {E : Prop}
    (hg : o.guard = none) (d x : Operand) (t1 t2 : TypeId) (hop : o.op = Op.call { callee := Callee.builtin Builtin.copy, args := #[d, x], argTypes := #[t1, t2] })
    (v u : Value) (hd : a.eval d = v) (hx : a.eval x = u) {v' : Value} {w' : World} (hr : (Builtin.copy_ #[t1, t2] o.type #[v, u]).run P w = .ok v' w') (hK : K (a.put o.dst v') w') :
    if Region.wanted o (yielded ops a.tmps) = true then Oper.wp P o a w K Q else E := by
  have hw : Region.wanted o (yielded ops a.tmps) = true := by simp [Region.wanted, hg]
  rw [if_pos hw]
  unfold Oper.wp execOp
  simp only [hop, resolve, invoke, builtin, Sem.run_bind, Sem.run_pure, Result.andThen_ok, List.map_toArray, List.map_cons, List.map_nil, hd, hx, hr]
  exact hK
end
section
variable {w : World} {B n s : Nat} {e : TypeId} {v : Value} {xs : List Value}
/-- A row of the call's own that has something, as its block. -/
theorem own_whole (h : w.ownsRow B e s v n xs) (hn : 0 < n) : ∃ g cap rest, v = .slice (some ⟨g, 0, none⟩) n cap ∧ B ≤ g ∧ n ≤ cap ∧ cap ≤ maxLen ∧ Blk w g (xs ++ rest) e ∧ xs.length = n * s ∧ (xs ++ rest).length = cap * s := by
  obtain ⟨h0, h⟩ := h
  rcases h with ⟨_, h0⟩ | ⟨g, cap, cur, hv, hg, hh, h1, h2, h3, h4⟩
  · omega
  · refine ⟨g, cap, cur.toList.drop (n * s), hv, hg, h1, h2, ?_, h0, ?_⟩
    · rw [← h4, List.take_append_drop]
      unfold Blk; simpa using hh
    · rw [← h4, List.take_append_drop]; simpa using h3
theorem own_ofBlk {g cap : Nat} {rest : List Value} (hg : B ≤ g) (hk : Blk w g (xs ++ rest) e) (hn : n ≤ cap) (hm : cap ≤ maxLen) (hl : xs.length = n * s) (hl2 : (xs ++ rest).length = cap * s) : w.ownsRow B e s (.slice (some ⟨g, 0, none⟩) n cap) n xs := by
  refine ⟨hl, Or.inr ⟨g, cap, (xs ++ rest).toArray, rfl, hg, hk, hn, hm, by simpa using hl2, ?_⟩⟩
  rw [← hl]; simp
end
theorem there_blk {w : World} {g : Nat} {cs : List Value} {t : TypeId} (h : Blk w g cs t) (o n : Nat) (hn : o + n ≤ cs.length) : w.there g o n := h.there o n hn
/-- One behind the other, the second from so far on. -/
theorem cells_in {w : World} {g : Nat} {pre cs post : List Value} {t : TypeId} (h : Blk w g (pre ++ cs ++ post) t) {o : Nat} (ho : pre.length = o) : ∀ j v, cs[j]? = some v → w.cell? ((⟨g, o, none⟩ : Addr).add j) = some v := fun j v hj => by
  have hlt := (List.getElem?_eq_some_iff.1 hj).1
  rw [Addr.add_mid, h.cell, List.append_assoc, List.getElem?_append_right (by omega), ho, Nat.add_sub_cancel_left, List.getElem?_append_left hlt]
  exact hj
end
end Go.Proofs.Ytocfcfoocmkkdaa
