/-
  The reference's view behind a word.
-/
import Derived.Test.YtocfcfoocmkkdaaQ7
import Derived.Deep.DeepCutAuto
import Derived.Deep.RegionHeld3
namespace Go.Proofs.Ytocfcfoocmkkdaa
section
set_option linter.unusedSimpArgs false
set_option linter.unusedVariables false
open Go.RowKit Sha
theorem at_word (W : World) (y : Mb) : At (W.alloc (.cells (mc y).toArray mt)) (some ⟨W.heap.size, 0, none⟩) (mc y) :=
  Or.inr ⟨W.heap.size, 0, rfl, fun i v h => by rw [Nat.zero_add, (Blk.new W (mc y).toArray mt).cell]; exact h⟩
theorem blk_grown {a b : World} {row : Option Nat} {g : Nat} {cs : List Value} {t : TypeId} (h : Blk a g cs t) (k : a.grownBy b row) (hr : ∀ j, row = some j → g + 1 ≤ j) : Blk b g cs t := by
  unfold Blk
  rw [k.block g h.lt (fun e => by have := hr g e.symm; omega)]; exact h
theorem own_less {w : World} {B B' n size : Nat} {e : TypeId} {v : Value} {xs : List Value} (h : w.ownsRow B e size v n xs) (hb : B' ≤ B) : w.ownsRow B' e size v n xs := by
  refine ⟨h.1, ?_⟩
  rcases h.2 with h | ⟨g, cap, cur, hv, hg, h4⟩
  · exact Or.inl h
  · exact Or.inr ⟨g, cap, cur, hv, Nat.le_trans hb hg, h4⟩
/-- What is laid when k words are gone through. -/
structure InsAt (l : List Mb) (m : Mb) (k : Nat) (d : Bool) (o : List Mb) : Prop where
  no : d = false → o = l.take k ∧ Vw.ins l m = l.take k ++ Vw.ins (l.drop k) m
  yes : d = true → Vw.ins l m = o ++ l.drop k
theorem InsAt.start (l : List Mb) (m : Mb) : InsAt l m 0 false [] := ⟨fun _ => ⟨by simp, by simp⟩, fun h => by cases h⟩
theorem InsAt.late {l : List Mb} {m : Mb} {k : Nat} {o : List Mb} (h : InsAt l m k true o) (hk : k < l.length) : InsAt l m (k + 1) true (o ++ [l[k]]) :=
  ⟨fun h => (by cases h), fun _ => by rw [h.yes rfl, List.drop_eq_getElem_cons hk]; simp⟩
theorem InsAt.less {l : List Mb} {m : Mb} {k : Nat} {o : List Mb} (h : InsAt l m k false o) (hk : k < l.length) (hlt : l[k].I < m.I) : InsAt l m (k + 1) false (o ++ [l[k]]) := by
  refine ⟨fun _ => ?_, fun h => by cases h⟩
  obtain ⟨h1, h2⟩ := h.no rfl
  rw [List.take_succ_eq_append_getElem hk, h1]
  refine ⟨rfl, ?_⟩
  rw [h2, List.drop_eq_getElem_cons hk]
  rw [show Vw.ins (l[k] :: l.drop (k + 1)) m = l[k] :: Vw.ins (l.drop (k + 1)) m from by
    rw [Vw.ins, if_neg (by omega), if_neg (by omega)]]
  rw [List.append_assoc]; rfl
theorem InsAt.same {l : List Mb} {m : Mb} {k : Nat} {o : List Mb} (h : InsAt l m k false o) (hk : k < l.length) (he : l[k].I = m.I) : InsAt l m (k + 1) true (o ++ [l[k].merge m]) := by
  refine ⟨fun h => (by cases h), fun _ => ?_⟩
  obtain ⟨h1, h2⟩ := h.no rfl
  rw [h2, List.drop_eq_getElem_cons hk, h1]
  rw [show Vw.ins (l[k] :: l.drop (k + 1)) m = l[k].merge m :: l.drop (k + 1) from by
    rw [Vw.ins, if_neg (by omega), if_pos he]]
  simp
theorem InsAt.here {l : List Mb} {m : Mb} {k : Nat} {o : List Mb} (h : InsAt l m k false o) (hk : k < l.length) (hlt : m.I < l[k].I) : InsAt l m (k + 1) true (o ++ [m] ++ [l[k]]) := by
  refine ⟨fun h => (by cases h), fun _ => ?_⟩
  obtain ⟨h1, h2⟩ := h.no rfl
  rw [h2, List.drop_eq_getElem_cons hk, h1]
  rw [show Vw.ins (l[k] :: l.drop (k + 1)) m = m :: l[k] :: l.drop (k + 1) from by
    rw [Vw.ins, if_pos hlt]]
  simp
def RowDone (l : List Mb) (w : World) (e : Ending) (w' : World) : Prop := ∃ v, e = .returned v ∧ w'.ownsRow w.heap.size mt 3 v l.length (l.flatMap mc) ∧ Below w.heap.size w w'
theorem rmerge_at (a b c : Mb) (z : Int) (w : World) (h1 : a.merge b = c) (h2 : a.berr b = z) : Calls Try.prog 52 #[mv a, mv b] w (MbDone c z w) := by have := rmerge_any a b w; rwa [h1, h2] at this
section
attribute [local go_sem ↓] execOp_loadM execOp_storeM execOp_eqlM execOp_neqM execOp_buildM
set_option maxRecDepth 100000 in
set_option maxHeartbeats 8000000 in
theorem ins_any (l : List Mb) (n : Nat) (q : Option Addr) (c : Nat) (m : Mb) (w : World) (hn : l.length = n) (hl : GoodW w l q c) (hs : n ≤ 1000) :
    Calls Try.prog 36 #[.slice q n c, mv m] w (RowDone (Vw.ins l m) w) := by
  have HL := Lib.hid hl
  have HN := Lib.hid hn
  have b1 := hl.le
  have b2 := hl.max
  rw [hn] at b1
  clear hl hn
  have HK0 := Lib.hid (show Blk (w.alloc (.cells (mc m).toArray mt)) w.heap.size (mc m) mt from Blk.new w (mc m).toArray mt)
  have HB0 := Lib.hid (show Below w.heap.size w (w.alloc (.cells (mc m).toArray mt)) from (Below.refl _ _).alloc (Nat.le_refl _) _)
  go_enter Try.func36, Try.ntmps36
  go_wp2_with fail
  generalize w.alloc (.cells (mc m).toArray mt) = w0 at *
  go_loopw [7, 6, 5] (fun i dn v wr => ∃ (k cnt : Nat) (d : Bool) (o : List Mb), i = .int .i64 k ∧ dn = .bool d ∧ k ≤ n ∧ cnt ≤ k + 1 ∧ Hid (InsAt l m k d o) ∧ Hid (o.length = cnt) ∧ Hid (wr.ownsRow (w.heap.size + 1) mt 3 v cnt (o.flatMap mc)) ∧ Hid (Blk wr w.heap.size (mc m) mt) ∧ Hid (Below w.heap.size w wr)) (fun i _ _ _ => n - (intOf i).toNat)
  case atStart => exact ⟨0, 0, false, [], rfl, rfl, by omega, by omega, Lib.hid (InsAt.start l m), Lib.hid rfl, Lib.hid (World.ownsRow_nil _ _ _ _), HK0, HB0⟩
  case round =>
    obtain ⟨k, cnt, d, o, rfl, rfl, hk, hck, HI, HOL, HO, HKM, HB⟩ := hrel
    by_cases hlt : k < n
    · have hk1 : k < l.length := by rw [HN.out]; exact hlt
      obtain ⟨b, off, rfl, hr⟩ := HL.out.get k hk1
      have HRG := Lib.hid (fun w' (hb : Below w.heap.size w w') => rangeM_on hr hb)
      have jk : (0 : Int) ≤ (k : Int) ∧ (k : Int) < (n : Int) := by omega
      clear hr
      cases d with
      | true =>
        have HI2 := Lib.hid (HI.out.late hk1)
        generalize l[k] = x at *
        clear HI
        obtain ⟨I, W, hC⟩ := cls_of wr
        have hne : Nonempty I := hC.ne
        have HC := Lib.hid hC
        clear hC
        go_wp2_with fail
        refine wp_region_cls W (by kernel_rfl) (by kernel_rfl) HC.out.one ?_
        repeat go_big_quiet_step (fail)
        refine wpQuiet_nil ?_
        rintro _ ⟨mm, rfl⟩
        have HB5 := Lib.hid (below_next HB.out (HC.out.back mm))
        have HO5 := Lib.hid (own_on_w HO.out (HC.out.back mm))
        have HK5 := Lib.hid (HKM.out.upon (HC.out.back mm))
        clear HC
        generalize W mm = w5 at *
        clear W hne
        have l5 := run_loadM (HRG.out w5 HB5.out)
        have c0 := run_buildM1 w5 x
        have HAT := Lib.hid (at_word w5 x)
        have HO9a := Lib.hid (own_on_w HO5.out ((Below.refl _ _).alloc (Nat.le_refl _) (.cells (mc x).toArray mt)))
        have HB9a := Lib.hid (below_next HB5.out ((Below.refl _ _).alloc (Nat.le_refl _) (.cells (mc x).toArray mt)))
        have HK9a := Lib.hid (Blk.upon HK5.out ((Below.refl _ _).alloc (Nat.le_refl _) (.cells (mc x).toArray mt)))
        generalize w5.alloc (.cells (mc x).toArray mt) = wa9 at *
        go_wp2_with (refine wpList_app_s rfl _ _ 22 rfl (w.heap.size + 1) mt (z := .agg #[.int .i64 0, .int .i64 0, .int .i64 0]) (by decide) Try.underlying22 mem_info rfl _ (cnt) (o.flatMap mc) rfl HO9a.out _ 1 1 (mc x) rfl HAT.out rfl (fun h => by cases h) (Nat.le_refl _) (wflat_one [x]) (by omega) (by unfold maxLen; omega) (Nat.lt_of_lt_of_le HK9a.out.lt (Nat.le_refl _)) ?_; intro v9 w9 hv9 hg9 _)
        have HB9 := Lib.hid (grown_below HB9a.out hg9 (fun g e => Nat.le_trans (Nat.le_succ _) (own_base_w HO9a.out g e).1) HB9a.out.size)
        have HK9 := Lib.hid (blk_grown HK9a.out hg9 (fun g e => (own_base_w HO9a.out g e).1))
        have HO9 := Lib.hid hv9
        clear HAT c0 hv9 hg9 HO9a HB9a HK9a
        go_roundw
        case rel => exact ⟨k + 1, cnt + 1, true, o ++ [x], by go_num, rfl, by omega, by omega, HI2, Lib.hid (by simp [HOL.out]), Lib.hid (by simp only [List.flatMap_append, ← List.append_assoc]; simpa using HO9.out), HK9, HB9⟩
        case measure => simp [intOf]; omega
      | false =>
        by_cases hge : m.I ≤ l[k].I
        · have t1 : decide (m.I ≤ l[k].I) = true := decide_eq_true hge
          by_cases heq : l[k].I = m.I
          · have t2 : (l[k].I == m.I) = true := by simpa using heq
            have HI2 := Lib.hid (HI.out.same hk1 heq)
            generalize l[k] = x at *
            clear HI heq hge
            obtain ⟨I, W, hC⟩ := cls_of wr
            have hne : Nonempty I := hC.ne
            have d1 := hC.cell (rangeM_I (HRG.out _ HB.out))
            have d2 := hC.cell (rangeM_I (rangeM_of HKM.out))
            have HC := Lib.hid hC
            clear hC
            go_wp2_with fail
            refine wp_region_cls W (by kernel_rfl) (by kernel_rfl) HC.out.one ?_
            repeat go_big_quiet_step (fail)
            refine wpQuiet_nil ?_
            rintro _ ⟨mm, rfl⟩
            have HB5 := Lib.hid (below_next HB.out (HC.out.back mm))
            have HO5 := Lib.hid (own_on_w HO.out (HC.out.back mm))
            have HK5 := Lib.hid (HKM.out.upon (HC.out.back mm))
            clear HC d1 d2
            generalize W mm = w5 at *
            clear W hne
            obtain ⟨I, W, hC⟩ := cls_of w5
            have hne : Nonempty I := hC.ne
            have d1 := hC.cell (rangeM_I (HRG.out _ HB5.out))
            have d2 := hC.cell (rangeM_I (rangeM_of HK5.out))
            have HC := Lib.hid hC
            clear hC
            go_wp2_with fail
            refine wp_region_cls W (by kernel_rfl) (by kernel_rfl) HC.out.one ?_
            repeat go_big_quiet_step (fail)
            refine wpQuiet_nil ?_
            rintro _ ⟨mm, rfl⟩
            have HB6 := Lib.hid (below_next HB5.out (HC.out.back mm))
            have HO6 := Lib.hid (own_on_w HO5.out (HC.out.back mm))
            have HK6 := Lib.hid (HK5.out.upon (HC.out.back mm))
            clear HC d1 d2
            generalize W mm = w6 at *
            clear W hne
            have HCM := Lib.hid (fun w => rmerge_at x m (x.merge m) (x.berr m) w rfl rfl)
            have E1 := Lib.hid (fun W (hb : Below w6.heap.size w6 W) => run_loadM (HRG.out W (below_next HB6.out hb)))
            have E2 := Lib.hid (fun W (hb : Below w6.heap.size w6 W) => run_loadM (rangeM_of (HK6.out.upon hb)))
            generalize x.merge m = z at *
            generalize x.berr m = er at *
            go_wp2_with fail
            go_upto_region 9 with fail
            go_cut [8, 9] (fun s8 s9 wx => ∃ g8 : Nat, s8 = .pointer (some ⟨g8, 0, none⟩) ∧ s9 = .int .i64 er ∧ Hid (Blk wx g8 (mc z) mt) ∧ Hid (Below w6.heap.size w6 wx))
            case first =>
              go_region_held3 (fun w' => Below w6.heap.size w6 w' ∧ (loadM mt (.pointer (some ⟨b, off + k * 3, none⟩))).run Try.prog w' = .ok (.value (mv x)) w' ∧ (loadM mt (.pointer (some ⟨w.heap.size, 0, none⟩))).run Try.prog w' = .ok (.value (mv m)) w')
                (exact ⟨(by (repeat (first | exact Below.refl _ _ | assumption | refine below_put0 ?_ _ | exact below_row0 (by assumption) _ | refine below_drew0 ?_ | refine below_alloc0 ?_ _))), E1.out _ (by (repeat (first | exact Below.refl _ _ | assumption | refine below_put0 ?_ _ | exact below_row0 (by assumption) _ | refine below_drew0 ?_ | refine below_alloc0 ?_ _))), E2.out _ (by (repeat (first | exact Below.refl _ _ | assumption | refine below_put0 ?_ _ | exact below_row0 (by assumption) _ | refine below_drew0 ?_ | refine below_alloc0 ?_ _)))⟩)
                ((go_at_call 52; refine (HCM.out _).mono ?_; rintro e w2 ⟨rfl, hb⟩; have hbw : Below w6.heap.size w6 w2 := below_next (by (repeat (first | exact Below.refl _ _ | assumption | refine below_put0 ?_ _ | exact below_row0 (by assumption) _ | refine below_drew0 ?_ | refine below_alloc0 ?_ _))) hb; have e1 := E1.out _ hbw; have e2 := E2.out _ hbw; have st := put_run w2 z; try (have hz2 : Blk w2 w6.heap.size (mc Mb.none) mt := (by first | exact Blk.below (put_new w6).drew hb (by simp) | exact Blk.below (put_new w6.drew) hb (by simp) | exact Blk.below (put_new w6) hb (by simp)); have HZ2 := Lib.hid hz2; have st2 := run_storeM (a := z) hz2; clear hz2); clear hb))
              all_goals go_wp2_with fail
              all_goals go_meet
              all_goals first
                | exact ⟨w6.heap.size, rfl, rfl, Lib.hid (HZ2.out.row _), Lib.hid (Below.setRow hbw (Nat.le_refl _) _)⟩
                | exact ⟨w2.heap.size, rfl, rfl, Lib.hid (put_blk w2 z), Lib.hid (below_next hbw (put_below w2 z))⟩
            case rest =>
              obtain ⟨g8, rfl, rfl, HZ, HB7w⟩ := hcut
              rename World => w7
              have l8 := run_loadM (rangeM_of HZ.out)
              have HB7 := Lib.hid (below_next HB6.out HB7w.out)
              have HO7 := Lib.hid (own_on_w HO6.out HB7w.out)
              have HK7 := Lib.hid (HK6.out.upon HB7w.out)
              clear E1 E2 HCM HB7w HZ
              have c0 := run_buildM1 w7 z
              have HAT := Lib.hid (at_word w7 z)
              have HO9a := Lib.hid (own_on_w HO7.out ((Below.refl _ _).alloc (Nat.le_refl _) (.cells (mc z).toArray mt)))
              have HB9a := Lib.hid (below_next HB7.out ((Below.refl _ _).alloc (Nat.le_refl _) (.cells (mc z).toArray mt)))
              have HK9a := Lib.hid (Blk.upon HK7.out ((Below.refl _ _).alloc (Nat.le_refl _) (.cells (mc z).toArray mt)))
              generalize w7.alloc (.cells (mc z).toArray mt) = wa9 at *
              go_wp2_with (refine wpList_app_s rfl _ _ 22 rfl (w.heap.size + 1) mt (z := .agg #[.int .i64 0, .int .i64 0, .int .i64 0]) (by decide) Try.underlying22 mem_info rfl _ (cnt) (o.flatMap mc) rfl HO9a.out _ 1 1 (mc z) rfl HAT.out rfl (fun h => by cases h) (Nat.le_refl _) (wflat_one [z]) (by omega) (by unfold maxLen; omega) (Nat.lt_of_lt_of_le HK9a.out.lt (Nat.le_refl _)) ?_; intro v9 w9 hv9 hg9 _)
              have HB9 := Lib.hid (grown_below HB9a.out hg9 (fun g e => Nat.le_trans (Nat.le_succ _) (own_base_w HO9a.out g e).1) HB9a.out.size)
              have HK9 := Lib.hid (blk_grown HK9a.out hg9 (fun g e => (own_base_w HO9a.out g e).1))
              have HO9 := Lib.hid hv9
              clear HAT c0 hv9 hg9 HO9a HB9a HK9a
              go_roundw
              case rel => exact ⟨k + 1, cnt + 1, true, o ++ [z], by go_num, rfl, by omega, by omega, HI2, Lib.hid (by simp [HOL.out]), Lib.hid (by simp only [List.flatMap_append, ← List.append_assoc]; simpa using HO9.out), HK9, HB9⟩
              case measure => simp [intOf]; omega
          · have t2 : (l[k].I == m.I) = false := by simpa using heq
            have HI2 := Lib.hid (HI.out.here hk1 (by omega))
            generalize l[k] = x at *
            clear heq hge
            have hcb : cnt ≤ k := by have h1 := (HI.out.no rfl).1; have h2 := HOL.out; rw [h1, List.length_take] at h2; omega
            clear HI
            obtain ⟨I, W, hC⟩ := cls_of wr
            have hne : Nonempty I := hC.ne
            have d1 := hC.cell (rangeM_I (HRG.out _ HB.out))
            have d2 := hC.cell (rangeM_I (rangeM_of HKM.out))
            have HC := Lib.hid hC
            clear hC
            go_wp2_with fail
            refine wp_region_cls W (by kernel_rfl) (by kernel_rfl) HC.out.one ?_
            repeat go_big_quiet_step (fail)
            refine wpQuiet_nil ?_
            rintro _ ⟨mm, rfl⟩
            have HB5 := Lib.hid (below_next HB.out (HC.out.back mm))
            have HO5 := Lib.hid (own_on_w HO.out (HC.out.back mm))
            have HK5 := Lib.hid (HKM.out.upon (HC.out.back mm))
            clear HC d1 d2
            generalize W mm = w5 at *
            clear W hne
            obtain ⟨I, W, hC⟩ := cls_of w5
            have hne : Nonempty I := hC.ne
            have d1 := hC.cell (rangeM_I (HRG.out _ HB5.out))
            have d2 := hC.cell (rangeM_I (rangeM_of HK5.out))
            have HC := Lib.hid hC
            clear hC
            go_wp2_with fail
            refine wp_region_cls W (by kernel_rfl) (by kernel_rfl) HC.out.one ?_
            repeat go_big_quiet_step (fail)
            refine wpQuiet_nil ?_
            rintro _ ⟨mm, rfl⟩
            have HB6 := Lib.hid (below_next HB5.out (HC.out.back mm))
            have HO6 := Lib.hid (own_on_w HO5.out (HC.out.back mm))
            have HK6 := Lib.hid (HK5.out.upon (HC.out.back mm))
            clear HC d1 d2
            generalize W mm = w6 at *
            clear W hne
            have l6 := run_loadM (rangeM_of HK6.out)
            have tk1 : True := trivial
            have c0 := run_buildM1 w6 m
            have HAT := Lib.hid (at_word w6 m)
            have HO7a := Lib.hid (own_on_w HO6.out ((Below.refl _ _).alloc (Nat.le_refl _) (.cells (mc m).toArray mt)))
            have HB7a := Lib.hid (below_next HB6.out ((Below.refl _ _).alloc (Nat.le_refl _) (.cells (mc m).toArray mt)))
            have HK7a := Lib.hid (Blk.upon HK6.out ((Below.refl _ _).alloc (Nat.le_refl _) (.cells (mc m).toArray mt)))
            generalize w6.alloc (.cells (mc m).toArray mt) = wa7 at *
            go_wp2_with ((first
              | (have _t := tk1; refine wpList_app_s rfl _ _ 22 rfl (w.heap.size + 1) mt (z := .agg #[.int .i64 0, .int .i64 0, .int .i64 0]) (by decide) Try.underlying22 mem_info rfl _ (cnt) (o.flatMap mc) rfl HO7a.out _ 1 1 (mc m) rfl HAT.out rfl (fun h => by cases h) (Nat.le_refl _) (wflat_one [m]) (by omega) (by unfold maxLen; omega) (Nat.lt_of_lt_of_le HK7a.out.lt (Nat.le_refl _)) ?_; intro v7 w7 hv7 hg7 _; (have HB7 := Lib.hid (grown_below HB7a.out hg7 (fun g e => Nat.le_trans (Nat.le_succ _) (own_base_w HO7a.out g e).1) HB7a.out.size)); (have HK7 := Lib.hid (blk_grown HK7a.out hg7 (fun g e => (own_base_w HO7a.out g e).1))); (have HO7 := Lib.hid hv7); (clear HAT c0 hv7 hg7 HO7a HB7a HK7a); (have l7 := run_loadM (HRG.out w7 HB7.out)); (have c0 := run_buildM1 w7 x); (have HAT := Lib.hid (at_word w7 x)); (have HO9a := Lib.hid (own_on_w HO7.out ((Below.refl _ _).alloc (Nat.le_refl _) (.cells (mc x).toArray mt)))); (have HB9a := Lib.hid (below_next HB7.out ((Below.refl _ _).alloc (Nat.le_refl _) (.cells (mc x).toArray mt)))); (have HK9a := Lib.hid (Blk.upon HK7.out ((Below.refl _ _).alloc (Nat.le_refl _) (.cells (mc x).toArray mt)))); (generalize w7.alloc (.cells (mc x).toArray mt) = wa9 at *); have tk2 : True := trivial; clear tk1 _t)
              | (have _t := tk2; refine wpList_app_s rfl _ _ 22 rfl (w.heap.size + 1) mt (z := .agg #[.int .i64 0, .int .i64 0, .int .i64 0]) (by decide) Try.underlying22 mem_info rfl _ (cnt + 1) ((o.flatMap mc) ++ mc m) rfl HO9a.out _ 1 1 (mc x) rfl HAT.out rfl (fun h => by cases h) (Nat.le_refl _) (wflat_one [x]) (by omega) (by unfold maxLen; omega) (Nat.lt_of_lt_of_le HK9a.out.lt (Nat.le_refl _)) ?_; intro v9 w9 hv9 hg9 _)))
            have HB9 := Lib.hid (grown_below HB9a.out hg9 (fun g e => Nat.le_trans (Nat.le_succ _) (own_base_w HO9a.out g e).1) HB9a.out.size)
            have HK9 := Lib.hid (blk_grown HK9a.out hg9 (fun g e => (own_base_w HO9a.out g e).1))
            have HO9 := Lib.hid hv9
            clear HAT c0 hv9 hg9 HO9a HB9a HK9a
            go_roundw
            case rel => exact ⟨k + 1, cnt + 1 + 1, true, o ++ [m] ++ [x], by go_num, rfl, by omega, by omega, HI2, Lib.hid (by simp [HOL.out]), Lib.hid (by simp only [List.flatMap_append, ← List.append_assoc]; simpa using HO9.out), HK9, HB9⟩
            case measure => simp [intOf]; omega
        · have t1 : decide (m.I ≤ l[k].I) = false := decide_eq_false hge
          have HI2 := Lib.hid (HI.out.less hk1 (by omega))
          generalize l[k] = x at *
          clear HI hge
          obtain ⟨I, W, hC⟩ := cls_of wr
          have hne : Nonempty I := hC.ne
          have d1 := hC.cell (rangeM_I (HRG.out _ HB.out))
          have d2 := hC.cell (rangeM_I (rangeM_of HKM.out))
          have HC := Lib.hid hC
          clear hC
          go_wp2_with fail
          refine wp_region_cls W (by kernel_rfl) (by kernel_rfl) HC.out.one ?_
          repeat go_big_quiet_step (fail)
          refine wpQuiet_nil ?_
          rintro _ ⟨mm, rfl⟩
          have HB5 := Lib.hid (below_next HB.out (HC.out.back mm))
          have HO5 := Lib.hid (own_on_w HO.out (HC.out.back mm))
          have HK5 := Lib.hid (HKM.out.upon (HC.out.back mm))
          clear HC d1 d2
          generalize W mm = w5 at *
          clear W hne
          have l5 := run_loadM (HRG.out w5 HB5.out)
          have c0 := run_buildM1 w5 x
          have HAT := Lib.hid (at_word w5 x)
          have HO9a := Lib.hid (own_on_w HO5.out ((Below.refl _ _).alloc (Nat.le_refl _) (.cells (mc x).toArray mt)))
          have HB9a := Lib.hid (below_next HB5.out ((Below.refl _ _).alloc (Nat.le_refl _) (.cells (mc x).toArray mt)))
          have HK9a := Lib.hid (Blk.upon HK5.out ((Below.refl _ _).alloc (Nat.le_refl _) (.cells (mc x).toArray mt)))
          generalize w5.alloc (.cells (mc x).toArray mt) = wa9 at *
          go_wp2_with (refine wpList_app_s rfl _ _ 22 rfl (w.heap.size + 1) mt (z := .agg #[.int .i64 0, .int .i64 0, .int .i64 0]) (by decide) Try.underlying22 mem_info rfl _ (cnt) (o.flatMap mc) rfl HO9a.out _ 1 1 (mc x) rfl HAT.out rfl (fun h => by cases h) (Nat.le_refl _) (wflat_one [x]) (by omega) (by unfold maxLen; omega) (Nat.lt_of_lt_of_le HK9a.out.lt (Nat.le_refl _)) ?_; intro v9 w9 hv9 hg9 _)
          have HB9 := Lib.hid (grown_below HB9a.out hg9 (fun g e => Nat.le_trans (Nat.le_succ _) (own_base_w HO9a.out g e).1) HB9a.out.size)
          have HK9 := Lib.hid (blk_grown HK9a.out hg9 (fun g e => (own_base_w HO9a.out g e).1))
          have HO9 := Lib.hid hv9
          clear HAT c0 hv9 hg9 HO9a HB9a HK9a
          go_roundw
          case rel => exact ⟨k + 1, cnt + 1, false, o ++ [x], by go_num, rfl, by omega, by omega, HI2, Lib.hid (by simp [HOL.out]), Lib.hid (by simp only [List.flatMap_append, ← List.append_assoc]; simpa using HO9.out), HK9, HB9⟩
          case measure => simp [intOf]; omega
    · obtain rfl : n = k := by omega
      cases d with
      | true =>
        have HE := Lib.hid (show Vw.ins l m = o from by rw [HI.out.yes rfl, List.drop_eq_nil_of_le (by rw [HN.out]; exact Nat.le_refl _), List.append_nil])
        clear HI
        go_wp2_with fail
        go_ret
        exact ⟨_, rfl, by rw [HE.out, HOL.out]; exact own_less HO.out (Nat.le_succ _), HB.out⟩
      | false =>
        have HE := Lib.hid (show Vw.ins l m = o ++ [m] from by
          obtain ⟨h1, h2⟩ := HI.out.no rfl
          rw [h2, List.drop_eq_nil_of_le (by rw [HN.out]; exact Nat.le_refl _), h1]; rfl)
        clear HI
        have l5 := run_loadM (rangeM_of HKM.out)
        have c0 := run_buildM1 wr m
        have HAT := Lib.hid (at_word wr m)
        have HO9a := Lib.hid (own_on_w HO.out ((Below.refl _ _).alloc (Nat.le_refl _) (.cells (mc m).toArray mt)))
        have HB9a := Lib.hid (below_next HB.out ((Below.refl _ _).alloc (Nat.le_refl _) (.cells (mc m).toArray mt)))
        have HK9a := Lib.hid (Blk.upon HKM.out ((Below.refl _ _).alloc (Nat.le_refl _) (.cells (mc m).toArray mt)))
        generalize wr.alloc (.cells (mc m).toArray mt) = wa9 at *
        go_wp2_with (refine wpList_app_s rfl _ _ 22 rfl (w.heap.size + 1) mt (z := .agg #[.int .i64 0, .int .i64 0, .int .i64 0]) (by decide) Try.underlying22 mem_info rfl _ (cnt) (o.flatMap mc) rfl HO9a.out _ 1 1 (mc m) rfl HAT.out rfl (fun h => by cases h) (Nat.le_refl _) (wflat_one [m]) (by omega) (by unfold maxLen; omega) (Nat.lt_of_lt_of_le HK9a.out.lt (Nat.le_refl _)) ?_; intro v9 w9 hv9 hg9 _)
        have HB9 := Lib.hid (grown_below HB9a.out hg9 (fun g e => Nat.le_trans (Nat.le_succ _) (own_base_w HO9a.out g e).1) HB9a.out.size)
        have HK9 := Lib.hid (blk_grown HK9a.out hg9 (fun g e => (own_base_w HO9a.out g e).1))
        have HO9 := Lib.hid hv9
        clear HAT c0 hv9 hg9 HO9a HB9a HK9a
        go_wp2_with fail
        go_ret
        exact ⟨_, rfl, by rw [HE.out, List.length_append, HOL.out, List.flatMap_append]; simpa using own_less HO9.out (Nat.le_succ _), HB9.out⟩
end
end
end Go.Proofs.Ytocfcfoocmkkdaa
