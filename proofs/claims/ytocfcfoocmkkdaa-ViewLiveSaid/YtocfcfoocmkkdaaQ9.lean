/-
  The reference's views merged.
  A drawn region walked by hand, operation by operation: what reads what is held, or no world, is taken first; what alone may come up is carried out. General: no program is named here.
-/
import Derived.Test.YtocfcfoocmkkdaaQ8
import Derived.Deep.RegionHeld3
namespace Go.Proofs.Ytocfcfoocmkkdaa
section
set_option linter.unusedSimpArgs false
set_option linter.unusedVariables false
open Go.RowKit Sha
theorem own_good {w : World} {B n : Nat} {v : Value} {l : List Mb} (h : w.ownsRow B mt 3 v n (l.flatMap mc)) (hok : ∀ x ∈ l, x.ok) : ∃ q c, v = .slice q n c ∧ GoodW w l q c := by
  have hl : l.length = n := by have := h.1; rw [wflat_length] at this; omega
  rcases h.2 with ⟨hv, h0⟩ | ⟨g, cap, cur, hv, hg, hh, h1, h2, h3, h4⟩
  · have : l = [] := List.eq_nil_of_length_eq_zero (by omega)
    subst this
    exact ⟨none, 0, by rw [hv, h0], hok, At.nil _ _, by simp, by omega, fun _ => rfl⟩
  · refine ⟨some ⟨g, 0, none⟩, cap, hv, goodW_blk (rest := cur.toList.drop (n * 3)) ?_ hok hl h1 h2⟩
    rw [← h4, List.take_append_drop]
    unfold Blk; simpa using hh
theorem Vw.ins_may {l : List Mb} {m : Mb} (hl : ∀ x ∈ l, x.May) (hm : m.May) : ∀ x ∈ Vw.ins l m, x.May := by
  induction l with
  | nil => intro x hx; simp [Vw.ins] at hx; subst hx; exact hm
  | cons y l ih =>
    have hy := hl y (List.mem_cons_self ..)
    have hl' := fun x hx => hl x (List.mem_cons_of_mem _ hx)
    intro x hx
    unfold Vw.ins at hx
    split at hx
    · rcases List.mem_cons.1 hx with rfl | hx
      · exact hm
      · exact hl x hx
    · split at hx
      · rename_i he
        rcases List.mem_cons.1 hx with rfl | hx
        · have hb : y.Both m := ⟨hy, hm, he⟩
          unfold Mb.merge; rw [if_pos hb]; split <;> assumption
        · exact hl' x hx
      · rcases List.mem_cons.1 hx with rfl | hx
        · exact hy
        · exact ih hl' x hx
theorem Vw.put_may {l words : List Mb} (hl : ∀ x ∈ l, x.May) (hw : ∀ x ∈ words, x.May) : ∀ x ∈ Vw.put l words, x.May := by
  unfold Vw.put
  induction words generalizing l with
  | nil => exact hl
  | cons m words ih => exact ih (Vw.ins_may hl (hw m (List.mem_cons_self ..))) (fun x hx => hw x (List.mem_cons_of_mem _ hx))
theorem Vw.fresh_at (v : List Mb) (x : Mb) : decide (Vw.word v x.I ≠ some x) = (!(Vw.wordR v x.I).2 || decide ((Vw.wordR v x.I).1 ≠ x)) := by
  unfold Vw.wordR
  cases h : Vw.word v x.I with
  | none => simp
  | some y => simp
/-- What a merge tells: the view, what of it is new, why not; two rows of the call's own, apart. -/
def MrgDone (z : List Mb × List Mb × Int) (w : World) (e : Ending) (w' : World) : Prop :=
  ∃ v1 v2, e = .returned (.tuple #[v1, v2, .int .i64 z.2.2]) ∧ w'.ownsRow w.heap.size mt 3 v1 z.1.length (z.1.flatMap mc) ∧ w'.ownsRow w.heap.size mt 3 v2 z.2.1.length (z.2.1.flatMap mc) ∧ (∀ g, v1.ownBlock = some g → v2.ownBlock ≠ some g) ∧ Below w.heap.size w w'
theorem MrgDone.none {w w' : World} {z : Int} (h : Below w.heap.size w w') : MrgDone ([], [], z) w (.returned (.tuple #[.slice none 0 0, .slice none 0 0, .int .i64 z])) w' :=
  ⟨_, _, rfl, World.ownsRow_nil _ _ _ _, World.ownsRow_nil _ _ _ _, (fun g h => by cases h), h⟩
section
attribute [local go_sem ↓] execOp_loadM execOp_storeM execOp_eqlM execOp_neqM execOp_buildM
set_option maxRecDepth 100000 in
set_option maxHeartbeats 8000000 in
theorem rvmerge_any (l l' : List Mb) (n m : Nat) (q p : Option Addr) (c d : Nat) (w : World) (hn : l.length = n) (hm : l'.length = m) (hl : GoodW w l q c) (hl' : GoodW w l' p d) (hs : n ≤ 400) (hs' : m ≤ 400) :
    Calls Try.prog 11 #[.slice q n c, .slice p m d] w (MrgDone (Vw.mrg l l') w) := by
  have HL := Lib.hid hl
  have HR := Lib.hid hl'
  have HN := Lib.hid hn
  have HM := Lib.hid hm
  have b1 := hl.le
  have b2 := hl.max
  have b3 := hl'.le
  have b4 := hl'.max
  rw [hn] at b1
  rw [hm] at b3
  clear hl hl' hn hm
  by_cases hok : Vw.Ok l
  · have HC := Lib.hid (show Calls Try.prog 21 #[.slice q n c] w (ErrDone 0 w) from by
      have := rvcheck_any l n q c w HN.out HL.out; rwa [show Vw.err l = 0 from if_pos hok] at this)
    have HOK := Lib.hid hok
    clear hok
    go_enter Try.func11, Try.ntmps11
    go_wp2_with fail
    refine HC.out.mono ?_
    rintro e w1 ⟨rfl, hb1⟩
    have HB1 := Lib.hid hb1
    clear hb1 HC
    go_wp2_with fail
    go_loopw [7] (fun i wr => ∃ k : Nat, i = .int .i64 k ∧ k ≤ m ∧ Hid (∀ y ∈ l'.take k, y.May) ∧ Hid (Below w.heap.size w wr)) (fun i _ => m - (intOf i).toNat)
    case atStart => exact ⟨0, rfl, by omega, Lib.hid (by simp), HB1⟩
    case round =>
      obtain ⟨k, rfl, hk, HY, HB⟩ := hrel
      by_cases hlt : k < m
      · have hk1 : k < l'.length := by rw [HM.out]; exact hlt
        obtain ⟨b, off, rfl, hr⟩ := HR.out.get k hk1
        have l1 := run_loadM (rangeM_on hr HB.out)
        have jk : (0 : Int) ≤ (k : Int) ∧ (k : Int) < (m : Int) := by omega
        by_cases hmay : l'[k].May
        · have HY2 := Lib.hid (show ∀ y ∈ l'.take (k + 1), y.May from by
            intro y hy
            rw [List.take_succ_eq_append_getElem hk1] at hy
            rcases List.mem_append.1 hy with hy | hy
            · exact HY.out y hy
            · simp at hy; subst hy; exact hmay)
          have HCK := Lib.hid (rcheck_ok hmay)
          generalize l'[k] = y at *
          clear hmay HY hk1 hr
          go_wp2_with fail
          refine (HCK.out _).mono ?_
          rintro e w5 ⟨rfl, hb5⟩
          have HB5 := Lib.hid (below_next HB.out hb5)
          clear hb5 l1
          go_wp2_with fail
          go_roundw
          case rel => exact ⟨k + 1, by go_num, by omega, HY2, HB5⟩
          case measure => simp [intOf]; omega
        · have HCK := Lib.hid (rcheck_no hmay)
          have HV := Lib.hid (show Vw.mrg l l' = ([], [], 2) from if_neg (fun h => hmay (h.2 _ (List.getElem_mem hk1))))
          generalize l'[k] = y at *
          clear hmay HY hk1 hr
          go_wp2_with fail
          refine (HCK.out _).mono ?_
          rintro e w5 ⟨rfl, hb5⟩
          have HB5 := Lib.hid (below_next HB.out hb5)
          clear hb5 l1
          go_wp2_with fail
          try rw [Exit.noGoto_ret]
          go_ret3
          rw [HV.out]
          exact MrgDone.none HB5.out
      · obtain rfl : m = k := by omega
        have HMAY := Lib.hid (show ∀ y ∈ l', y.May from by have := HY.out; rwa [List.take_of_length_le (by rw [HM.out]; exact Nat.le_refl _)] at this)
        have HV := Lib.hid (show Vw.mrg l l' = (Vw.put l l', Vw.fresh l (Vw.put l l'), 0) from if_pos ⟨HOK.out, HMAY.out⟩)
        clear HY hk hlt
        have O0 := own_empty_w wr w.heap.size HB.out.size
        have c0 := run_buildM0 wr
        have hg0 := HB.out.size
        have HB2 := Lib.hid (Below.go HB.out (show Below wr.heap.size wr (wr.alloc (.cells #[] mt)) from (Below.refl _ _).alloc (Nat.le_refl _) _))
        have L2 := HL.out.below HB2.out
        generalize wr.alloc (.cells #[] mt) = w2 at *
        generalize wr.heap.size = g0 at *
        go_wp2_with (refine wpList_app_s rfl _ _ 22 rfl w.heap.size mt (z := .agg #[.int .i64 0, .int .i64 0, .int .i64 0]) (by decide) Try.underlying22 mem_info rfl _ 0 [] rfl O0 q n c (l.flatMap mc) rfl L2.at_ (by rw [wflat_length, HN.out]) L2.nil b1 (wflat_one l) (by omega) (by unfold maxLen; omega) HB2.out.size ?_; intro v w3 hv hg _)
        have hg : w2.grownBy w3 (some g0) := hg
        rw [Nat.zero_add, List.nil_append] at hv
        have HB3 := Lib.hid (grown_below HB2.out hg (fun g e => by cases e; exact hg0) HB2.out.size)
        have HO3 := Lib.hid hv
        clear hv hg O0 c0 hg0 L2 HB2 HB
        go_loopw [9, 8] (fun i v wr => ∃ (k cnt : Nat), i = .int .i64 k ∧ k ≤ m ∧ cnt ≤ n + k ∧ Hid ((Vw.put l (l'.take k)).length = cnt) ∧ Hid (wr.ownsRow w.heap.size mt 3 v cnt ((Vw.put l (l'.take k)).flatMap mc)) ∧ Hid (Below w.heap.size w wr)) (fun i _ _ => m - (intOf i).toNat)
        case atStart => exact ⟨0, n, rfl, by omega, by omega, Lib.hid (by simpa [Vw.put] using HN.out), Lib.hid (by simpa [Vw.put] using HO3.out), HB3⟩
        case round =>
          obtain ⟨k, cnt, rfl, hk, hck, HCN, HO, HB⟩ := hrel
          have HPM := Lib.hid (show ∀ x ∈ Vw.put l (l'.take k), x.May from Vw.put_may HOK.out.1 (fun x hx => HMAY.out x (List.mem_of_mem_take hx)))
          obtain ⟨qo, co, rfl, hgo⟩ := own_good HO.out (fun x hx => (HPM.out x hx).ok)
          have HGO := Lib.hid hgo
          have c1 := hgo.le
          have c2 := hgo.max
          rw [HCN.out] at c1
          clear hgo
          by_cases hlt : k < m
          · have hk1 : k < l'.length := by rw [HM.out]; exact hlt
            obtain ⟨b, off, rfl, hr⟩ := HR.out.get k hk1
            have l1 := run_loadM (rangeM_on hr HB.out)
            have jk : (0 : Int) ≤ (k : Int) ∧ (k : Int) < (m : Int) := by omega
            have HP := Lib.hid (Vw.put_take l l' k hk1)
            have HCI := Lib.hid (ins_any (Vw.put l (l'.take k)) cnt qo co l'[k] _ HCN.out HGO.out (by omega))
            have HIL := Lib.hid (show (Vw.ins (Vw.put l (l'.take k)) l'[k]).length ≤ cnt + 1 from by have := Vw.ins_length (Vw.put l (l'.take k)) l'[k]; rwa [HCN.out] at this)
            generalize l'[k] = y at *
            clear hr hk1
            go_wp2_with fail
            refine HCI.out.mono ?_
            rintro e w5 ⟨v5, rfl, ho5, hb5⟩
            have HB5 := Lib.hid (below_next HB.out hb5)
            have HO5 := Lib.hid (own_less ho5 HB.out.size)
            clear hb5 ho5 l1 HCI
            go_wp2_with fail
            go_roundw
            case rel => exact ⟨k + 1, (Vw.ins (Vw.put l (l'.take k)) y).length, by go_num, by omega, by have := HIL.out; omega, Lib.hid (by rw [HP.out]), Lib.hid (by rw [HP.out]; exact HO5.out), HB5⟩
            case measure => simp [intOf]; omega
          · obtain rfl : m = k := by omega
            rw [show l'.take m = l' from List.take_of_length_le (by rw [HM.out]; exact Nat.le_refl _)] at HCN HO HPM HGO
            clear HO3 HB3 HMAY hlt hk
            generalize Vw.put l l' = out at *
            rename World => wt
            go_wp2_with fail
            obtain ⟨f, hf⟩ : ∃ f : Mb → Bool, f = (fun x => decide (Vw.word l x.I ≠ some x)) := ⟨_, rfl⟩
            have HFR := Lib.hid (show Vw.fresh l out = out.filter f from by rw [hf]; rfl)
            have HFF := Lib.hid (fun x => show f x = (!(Vw.wordR l x.I).2 || decide ((Vw.wordR l x.I).1 ≠ x)) from by rw [hf]; exact Vw.fresh_at l x)
            clear hf
            go_loopw [11, 10] (fun i v wr => ∃ (k fc : Nat), i = .int .i64 k ∧ k ≤ cnt ∧ fc ≤ k ∧ Hid (((out.take k).filter f).length = fc) ∧ Hid (wr.ownsRow wt.heap.size mt 3 v fc (((out.take k).filter f).flatMap mc)) ∧ Hid (Below wt.heap.size wt wr)) (fun i _ _ => cnt - (intOf i).toNat)
            case atStart => exact ⟨0, 0, rfl, by omega, by omega, Lib.hid (by simp), Lib.hid (World.ownsRow_nil _ _ _ _), Lib.hid (Below.refl _ _)⟩
            case round =>
              obtain ⟨k, fc, rfl, hk, hfk, HFC, HOF, HBF⟩ := hrel
              rename World => wu
              by_cases hlt : k < cnt
              · have hk1 : k < out.length := by rw [HCN.out]; exact hlt
                obtain ⟨b, off, rfl, hr⟩ := HGO.out.get k hk1
                have jk : (0 : Int) ≤ (k : Int) ∧ (k : Int) < (cnt : Int) := by omega
                have HRG := Lib.hid (fun w' (hb : Below wt.heap.size wt w') => rangeM_on hr hb)
                have HTK := Lib.hid (show out.take (k + 1) = out.take k ++ [out[k]] from List.take_succ_eq_append_getElem hk1)
                have cI := rangeM_I (HRG.out _ HBF.out)
                generalize out[k] = x at *
                have HW := Lib.hid (fun w' (hb : Below wt.heap.size wt w') => word_any l n q c x.I w' HN.out (HL.out.below (below_next HB.out hb)))
                have hfx := HFF.out x
                generalize Vw.wordR l x.I = r at *
                obtain ⟨was, is⟩ := r
                simp only at hfx
                clear hr hk1
                go_wp2_with fail
                refine (HW.out _ HBF.out).mono ?_
                rintro e w5 ⟨rfl, hb5⟩
                have s5 := put_run w5 was
                have P5 := Lib.hid (put_blk w5 was)
                have hb6 := Below.go hb5 (put_below w5 was)
                have HB6 := Lib.hid (below_next HBF.out hb6)
                have HO6 := Lib.hid (own_on_w HOF.out hb6)
                clear hb5 hb6 cI
                try simp only at s5
                generalize putM w5 was = w6 at *
                go_wp2_with fail
                obtain ⟨I, W, hC⟩ := cls_of w6
                have hne : Nonempty I := hC.ne
                have m1 := fun i => run_loadM (rangeM_of (P5.out.upon (hC.back i)))
                have m2 := fun i => run_loadM (HRG.out _ (below_next HB6.out (hC.back i)))
                have HQ := run_neqM was x (decide (was ≠ x)) rfl
                obtain ⟨ne, hne2⟩ : ∃ ne, ne = decide (was ≠ x) := ⟨_, rfl⟩
                rw [← hne2] at HQ hfx
                have HC := Lib.hid hC
                clear hC hne2
                cases is with
                | false =>
                  have hfx : f x = true := by rw [hfx]; rfl
                  refine wp_region_cls W (by kernel_rfl) (by kernel_rfl) HC.out.one ?_
                  repeat go_big_quiet_step (fail)
                  refine wpQuiet_nil ?_
                  rintro _ ⟨mm, rfl⟩
                  have HB7 := Lib.hid (below_next HB6.out (HC.out.back mm))
                  have HO7 := Lib.hid (own_on_w HO6.out (HC.out.back mm))
                  clear m1 m2 HQ HC
                  generalize W mm = w7 at *
                  have HCN2 := Lib.hid (show ((out.take (k + 1)).filter f).length = fc + 1 from by rw [HTK.out, List.filter_append]; simp [hfx, HFC.out])
                  have HV2 := Lib.hid (show ((out.take k).filter f).flatMap mc ++ mc x = ((out.take (k + 1)).filter f).flatMap mc from by rw [HTK.out, List.filter_append, List.flatMap_append]; simp [hfx])
                  have l7 := run_loadM (HRG.out _ HB7.out)
                  have c0 := run_buildM1 w7 x
                  have HAT := Lib.hid (at_word w7 x)
                  have HO8 := Lib.hid (own_on_w HO7.out ((Below.refl _ _).alloc (Nat.le_refl _) (.cells (mc x).toArray mt)))
                  have HB8 := Lib.hid (below_next HB7.out ((Below.refl _ _).alloc (Nat.le_refl _) (.cells (mc x).toArray mt)))
                  generalize w7.alloc (.cells (mc x).toArray mt) = w8 at *
                  clear hfx
                  go_wp2_with (refine wpList_app_s rfl _ _ 22 rfl wt.heap.size mt (z := .agg #[.int .i64 0, .int .i64 0, .int .i64 0]) (by decide) Try.underlying22 mem_info rfl _ fc (((out.take k).filter f).flatMap mc) rfl HO8.out _ 1 1 (mc x) rfl HAT.out rfl (fun h => by cases h) (Nat.le_refl _) (wflat_one [x]) (by omega) (by unfold maxLen; omega) HB8.out.size ?_; intro v9 w9 hv9 hg9 _)
                  have HB9 := Lib.hid (grown_below HB8.out hg9 (fun g e => (own_base_w HO8.out g e).1) HB8.out.size)
                  go_roundw
                  case rel => exact ⟨k + 1, fc + 1, by go_num, by omega, by omega, HCN2, Lib.hid (by rw [← HV2.out]; exact hv9), HB9⟩
                  case measure => simp [intOf]; omega
                | true =>
                  cases ne with
                  | true =>
                    have hfx : f x = true := by rw [hfx]; rfl
                    refine wp_region_cls W (by kernel_rfl) (by kernel_rfl) HC.out.one ?_
                    repeat go_big_quiet_step (fail)
                    refine wpQuiet_nil ?_
                    rintro _ ⟨mm, rfl⟩
                    have HB7 := Lib.hid (below_next HB6.out (HC.out.back mm))
                    have HO7 := Lib.hid (own_on_w HO6.out (HC.out.back mm))
                    clear m1 m2 HQ HC
                    generalize W mm = w7 at *
                    have HCN2 := Lib.hid (show ((out.take (k + 1)).filter f).length = fc + 1 from by rw [HTK.out, List.filter_append]; simp [hfx, HFC.out])
                    have HV2 := Lib.hid (show ((out.take k).filter f).flatMap mc ++ mc x = ((out.take (k + 1)).filter f).flatMap mc from by rw [HTK.out, List.filter_append, List.flatMap_append]; simp [hfx])
                    have l7 := run_loadM (HRG.out _ HB7.out)
                    have c0 := run_buildM1 w7 x
                    have HAT := Lib.hid (at_word w7 x)
                    have HO8 := Lib.hid (own_on_w HO7.out ((Below.refl _ _).alloc (Nat.le_refl _) (.cells (mc x).toArray mt)))
                    have HB8 := Lib.hid (below_next HB7.out ((Below.refl _ _).alloc (Nat.le_refl _) (.cells (mc x).toArray mt)))
                    generalize w7.alloc (.cells (mc x).toArray mt) = w8 at *
                    clear hfx
                    go_wp2_with (refine wpList_app_s rfl _ _ 22 rfl wt.heap.size mt (z := .agg #[.int .i64 0, .int .i64 0, .int .i64 0]) (by decide) Try.underlying22 mem_info rfl _ fc (((out.take k).filter f).flatMap mc) rfl HO8.out _ 1 1 (mc x) rfl HAT.out rfl (fun h => by cases h) (Nat.le_refl _) (wflat_one [x]) (by omega) (by unfold maxLen; omega) HB8.out.size ?_; intro v9 w9 hv9 hg9 _)
                    have HB9 := Lib.hid (grown_below HB8.out hg9 (fun g e => (own_base_w HO8.out g e).1) HB8.out.size)
                    go_roundw
                    case rel => exact ⟨k + 1, fc + 1, by go_num, by omega, by omega, HCN2, Lib.hid (by rw [← HV2.out]; exact hv9), HB9⟩
                    case measure => simp [intOf]; omega
                  | false =>
                    have hfx : f x = false := by rw [hfx]; rfl
                    refine wp_region_cls W (by kernel_rfl) (by kernel_rfl) HC.out.one ?_
                    repeat go_big_quiet_step (fail)
                    refine wpQuiet_nil ?_
                    rintro _ ⟨mm, rfl⟩
                    have HB7 := Lib.hid (below_next HB6.out (HC.out.back mm))
                    have HO7 := Lib.hid (own_on_w HO6.out (HC.out.back mm))
                    clear m1 m2 HQ HC
                    generalize W mm = w7 at *
                    have HCN2 := Lib.hid (show ((out.take (k + 1)).filter f).length = fc from by rw [HTK.out, List.filter_append]; simp [hfx, HFC.out])
                    have HV2 := Lib.hid (show ((out.take k).filter f).flatMap mc = ((out.take (k + 1)).filter f).flatMap mc from by rw [HTK.out, List.filter_append, List.flatMap_append]; simp [hfx])
                    clear hfx
                    go_wp2_with fail
                    go_roundw
                    case rel => exact ⟨k + 1, fc, by go_num, by omega, by omega, HCN2, Lib.hid (by rw [← HV2.out]; exact HO7.out), HB7⟩
                    case measure => simp [intOf]; omega
              · obtain rfl : k = cnt := by omega
                have HE := Lib.hid (show (out.take k).filter f = Vw.fresh l out from by rw [HFR.out, List.take_of_length_le (by rw [HCN.out]; exact Nat.le_refl _)])
                rw [HE.out] at HOF HFC
                have HAP := Lib.hid (show ∀ g, (Value.slice qo k co).ownBlock = some g → ∀ g', (_ : Value).ownBlock = some g' → g ≠ g' from fun g h g' h' => by
                  have h1 := (own_base_w HO.out g h).2
                  have h2 := (own_base_w HOF.out g' h').1
                  omega)
                have HO9 := Lib.hid (own_on_w HO.out HBF.out)
                have HB9 := Lib.hid (below_next HB.out HBF.out)
                have HOF9 := Lib.hid (own_less HOF.out HB.out.size)
                go_wp2_with fail
                go_ret3
                rw [HV.out]
                exact ⟨_, _, rfl, by rw [HCN.out]; exact HO9.out, by rw [HFC.out]; exact HOF9.out, fun g h h' => HAP.out g h g h' rfl, HB9.out⟩
  · have HC := Lib.hid (show Calls Try.prog 21 #[.slice q n c] w (ErrDone 2 w) from by
      have := rvcheck_any l n q c w HN.out HL.out; rwa [show Vw.err l = 2 from if_neg hok] at this)
    have HV := Lib.hid (show Vw.mrg l l' = ([], [], 2) from if_neg (fun h => hok h.1))
    clear hok
    go_enter Try.func11, Try.ntmps11
    go_wp2_with fail
    refine HC.out.mono ?_
    rintro e w1 ⟨rfl, hb1⟩
    have HB1 := Lib.hid hb1
    clear hb1 HC
    go_wp2_with fail
    go_ret3
    rw [HV.out]
    exact MrgDone.none HB1.out
end
end
section
set_option linter.unusedSimpArgs false
set_option linter.unusedVariables false
section
variable {P : Program} {md : Region.Mode} {l : List Oper} {Q : Exit → Act → World → Prop} {S : World → Prop} {fuel : Nat} {listed : Array Bool} {a : Act} {w : World}
theorem blt_lt {i n : Nat} (h : Nat.blt i n = true) : i < n := Nat.le_of_ble_eq_true h
theorem at_toArray {i : Nat} (h : i < l.length) : l.toArray[i]? = some l[i] := by simp [h]
theorem take_at (i : Nat) (hlen : Nat.blt i l.length = true) {v : Value} (hs : Region.noSelect l.toArray = true) (hf : Region.free md l.toArray listed i = true) (hr : (Region.ready md l.toArray listed).contains i = true)
    (hQ : ∀ c a w, Q (.panic c) (a.put (l[i]'(blt_lt hlen)).dst v) w → Q (.panic c) a w) (hw : Region.wanted (l[i]'(blt_lt hlen)) (yielded l.toArray a.tmps) = true)
    (hy : ∀ w, S w → (execOp a.eval (l[i]'(blt_lt hlen))).run P w = .ok (.value v) w) (hS : S w)
    (h : wpAnyH P md l.toArray Q S fuel (listed.setIfInBounds i true) (a.put (l[i]'(blt_lt hlen)).dst v) w) : wpAnyH P md l.toArray Q S (fuel + 1) listed a w :=
  wpAnyH_take (at_toArray (blt_lt hlen)) hs hf hr hQ (Or.inl ⟨hw, hy⟩) hS h
theorem pass_at (i : Nat) (hlen : Nat.blt i l.length = true) (hs : Region.noSelect l.toArray = true) (hf : Region.free md l.toArray listed i = true) (hr : (Region.ready md l.toArray listed).contains i = true)
    (hQ : ∀ c a w, Q (.panic c) (a.put (l[i]'(blt_lt hlen)).dst undef) w → Q (.panic c) a w) (hw : Region.wanted (l[i]'(blt_lt hlen)) (yielded l.toArray a.tmps) = false) (hS : S w)
    (h : wpAnyH P md l.toArray Q S fuel (listed.setIfInBounds i true) (a.put (l[i]'(blt_lt hlen)).dst undef) w) : wpAnyH P md l.toArray Q S (fuel + 1) listed a w :=
  wpAnyH_take (at_toArray (blt_lt hlen)) hs hf hr hQ (Or.inr ⟨hw, rfl⟩) hS h
theorem ready_at (i : Nat) (hlen : Nat.blt i l.length = true) (hr : Region.ready md l.toArray listed = [i])
    (h : ∀ K' : Act → World → Prop, Shut (∀ a w, S w → (S w → wpAnyH P md l.toArray Q S fuel (listed.setIfInBounds i true) a w) → K' a w) → if Region.wanted (l[i]'(blt_lt hlen)) (yielded l.toArray a.tmps) = true then Oper.wp P (l[i]'(blt_lt hlen)) a w K' Q else K' (a.put (l[i]'(blt_lt hlen)).dst undef) w) :
    wpAnyH P md l.toArray Q S (fuel + 1) listed a w :=
  wpAnyH_ready hr (by simp) (AllReadyH.cons (at_toArray (blt_lt hlen)) h AllReadyH.nil)
theorem ready2_at (i j : Nat) (hi : Nat.blt i l.length = true) (hj : Nat.blt j l.length = true) (hr : Region.ready md l.toArray listed = [i, j])
    (h1 : ∀ K' : Act → World → Prop, Shut (∀ a w, S w → (S w → wpAnyH P md l.toArray Q S fuel (listed.setIfInBounds i true) a w) → K' a w) → if Region.wanted (l[i]'(blt_lt hi)) (yielded l.toArray a.tmps) = true then Oper.wp P (l[i]'(blt_lt hi)) a w K' Q else K' (a.put (l[i]'(blt_lt hi)).dst undef) w)
    (h2 : ∀ K' : Act → World → Prop, Shut (∀ a w, S w → (S w → wpAnyH P md l.toArray Q S fuel (listed.setIfInBounds j true) a w) → K' a w) → if Region.wanted (l[j]'(blt_lt hj)) (yielded l.toArray a.tmps) = true then Oper.wp P (l[j]'(blt_lt hj)) a w K' Q else K' (a.put (l[j]'(blt_lt hj)).dst undef) w) :
    wpAnyH P md l.toArray Q S (fuel + 1) listed a w :=
  wpAnyH_ready hr (by simp) (AllReadyH.cons (at_toArray (blt_lt hi)) h1 (AllReadyH.cons (at_toArray (blt_lt hj)) h2 AllReadyH.nil))
end
end
end Go.Proofs.Ytocfcfoocmkkdaa
