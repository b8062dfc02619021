/-
  The law GossipNewest.
-/
import Derived.Test.YtgohapbobbkaeaaGlB
import Derived.Test.YtgohapbobbkaeaaMbC
import Derived.Test.YtgohapbobbkaeaaHeldAt
namespace Go.Proofs.Ytgohapbobbkaeaa
set_option linter.unusedSimpArgs false
set_option linter.unusedVariables false
open Go.RowKit Sha
/-- One object, and a block that is not its own. -/
structure SoloB {S : Type} (R : ObjRep S) (w0 w : World) (b : Nat) (fp : List Nat) (s : S) (g : Nat) (cs : List Value) (t : TypeId) : Prop where
  solo : Solo R w0 w b fp s
  blk : Blk w g cs t
  out : g ∉ fp
  new : w0.heap.size ≤ g
section
variable {S : Type} {R : ObjRep S} {w0 w w' : World} {b g : Nat} {fp fp' : List Nat} {s s' : S} {cs : List Value} {t : TypeId}
theorem SoloB.on (K : Held R) (h : SoloB R w0 w b fp s g cs t) (hb : Below w.heap.size w w') : SoloB R w0 w' b fp s g cs t := ⟨h.solo.on K hb, h.blk.upon hb, h.out, h.new⟩
theorem SoloB.step (h : SoloB R w0 w b fp s g cs t) (hr : R w' b fp' s') (ht : Touch fp w w') (hf : From fp fp' w) : SoloB R w0 w' b fp' s' g cs t :=
  ⟨h.solo.step hr ht hf, (ht.block g h.blk.lt h.out).trans h.blk, fun e => (hf g e).elim h.out (fun h2 => by have := h.blk.lt; omega), h.new⟩
theorem SoloB.row (K : Held R) (h : SoloB R w0 w b fp s g cs t) (cs' : List Value) : SoloB R w0 (w.setRow g cs'.toArray) b fp s g cs' t :=
  ⟨⟨K.keep h.solo.one fun k e => setRow_other w g k _ (fun e2 => h.out (e2 ▸ e)), h.solo.new, Below.setRow h.solo.below h.new _⟩, h.blk.row cs', h.out, h.new⟩
end
/-- What the buffer has, and which word is the newest, behind k words. -/
def NewestAt (k : Nat) (best : Mb) (T : List Tl) : Prop := (k = 0 ∧ best = Mb.none ∧ T = []) ∨ (0 < k ∧ best.May ∧ best.I = 2 ∧ T = [⟨best, 0⟩])
theorem put_nil (x : Tl) : Gs.put [] x = [x] := rfl
theorem add_first {m : Mb} (h : m.May) (hi : m.I = 2) : Gs.add 4 [] m = ([⟨m, 0⟩], true, 0) := by
  rw [Gs.add_new ⟨h, by omega⟩ (by simp [Gs.at_]), put_nil]
theorem at_one_ {b : Mb} {i : Int} (h : b.I = i) : Gs.at_ [⟨b, 0⟩] i = 0 := by unfold Gs.at_; simp [List.findIdx_cons, h]
theorem add_second {m b : Mb} (h : m.May) (hi : m.I = 2) (hb : b.I = 2) : Gs.add 4 [⟨b, 0⟩] m = (if m.Over b then [⟨m, 0⟩] else [⟨b, 0⟩], decide (m.Over b), 0) := by
  have ha : Gs.at_ [⟨b, 0⟩] m.I = 0 := at_one_ (by omega)
  by_cases ho : m.Over b
  · rw [Gs.add_over ⟨h, by omega⟩ (by rw [ha]; simp) (by simp only [ha]; exact ho), if_pos ho, decide_eq_true ho, ha]
    rfl
  · rw [Gs.add_not ⟨h, by omega⟩ (by rw [ha]; simp) (by simp only [ha]; exact ho), if_neg ho, decide_eq_false ho]
theorem NewestAt.first {best : Mb} {T : List Tl} (h : NewestAt 0 best T) : best = Mb.none ∧ T = [] := by
  rcases h with h | h
  · exact h.2
  · omega
theorem NewestAt.later {k : Nat} {best : Mb} {T : List Tl} (h : NewestAt k best T) (hk : 0 < k) : best.May ∧ best.I = 2 ∧ T = [⟨best, 0⟩] := by
  rcases h with h | h
  · omega
  · exact h.2
theorem told_one (b : Mb) : Gs.told [⟨b, 0⟩] 3 = [b] := rfl
section
attribute [local go_sem ↓] execOp_loadM execOp_storeM execOp_eqlM execOp_buildM
/-- The word of a round, its node made 2. -/
theorem word_two (w : World) (x : Mb) : Blk ((putM w x).setCell ⟨w.heap.size, 0, none⟩ (.int .i64 2)) w.heap.size (mc ⟨2, x.S, x.N⟩) mt ∧ Below w.heap.size w ((putM w x).setCell ⟨w.heap.size, 0, none⟩ (.int .i64 2)) :=
  ⟨(put_blk w x).set 0 _, Below.setCell (put_below w x) (Nat.le_refl _) _⟩
set_option maxRecDepth 100000 in
set_option maxHeartbeats 8000000 in
theorem gnewest_any {R : GRepT} (F : PGossip R) (l : List Mb) (n : Nat) (q : Option Addr) (c : Nat) (w : World) (hn : l.length = n) (hl : GoodW w l q c) :
    Calls Try.prog 7 #[.slice q n c] w (BoolDone true w) := by
  have HK := Lib.hid F.held
  have HL := Lib.hid hl
  have HN := Lib.hid hn
  have b1 := hl.le
  have b2 := hl.max
  rw [hn] at b1
  clear hl hn
  go_enter Try.func7, Try.ntmps7
  go_wp2_with fail
  refine (gawake_any F w).mono ?_
  rintro e w1 ⟨rfl, hb1⟩
  have B1 := Lib.hid hb1
  clear hb1
  go_wp2_with fail
  refine (F.new 4 w1 (by omega)).mono ?_
  rintro e w2 ⟨hb2, ⟨_, b, fp, rfl, hr, hfn⟩ | ⟨hz, _⟩⟩
  rotate_left
  · exact absurd ⟨by decide, by decide⟩ hz
  have S2 := Lib.hid (show Solo R w w2 b fp (4, []) from ⟨hr, fun k hk => Nat.le_trans B1.out.size (hfn k hk), below_next B1.out hb2⟩)
  clear hb2 hr hfn B1
  by_cases hbig : 20 < n
  · go_wp2_with fail
    go_ret
    exact ⟨rfl, S2.out.below⟩
  · have S3 := Lib.hid (show SoloB R w (w2.alloc (.cells (mc Mb.none).toArray mt)) b fp (4, []) w2.heap.size (mc Mb.none) mt from
      ⟨S2.out.on HK.out ((Below.refl _ _).alloc (Nat.le_refl _) _), Blk.new w2 (mc Mb.none).toArray mt, (fun e => Nat.lt_irrefl _ (HK.out.low S2.out.one _ e)), S2.out.below.size⟩)
    -- THE LOOP
    go_wp2_with fail
    obtain ⟨g6, hg6⟩ : ∃ g, g = w2.heap.size := ⟨_, rfl⟩
    rw [← hg6] at S3 ⊢
    clear hg6 S2
    have S4 := Lib.hid (show SoloB R w (w2.alloc (.cells #[.int .i64 0, .int .i64 0, .int .i64 0] mt)) b fp (4, []) g6 (mc Mb.none) mt from S3.out)
    clear S3
    generalize w2.alloc (.cells #[.int .i64 0, .int .i64 0, .int .i64 0] mt) = w3 at *
    go_loopw [7] (fun iv wr => ∃ (k : Nat) (fp : List Nat) (best : Mb) (T : List Tl), iv = .int .i64 k ∧ k ≤ n ∧ Hid (NewestAt k best T) ∧ Hid (SoloB R w wr b fp (4, T) g6 (mc best) mt)) (fun iv _ => n - (intOf iv).toNat)
    case atStart => exact ⟨0, fp, Mb.none, [], rfl, by omega, Lib.hid (.inl ⟨rfl, rfl, rfl⟩), S4⟩
    case round =>
      clear S4
      obtain ⟨k, fp, best, T, rfl, hk, HA, S⟩ := hrel
      by_cases hlt : k < n
      · have hk1 : k < l.length := by rw [HN.out]; exact hlt
        obtain ⟨ba, off, rfl, hr⟩ := HL.out.get k hk1
        have jk : (0 : Int) ≤ (k : Int) ∧ (k : Int) < (n : Int) := by omega
        have l0 := run_loadM (rangeM_on hr S.out.solo.below)
        generalize l[k] = x at *
        clear hr hk1
        -- the round's word
        have s8 := put_run wr x
        have hf8 : (putM wr x).frozen? ⟨wr.heap.size, 0, none⟩ = false := (put_blk wr x).free 0
        have hc8 : (putM wr x).cell? ⟨wr.heap.size, 0, none⟩ = some (.int .i64 x.I) := (put_blk wr x).cell 0
        have HW8 := Lib.hid (word_two wr x)
        have S8 := Lib.hid (S.out.on HK.out HW8.out.2)
        have HM8 := Lib.hid HW8.out.1
        have HF8 := Lib.hid (show wr.heap.size ∉ fp from fun e => Nat.lt_irrefl _ (HK.out.low S.out.solo.one _ e))
        have HG8 := Lib.hid (show g6 ≠ wr.heap.size from fun e => by have := S.out.blk.lt; omega)
        have l8 := run_loadM (rangeM_of HM8.out)
        obtain ⟨m, hm⟩ : ∃ m : Mb, m = ⟨2, x.S, x.N⟩ := ⟨_, rfl⟩
        rw [← hm] at HM8 l8
        have hmi : m.I = 2 := by rw [hm]
        have HMI := Lib.hid hmi
        obtain ⟨w8, hw8⟩ : ∃ y, y = (putM wr x).setCell ⟨wr.heap.size, 0, none⟩ (.int .i64 2) := ⟨_, rfl⟩
        rw [← hw8] at S8 HM8 l8
        have CK := Lib.hid (fun W => check_any m W)
        obtain ⟨ev, hev⟩ : ∃ ev, ev = m.err := ⟨_, rfl⟩
        rw [← hev] at CK
        have HEV := Lib.hid hev
        clear hm hmi HW8 S hev
        obtain ⟨w7, hw7⟩ : ∃ y, y = putM wr x := ⟨_, rfl⟩
        rw [← hw7] at s8 hf8 hc8 hw8
        have e8 : w7.setCell ⟨wr.heap.size, 0, none⟩ (.int .i64 2) = w8 := hw8.symm
        clear hw7 hw8
        go_wp2_with fail
        clear e8 s8 hf8 hc8 l0
        obtain ⟨n8, hn8⟩ : ∃ n8, n8 = wr.heap.size := ⟨_, rfl⟩
        rw [← hn8] at HM8 l8 HF8 HG8 ⊢
        clear hn8
        refine (CK.out _).mono ?_
        rintro e w9 ⟨rfl, hb9⟩
        have S9 := Lib.hid (S8.out.on HK.out hb9)
        have HM9 := Lib.hid (HM8.out.upon hb9)
        clear hb9 S8 HM8 l8 CK
        by_cases hmay : m.May
        · have h0 : ev = 0 := by rw [HEV.out]; exact if_pos hmay
          subst h0
          have HMAY := Lib.hid hmay
          have d6 : w9.cell? ⟨g6, 0, none⟩ = some (.int .i64 best.I) := S9.out.blk.cell 0
          have l6 := run_loadM (rangeM_of S9.out.blk)
          have l9 := run_loadM (rangeM_of HM9.out)
          by_cases hk0 : k = 0
          · subst hk0
            obtain ⟨rfl, rfl⟩ := HA.out.first
            have HAD := Lib.hid (fun W fp h => adds_any F b fp 4 [] m true W h (by rw [add_first hmay HMI.out]))
            rw [add_first hmay HMI.out] at HAD
            have HA2 := Lib.hid (show NewestAt (0 + 1) m [⟨m, 0⟩] from .inr ⟨by omega, hmay, HMI.out, rfl⟩)
            clear hmay HA
            go_wp2_with fail
            refine (HAD.out _ _ S9.out.solo.one).mono ?_
            rintro e w11 ⟨rfl, fp2, hr, ht, hf⟩
            have S11 := Lib.hid (S9.out.step (s' := (4, [⟨m, 0⟩])) hr ht hf)
            have HM11 := Lib.hid (show Blk w11 n8 (mc m) mt from (ht.block n8 HM9.out.lt HF8.out).trans HM9.out)
            clear hr ht hf S9 HM9 HAD l9 d6 l6
            have l11 := run_loadM (rangeM_of HM11.out)
            have s11 := run_storeM (a := m) S11.out.blk
            have S12 := Lib.hid (S11.out.row HK.out (mc m))
            clear HM11 S11
            generalize w11.setRow g6 (mc m).toArray = w12 at *
            go_wp2_with fail
            go_roundw
            case rel => exact ⟨0 + 1, fp2, m, [⟨m, 0⟩], by go_num, by omega, HA2, S12⟩
            case measure => simp [intOf]; omega
          · obtain ⟨hb1, hb2, rfl⟩ := HA.out.later (by omega)
            have t6 : (best.I == 0) = false := by rw [hb2]; rfl
            obtain ⟨z, hz⟩ : ∃ z, z = decide (m.Over best) := ⟨_, rfl⟩
            have HOV := Lib.hid (fun W => over_at hz.symm W)
            have HAD := Lib.hid (fun W fp h => adds_any F b fp 4 [⟨best, 0⟩] m z W h (by rw [add_second hmay HMI.out hb2, hz]))
            rw [add_second hmay HMI.out hb2] at HAD
            have HK2 := Lib.hid (⟨hb1, hb2⟩ : best.May ∧ best.I = 2)
            clear hb1
            go_wp2_with fail
            refine (HOV.out _).mono ?_
            rintro e w10 ⟨rfl, hb10⟩
            have S10 := Lib.hid (S9.out.on HK.out hb10)
            have HM10 := Lib.hid (HM9.out.upon hb10)
            clear hb10 S9 HM9 l6 l9 d6
            have l9 := run_loadM (rangeM_of HM10.out)
            by_cases hov : m.Over best
            · have hz1 : z = true := by rw [hz]; exact decide_eq_true hov
              subst hz1
              rw [if_pos hov] at HAD
              have HA2 := Lib.hid (show NewestAt (k + 1) m [⟨m, 0⟩] from .inr ⟨by omega, hmay, HMI.out, rfl⟩)
              have S9 := S10
              have HM9 := HM10
              clear hmay HA hov hz HOV S10 HM10
              go_wp2_with fail
              refine (HAD.out _ _ S9.out.solo.one).mono ?_
              rintro e w11 ⟨rfl, fp2, hr, ht, hf⟩
              have S11 := Lib.hid (S9.out.step (s' := (4, [⟨m, 0⟩])) hr ht hf)
              have HM11 := Lib.hid (show Blk w11 n8 (mc m) mt from (ht.block n8 HM9.out.lt HF8.out).trans HM9.out)
              clear hr ht hf S9 HM9 HAD l9 
              have l11 := run_loadM (rangeM_of HM11.out)
              have s11 := run_storeM (a := m) S11.out.blk
              have S12 := Lib.hid (S11.out.row HK.out (mc m))
              clear HM11 S11
              generalize w11.setRow g6 (mc m).toArray = w12 at *
              go_wp2_with fail
              go_roundw
              case rel => exact ⟨k + 1, fp2, m, [⟨m, 0⟩], by go_num, by omega, HA2, S12⟩
              case measure => simp [intOf]; omega
            · have hz1 : z = false := by rw [hz]; exact decide_eq_false hov
              subst hz1
              rw [if_neg hov] at HAD
              have HA2 := Lib.hid (show NewestAt (k + 1) best [⟨best, 0⟩] from .inr ⟨by omega, HK2.out.1, HK2.out.2, rfl⟩)
              clear hmay HA hov hz HOV
              go_wp2_with fail
              refine (HAD.out _ _ S10.out.solo.one).mono ?_
              rintro e w11 ⟨rfl, fp2, hr, ht, hf⟩
              have S11 := Lib.hid (S10.out.step (s' := (4, [⟨best, 0⟩])) hr ht hf)
              clear hr ht hf S10 HM10 HAD l9
              go_wp2_with fail
              go_roundw
              case rel => exact ⟨k + 1, fp2, best, [⟨best, 0⟩], by go_num, by omega, HA2, S11⟩
              case measure => simp [intOf]; omega
        · have h2 : ev = 2 := by rw [HEV.out]; exact if_neg hmay
          subst h2
          clear hmay HA
          go_wp2_with fail
          try rw [Exit.noGoto_ret]
          go_ret
          exact ⟨rfl, S9.out.solo.below⟩
      · obtain rfl : k = n := by omega
        by_cases hk0 : k = 0
        · subst hk0
          obtain ⟨rfl, rfl⟩ := HA.out.first
          have HNL := Lib.hid (F.len b fp 4 [] wr S.out.solo.one)
          go_wp2_with fail
          refine HNL.out.mono ?_
          rintro e _ ⟨rfl, kn, rfl⟩
          have B5 := Lib.hid (below_drewN S.out.solo.below kn)
          have e0 : (v64 (([] : List Tl).length : Nat)) = .int .i64 0 := rfl
          rw [e0]
          go_wp2_with fail
          go_ret
          exact ⟨rfl, B5.out⟩
        · obtain ⟨hb1, hb2, rfl⟩ := HA.out.later (by omega)
          have t0 : ((k : Int) == 0) = false := by rw [beq_eq_false_iff_ne]; omega
          have HOKB := Lib.hid (show ∀ x ∈ [best], x.ok from by intro x hx; simp at hx; subst hx; exact hb1.ok)
          have HLEN := Lib.hid (fun W (h : R W b fp (4, [⟨best, 0⟩])) => F.len b fp 4 [⟨best, 0⟩] W h)
          have HTK := Lib.hid (fun W (h : R W b fp (4, [⟨best, 0⟩])) => take_known F h (n := 3) (by omega) (told_one best) rfl HOKB.out)
          have HWD := Lib.hid (fun W q c p (h1 : GoodW W [best] q c) (h2 : GoodW W [best] p 1) => (show Calls Try.prog 13 #[.slice q 1 c, .slice p 1 1] W (BoolDone true W) from by
            have := words_any [best] [best] 1 1 q p c 1 W rfl rfl h1 h2
            rwa [show decide ([best] = [best]) = true from decide_eq_true rfl] at this))
          have E1 := Lib.hid (fun W fp T (h : SoloB R w W b fp (4, T) g6 (mc best) mt) => run_loadM (rangeM_of h.blk))
          have cB := fun W => run_buildM1 W best
          have SD := Lib.hid (S.out.on HK.out (Below.refl _ _).drew)
          have hr0 : (t0 : True) → True := fun _ => trivial
          clear hb1 hb2 HA hk0 S hr0
          go_wp2_with fail
          refine wp_region_held_drew (S := (fun w' => (loadM mt (.pointer (some ⟨g6, 0, none⟩))).run Try.prog w' = .ok (.value (mv best)) w')) (by kernel_rfl) (E1.out _ _ _ SD.out) (fun hHeld => ?_)
          refine take_at 0 (by kernel_rfl) (v := ?v1) (by kernel_rfl) (by kernel_rfl) (by kernel_rfl) (fun _ _ _ h => h) (by rfl) ?y1 (by assumption) ?r1
          case y1 => (intro w hSw; (try dsimp only at hSw); simp only [List.getElem_cons_succ, List.getElem_cons_zero]; go_simp; (try with_reducible rfl))
          try simp only [List.getElem_cons_succ, List.getElem_cons_zero, Act.put, List.setIfInBounds_toArray, List.set_cons_zero, List.set_cons_succ]
          refine take_at 1 (by kernel_rfl) (v := ?v2) (by kernel_rfl) (by kernel_rfl) (by kernel_rfl) (fun _ _ _ h => h) (by rfl) ?y2 (by assumption) ?r2
          case y2 => (intro w hSw; (try dsimp only at hSw); simp only [List.getElem_cons_succ, List.getElem_cons_zero]; go_simp; (try with_reducible rfl))
          try simp only [List.getElem_cons_succ, List.getElem_cons_zero, Act.put, List.setIfInBounds_toArray, List.set_cons_zero, List.set_cons_succ]
          refine take_at 2 (by kernel_rfl) (v := ?v3) (by kernel_rfl) (by kernel_rfl) (by kernel_rfl) (fun _ _ _ h => h) (by rfl) ?y3 (by assumption) ?r3
          case y3 => (intro w hSw; (try dsimp only at hSw); simp only [List.getElem_cons_succ, List.getElem_cons_zero]; go_simp; (try with_reducible rfl))
          try simp only [List.getElem_cons_succ, List.getElem_cons_zero, Act.put, List.setIfInBounds_toArray, List.set_cons_zero, List.set_cons_succ]
          refine ready_at 3 (by kernel_rfl) (by kernel_rfl) (fun K hK => ?_)
          simp only [List.getElem_cons_succ, List.getElem_cons_zero]
          go_simp
          go_at_call 16
          refine (HLEN.out _ SD.out.solo.one).mono ?_
          rintro e _ ⟨rfl, kn, rfl⟩
          have SE := Lib.hid (SD.out.on HK.out (below_drewN (Below.refl _ _) kn))
          generalize wr.drew.drewN kn = we at *
          clear SD
          (try go_wp2_with fail)
          refine hK.out _ _ (E1.out _ _ _ SE.out) (fun hHeld => ?_)
          clear hK K
          try simp only [List.getElem_cons_succ, List.getElem_cons_zero, Act.put, List.setIfInBounds_toArray, List.set_cons_zero, List.set_cons_succ]
          refine take_at 4 (by kernel_rfl) (v := ?v4) (by kernel_rfl) (by kernel_rfl) (by kernel_rfl) (fun _ _ _ h => h) (by rfl) ?y4 (by assumption) ?r4
          case y4 => (intro w hSw; (try dsimp only at hSw); simp only [List.getElem_cons_succ, List.getElem_cons_zero]; go_simp; (try with_reducible rfl))
          try simp only [List.getElem_cons_succ, List.getElem_cons_zero, Act.put, List.setIfInBounds_toArray, List.set_cons_zero, List.set_cons_succ]
          refine take_at 5 (by kernel_rfl) (v := ?v5) (by kernel_rfl) (by kernel_rfl) (by kernel_rfl) (fun _ _ _ h => h) (by rfl) ?y5 (by assumption) ?r5
          case y5 => (intro w hSw; (try dsimp only at hSw); simp only [List.getElem_cons_succ, List.getElem_cons_zero]; go_simp; (try with_reducible rfl))
          try simp only [List.getElem_cons_succ, List.getElem_cons_zero, Act.put, List.setIfInBounds_toArray, List.set_cons_zero, List.set_cons_succ]
          refine take_at 6 (by kernel_rfl) (v := ?v6) (by kernel_rfl) (by kernel_rfl) (by kernel_rfl) (fun _ _ _ h => h) (by rfl) ?y6 (by assumption) ?r6
          case y6 => (intro w hSw; (try dsimp only at hSw); simp only [List.getElem_cons_succ, List.getElem_cons_zero]; go_simp; (try with_reducible rfl))
          try simp only [List.getElem_cons_succ, List.getElem_cons_zero, Act.put, List.setIfInBounds_toArray, List.set_cons_zero, List.set_cons_succ]
          refine take_at 7 (by kernel_rfl) (v := ?v7) (by kernel_rfl) (by kernel_rfl) (by kernel_rfl) (fun _ _ _ h => h) (by rfl) ?y7 (by assumption) ?r7
          case y7 => (intro w hSw; (try dsimp only at hSw); simp only [List.getElem_cons_succ, List.getElem_cons_zero]; go_simp; (try with_reducible rfl))
          try simp only [List.getElem_cons_succ, List.getElem_cons_zero, Act.put, List.setIfInBounds_toArray, List.set_cons_zero, List.set_cons_succ]
          refine take_at 9 (by kernel_rfl) (v := ?v8) (by kernel_rfl) (by kernel_rfl) (by kernel_rfl) (fun _ _ _ h => h) (by rfl) ?y8 (by assumption) ?r8
          case y8 => (intro w hSw; (try dsimp only at hSw); simp only [List.getElem_cons_succ, List.getElem_cons_zero]; go_simp; (try with_reducible rfl))
          try simp only [List.getElem_cons_succ, List.getElem_cons_zero, Act.put, List.setIfInBounds_toArray, List.set_cons_zero, List.set_cons_succ]
          refine ready2_at 8 10 (by kernel_rfl) (by kernel_rfl) (by kernel_rfl) ?_ ?_
          · intro K hK
            simp only [List.getElem_cons_succ, List.getElem_cons_zero]
            go_simp
            go_at_call 11
            refine (HTK.out _ SE.out.solo.one).mono ?_
            rintro e wt ⟨q3, c3, fp3, rfl, hg, hr, ht, hf⟩
            have SF := Lib.hid (SE.out.step hr ht hf)
            have GT := Lib.hid hg
            have gl1 := hg.le
            have gl2 := hg.max
            clear hg hr ht hf
            (try go_wp2_with fail)
            refine hK.out _ _ (E1.out _ _ _ SF.out) (fun hHeld => ?_)
            clear hK K
            try simp only [List.getElem_cons_succ, List.getElem_cons_zero, Act.put, List.setIfInBounds_toArray, List.set_cons_zero, List.set_cons_succ]
            refine ready_at 10 (by kernel_rfl) (by kernel_rfl) (fun K hK => ?_)
            simp only [List.getElem_cons_succ, List.getElem_cons_zero]
            go_simp
            have GR := Lib.hid (show GoodW (wt.alloc (.cells (mc best).toArray mt)) [best] (some ⟨wt.heap.size, 0, none⟩) 1 from good_made wt [best] HOKB.out (by simp))
            have SW := Lib.hid (SF.out.on HK.out ((Below.refl _ _).alloc (Nat.le_refl _) (.cells (mc best).toArray mt)))
            have GT2 := Lib.hid (GT.out.below ((Below.refl _ _).alloc (Nat.le_refl _) (.cells (mc best).toArray mt)))
            generalize wt.alloc (.cells (mc best).toArray mt) = wv at *
            refine hK.out _ _ (E1.out _ _ _ SW.out) (fun hHeld => ?_)
            clear hK K
            try simp only [List.getElem_cons_succ, List.getElem_cons_zero, Act.put, List.setIfInBounds_toArray, List.set_cons_zero, List.set_cons_succ]
            refine ready_at 11 (by kernel_rfl) (by kernel_rfl) (fun K hK => ?_)
            simp only [List.getElem_cons_succ, List.getElem_cons_zero]
            go_simp
            go_at_call 13
            refine (HWD.out _ _ _ _ GT2.out GR.out).mono ?_
            rintro e wx ⟨rfl, hbx⟩
            have SX := Lib.hid (SW.out.on HK.out hbx)
            clear hbx
            (try go_wp2_with fail)
            refine hK.out _ _ (E1.out _ _ _ SX.out) (fun hHeld => ?_)
            clear hK K
            try simp only [List.getElem_cons_succ, List.getElem_cons_zero, Act.put, List.setIfInBounds_toArray, List.set_cons_zero, List.set_cons_succ]
            refine take_at 12 (by kernel_rfl) (v := ?v9) (by kernel_rfl) (by kernel_rfl) (by kernel_rfl) (fun _ _ _ h => h) (by rfl) ?y9 (by assumption) ?r9
            case y9 => (intro w hSw; (try dsimp only at hSw); simp only [List.getElem_cons_succ, List.getElem_cons_zero]; go_simp; (try with_reducible rfl))
            try simp only [List.getElem_cons_succ, List.getElem_cons_zero, Act.put, List.setIfInBounds_toArray, List.set_cons_zero, List.set_cons_succ]
            refine take_at 13 (by kernel_rfl) (v := ?v10) (by kernel_rfl) (by kernel_rfl) (by kernel_rfl) (fun _ _ _ h => h) (by rfl) ?y10 (by assumption) ?r10
            case y10 => (intro w hSw; (try dsimp only at hSw); simp only [List.getElem_cons_succ, List.getElem_cons_zero]; go_simp; (try with_reducible rfl))
            try simp only [List.getElem_cons_succ, List.getElem_cons_zero, Act.put, List.setIfInBounds_toArray, List.set_cons_zero, List.set_cons_succ]
            refine wpAnyH_done (by kernel_rfl) ?_ _
            go_wp2_with fail
            go_ret
            exact ⟨rfl, SX.out.solo.below⟩
          · intro K hK
            simp only [List.getElem_cons_succ, List.getElem_cons_zero]
            go_simp
            have GR := Lib.hid (show GoodW (we.alloc (.cells (mc best).toArray mt)) [best] (some ⟨we.heap.size, 0, none⟩) 1 from good_made we [best] HOKB.out (by simp))
            have SW := Lib.hid (SE.out.on HK.out ((Below.refl _ _).alloc (Nat.le_refl _) (.cells (mc best).toArray mt)))
            have HR10 := Lib.hid (Blk.new we (mc best).toArray mt)
            have HNI := Lib.hid (show we.heap.size ∉ fp from fun e => Nat.lt_irrefl _ (HK.out.low SE.out.solo.one _ e))
            generalize we.alloc (.cells (mc best).toArray mt) = wv at *
            refine hK.out _ _ (E1.out _ _ _ SW.out) (fun hHeld => ?_)
            clear hK K
            try simp only [List.getElem_cons_succ, List.getElem_cons_zero, Act.put, List.setIfInBounds_toArray, List.set_cons_zero, List.set_cons_succ]
            refine ready_at 8 (by kernel_rfl) (by kernel_rfl) (fun K hK => ?_)
            simp only [List.getElem_cons_succ, List.getElem_cons_zero]
            go_simp
            go_at_call 11
            refine (HTK.out _ SW.out.solo.one).mono ?_
            rintro e wt ⟨q3, c3, fp3, rfl, hg, hr, ht, hf⟩
            have SF := Lib.hid (SW.out.step hr ht hf)
            have GT := Lib.hid hg
            have gl1 := hg.le
            have gl2 := hg.max
            have GR2 := Lib.hid (show GoodW wt [best] (some ⟨we.heap.size, 0, none⟩) 1 from goodW_blk (rest := []) (by simpa using (show Blk wt we.heap.size (mc best) mt from (ht.block _ HR10.out.lt HNI.out).trans HR10.out)) HOKB.out rfl (Nat.le_refl _) (by unfold maxLen; omega))
            clear hg hr ht hf
            (try go_wp2_with fail)
            refine hK.out _ _ (E1.out _ _ _ SF.out) (fun hHeld => ?_)
            clear hK K
            try simp only [List.getElem_cons_succ, List.getElem_cons_zero, Act.put, List.setIfInBounds_toArray, List.set_cons_zero, List.set_cons_succ]
            refine ready_at 11 (by kernel_rfl) (by kernel_rfl) (fun K hK => ?_)
            simp only [List.getElem_cons_succ, List.getElem_cons_zero]
            go_simp
            go_at_call 13
            refine (HWD.out _ _ _ _ GT.out GR2.out).mono ?_
            rintro e wx ⟨rfl, hbx⟩
            have SX := Lib.hid (SF.out.on HK.out hbx)
            clear hbx
            (try go_wp2_with fail)
            refine hK.out _ _ (E1.out _ _ _ SX.out) (fun hHeld => ?_)
            clear hK K
            try simp only [List.getElem_cons_succ, List.getElem_cons_zero, Act.put, List.setIfInBounds_toArray, List.set_cons_zero, List.set_cons_succ]
            refine take_at 12 (by kernel_rfl) (v := ?v11) (by kernel_rfl) (by kernel_rfl) (by kernel_rfl) (fun _ _ _ h => h) (by rfl) ?y11 (by assumption) ?r11
            case y11 => (intro w hSw; (try dsimp only at hSw); simp only [List.getElem_cons_succ, List.getElem_cons_zero]; go_simp; (try with_reducible rfl))
            try simp only [List.getElem_cons_succ, List.getElem_cons_zero, Act.put, List.setIfInBounds_toArray, List.set_cons_zero, List.set_cons_succ]
            refine take_at 13 (by kernel_rfl) (v := ?v12) (by kernel_rfl) (by kernel_rfl) (by kernel_rfl) (fun _ _ _ h => h) (by rfl) ?y12 (by assumption) ?r12
            case y12 => (intro w hSw; (try dsimp only at hSw); simp only [List.getElem_cons_succ, List.getElem_cons_zero]; go_simp; (try with_reducible rfl))
            try simp only [List.getElem_cons_succ, List.getElem_cons_zero, Act.put, List.setIfInBounds_toArray, List.set_cons_zero, List.set_cons_succ]
            refine wpAnyH_done (by kernel_rfl) ?_ _
            go_wp2_with fail
            go_ret
            exact ⟨rfl, SX.out.solo.below⟩
end
end Go.Proofs.Ytgohapbobbkaeaa
