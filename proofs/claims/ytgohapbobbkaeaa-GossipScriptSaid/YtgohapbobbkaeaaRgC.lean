/-
  The reference's first: the number of the word to be told next, of those that are not among some.
-/
import Derived.Test.YtgohapbobbkaeaaRgB
namespace Go.Proofs.Ytgohapbobbkaeaa
set_option linter.unusedSimpArgs false
set_option linter.unusedVariables false
open Go.RowKit Sha
/-- What is known when i words are looked through. -/
def FstAt (P : List Tl) (but : List Int) (i : Nat) (r : Int) : Prop :=
  (r = -1 ∧ ∀ k x, k < i → P[k]? = some x → x.m.I ∈ but) ∨ ∃ (q : Nat) (y : Tl), q < i ∧ r = q ∧ P[q]? = some y ∧ y.m.I ∉ but ∧ ∀ k x, k < i → P[k]? = some x → x.m.I ∉ but → k = q ∨ Gs.lt y x
theorem FstAt.zero (P : List Tl) (but : List Int) : FstAt P but 0 (-1) := .inl ⟨rfl, fun k x hk => by omega⟩
theorem FstAt.past {P : List Tl} {but : List Int} {i : Nat} {r : Int} {x : Tl} (h : FstAt P but i r) (hx : P[i]? = some x) (hin : x.m.I ∈ but) : FstAt P but (i + 1) r := by
  rcases h with ⟨h1, h2⟩ | ⟨q, y, hq, hr, hy, hn, hall⟩
  · refine .inl ⟨h1, fun k z hk hz => ?_⟩
    by_cases e : k = i
    · subst e; rw [hx] at hz; cases hz; exact hin
    · exact h2 k z (by omega) hz
  · refine .inr ⟨q, y, by omega, hr, hy, hn, fun k z hk hz hzn => ?_⟩
    by_cases e : k = i
    · subst e; rw [hx] at hz; cases hz; exact absurd hin hzn
    · exact hall k z (by omega) hz hzn
theorem FstAt.one {P : List Tl} {but : List Int} {i : Nat} {x : Tl} (h : FstAt P but i (-1)) (hx : P[i]? = some x) (hin : x.m.I ∉ but) : FstAt P but (i + 1) i := by
  rcases h with ⟨_, h2⟩ | ⟨q, y, hq, hr, _⟩
  · refine .inr ⟨i, x, by omega, rfl, hx, hin, fun k z hk hz hzn => ?_⟩
    by_cases e : k = i
    · exact .inl e
    · exact absurd (h2 k z (by omega) hz) hzn
  · omega
theorem FstAt.less {P : List Tl} {but : List Int} {i q : Nat} {x y : Tl} (h : FstAt P but i q) (hx : P[i]? = some x) (hin : x.m.I ∉ but) (hy : P[q]? = some y) (hl : Gs.lt x y) : FstAt P but (i + 1) i := by
  rcases h with ⟨h1, _⟩ | ⟨q', y', hq, hr, hy', _, hall⟩
  · omega
  · obtain rfl : q = q' := by omega
    rw [hy] at hy'; cases hy'
    refine .inr ⟨i, x, by omega, rfl, hx, hin, fun k z hk hz hzn => ?_⟩
    by_cases e : k = i
    · exact .inl e
    · rcases hall k z (by omega) hz hzn with h1 | h1
      · subst h1; rw [hy] at hz; cases hz; exact .inr hl
      · exact .inr (Gs.lt_trans hl h1)
theorem FstAt.more {P : List Tl} {but : List Int} {i q : Nat} {x y : Tl} (h : FstAt P but i q) (hx : P[i]? = some x) (hy : P[q]? = some y) (hl : Gs.lt y x) : FstAt P but (i + 1) q := by
  rcases h with ⟨h1, _⟩ | ⟨q', y', hq, hr, hy', hn, hall⟩
  · omega
  · obtain rfl : q = q' := by omega
    rw [hy] at hy'; cases hy'
    refine .inr ⟨q, y, by omega, rfl, hy, hn, fun k z hk hz hzn => ?_⟩
    by_cases e : k = i
    · subst e; rw [hx] at hz; cases hz; exact .inr hl
    · exact hall k z (by omega) hz hzn
theorem FstAt.of {P : List Tl} {but : List Int} {i : Nat} {r : Int} (h : FstAt P but i r) : r = -1 ∨ ∃ (q : Nat) (y : Tl), q < i ∧ r = q ∧ P[q]? = some y ∧ y.m.I ∉ but := by
  rcases h with ⟨h1, _⟩ | ⟨q, y, h1, h2, h3, h4, _⟩
  · exact .inl h1
  · exact .inr ⟨q, y, h1, h2, h3, h4⟩
/-- One of the k first nodes is this. -/
def Seen (bl : List Mb) (k : Nat) (i : Int) (z : Bool) : Prop := z = true ↔ ∃ m ∈ bl.take k, m.I = i
theorem Seen.zero (bl : List Mb) (i : Int) : Seen bl 0 i false := by unfold Seen; simp
theorem Seen.next {bl : List Mb} {k : Nat} {i : Int} {z : Bool} (h : Seen bl k i z) (hk : k < bl.length) : Seen bl (k + 1) i (z || (bl[k].I == i)) := by
  unfold Seen at *
  rw [List.take_succ_eq_append_getElem hk, Bool.or_eq_true, h, beq_iff_eq]
  simp only [List.mem_append, List.mem_singleton]
  constructor
  · rintro (⟨m, h1, h2⟩ | h1)
    · exact ⟨m, .inl h1, h2⟩
    · exact ⟨_, .inr rfl, h1⟩
  · rintro ⟨m, h1 | rfl, h2⟩
    · exact .inl ⟨m, h1, h2⟩
    · exact .inr h2
section
attribute [local go_sem ↓] execOp_loadM execOp_storeM execOp_eqlM execOp_buildM
set_option maxRecDepth 100000 in
set_option maxHeartbeats 8000000 in
theorem first_any (b : Nat) (fp : List Nat) (N : Nat) (P : List Tl) (bl : List Mb) (m : Nat) (qo : Option Addr) (co : Nat) (w : World) (h : RefRaw w b fp N P) (hnd : (Gs.ids P).Nodup) (hs : P.length ≤ 1000) (hm : bl.length = m) (hA : At w qo (bl.flatMap mc)) (hmc : m ≤ co) (hco : co ≤ maxLen) :
    Calls Try.prog 31 #[optr b, .slice qo m co] w fun e w' => ∃ r, e = .returned (.int .i64 r) ∧ FstAt P (bl.map (·.I)) P.length r ∧ Below w.heap.size w w' := by
  obtain ⟨qL, cL, qT, cT, hb, hAL, hAT, l1, l2, l3, l4⟩ := h.cells
  obtain ⟨n, hn⟩ : ∃ n, n = P.length := ⟨_, rfl⟩
  rw [← hn] at hb l1 l3 hs ⊢
  unfold maxLen at l2 l4 hco
  have HN := Lib.hid hn
  have HND := Lib.hid hnd
  have HM := Lib.hid hm
  -- what is read
  have HB := Lib.hid (fun W (hb2 : Below w.heap.size w W) => (show W.cell? ⟨b, 1, none⟩ = some (.slice qL n cL) ∧ W.cell? ⟨b, 2, none⟩ = some (.slice qT n cT) from ⟨(hb.upon hb2).cell 1, (hb.upon hb2).cell 2⟩))
  have HL := Lib.hid (show ∀ k (hk : k < P.length), ∃ g off, qL = some ⟨g, off, none⟩ ∧ ∀ W, Below w.heap.size w W → W.cell? ⟨g, off + k * 3, none⟩ = some (.int .i64 P[k].m.I) from fun k hk => by
    obtain ⟨g, off, hq, hc⟩ := hAL.addr (by rw [pms_len]; omega)
    refine ⟨g, off, hq, fun W hb2 => ?_⟩
    have h1 := hc (k * 3) (.int .i64 P[k].m.I) (by have := wflat_get (P.map (·.m)) k (by simpa using hk) 0 (by omega); rw [Nat.add_zero] at this; rw [this]; simp)
    exact (hb2.cell (World.block_lt_of_cell? w _ h1)).trans h1)
  have HT := Lib.hid (show ∀ k (hk : k < P.length), ∃ g off, qT = some ⟨g, off, none⟩ ∧ ∀ W, Below w.heap.size w W → W.cell? ⟨g, off + k, none⟩ = some (.int .i64 (P[k].t : Int)) from fun k hk => by
    obtain ⟨g, off, hq, hc⟩ := hAT.addr (by rw [pts_len]; omega)
    refine ⟨g, off, hq, fun W hb2 => ?_⟩
    have h1 := hc k (.int .i64 (P[k].t : Int)) (by rw [List.getElem?_map, List.getElem?_eq_getElem hk]; rfl)
    exact (hb2.cell (World.block_lt_of_cell? w _ h1)).trans h1)
  have HO := Lib.hid (show ∀ k (hk : k < bl.length), ∃ g off, qo = some ⟨g, off, none⟩ ∧ ∀ W, Below w.heap.size w W → W.cell? ⟨g, off + k * 3, none⟩ = some (.int .i64 bl[k].I) from fun k hk => by
    obtain ⟨g, off, hq, hc⟩ := hA.addr (by rw [wflat_length]; omega)
    refine ⟨g, off, hq, fun W hb2 => ?_⟩
    have h1 := hc (k * 3) (.int .i64 bl[k].I) (by have := wflat_get bl k hk 0 (by omega); rw [Nat.add_zero] at this; rw [this]; simp)
    exact (hb2.cell (World.block_lt_of_cell? w _ h1)).trans h1)
  clear h hb hAL hAT hn hnd hm hA
  go_enter Try.func31, Try.ntmps31
  go_wp2_with fail
  go_loopw [5, 6] (fun ov iv wr => ∃ (r : Int) (i : Nat), ov = .int .i64 r ∧ iv = .int .i64 i ∧ i ≤ n ∧ Hid (FstAt P (bl.map (·.I)) i r) ∧ Hid (Below w.heap.size w wr)) (fun _ iv _ => n - (intOf iv).toNat)
  case atStart => exact ⟨-1, 0, rfl, rfl, by omega, Lib.hid (FstAt.zero _ _), Lib.hid (Below.refl _ _)⟩
  case round =>
    obtain ⟨r, i, rfl, rfl, hi, HF, HBW⟩ := hrel
    obtain ⟨cb1, cb2⟩ := HB.out wr HBW.out
    by_cases hlt : i < n
    · have hil : i < P.length := by rw [← HN.out]; exact hlt
      obtain ⟨gL, oL, rfl, hcL⟩ := HL.out i hil
      obtain ⟨gT, oT, rfl, hcT⟩ := HT.out i hil
      have HX := Lib.hid (show P[i]? = some P[i] from List.getElem?_eq_getElem hil)
      have HCL := Lib.hid hcL
      have HCT := Lib.hid hcT
      have ji : (0 : Int) ≤ (i : Int) ∧ (i : Int) < (n : Int) := by omega
      generalize P[i] = x at *
      clear hcL hcT hil cb2
      go_wp2_with fail
      go_loopw [7, 8] (fun zv kv wk => ∃ (z : Bool) (k : Nat), zv = .bool z ∧ kv = .int .i64 k ∧ k ≤ m ∧ Hid (Seen bl k x.m.I z) ∧ Hid (Below w.heap.size w wk)) (fun _ kv _ => m - (intOf kv).toNat)
      case atStart => exact ⟨false, 0, rfl, rfl, by omega, Lib.hid (Seen.zero _ _), HBW⟩
      case round =>
        clear HBW cb1
        obtain ⟨z, k, rfl, rfl, hk, HSN, HBW⟩ := hrel
        obtain ⟨cb1, cb2⟩ := HB.out _ HBW.out
        by_cases hkm : k < m
        · have hkl : k < bl.length := by rw [HM.out]; exact hkm
          have HS2 := Lib.hid (HSN.out.next hkl)
          obtain ⟨gO, oO, rfl, hcO⟩ := HO.out k hkl
          have jk : (0 : Int) ≤ (k : Int) ∧ (k : Int) < (m : Int) := by omega
          have c1 := hcO _ HBW.out
          have c2 := HCL.out _ HBW.out
          generalize bl[k] = y at *
          clear hcO hkl HSN
          cases z with
          | true =>
            have HS3 := Lib.hid (show Seen bl (k + 1) x.m.I true from by have := HS2.out; simpa using this)
            clear HS2
            go_wp2_with fail
            go_quiet (fail)
            have HB2 := Lib.hid (below_drewN HBW.out nq)
            clear c1 c2 cb1 cb2 HBW
            rename World => wq
            go_wp2_with fail
            go_roundw
            case rel => exact ⟨true, k + 1, rfl, by go_num, by omega, HS3, HB2⟩
            case measure => simp [intOf]; omega
          | false =>
            have HS3 := Lib.hid (show Seen bl (k + 1) x.m.I (y.I == x.m.I) from by have := HS2.out; simpa using this)
            clear HS2
            go_wp2_with fail
            go_quiet (fail)
            have HB2 := Lib.hid (below_drewN HBW.out nq)
            clear c1 c2 cb1 cb2 HBW
            go_wp2_with fail
            go_roundw
            case rel => exact ⟨_, k + 1, rfl, by go_num, by omega, HS3, HB2⟩
            case measure => simp [intOf]; omega
        · obtain rfl : k = m := by omega
          have hall : bl.take k = bl := List.take_of_length_le (by rw [HM.out]; exact Nat.le_refl _)
          have HSA := Lib.hid (show z = true ↔ x.m.I ∈ bl.map (·.I) from by
            have := HSN.out
            unfold Seen at this
            rw [hall] at this
            rw [this, List.mem_map])
          clear hall HSN
          cases z with
          | true =>
            have HF2 := Lib.hid (HF.out.past HX.out (HSA.out.1 rfl))
            clear HSA HF
            go_wp2_with fail
            go_roundw
            case rel => exact ⟨r, i + 1, rfl, by go_num, by omega, HF2, HBW⟩
            case measure => simp [intOf]; omega
          | false =>
            have hni : x.m.I ∉ bl.map (·.I) := fun e => by have := HSA.out.2 e; cases this
            have HNI := Lib.hid hni
            rcases HF.out.of with hr | ⟨q, y, hq, hr, hy, hyn⟩
            · subst hr
              have HF2 := Lib.hid (HF.out.one HX.out hni)
              clear HSA HF hni
              go_wp2_with fail
              go_quiet (fail)
              have HB2 := Lib.hid (below_drewN HBW.out nq)
              clear cb1 cb2 HBW
              go_wp2_with fail
              go_roundw
              case rel => exact ⟨_, i + 1, rfl, by go_num, by omega, HF2, HB2⟩
              case measure => simp [intOf]; omega
            · subst hr
              obtain ⟨hql, hqe⟩ := List.getElem?_eq_some_iff.1 hy
              obtain ⟨gL', oL', eL, hcLq⟩ := HL.out q hql
              obtain ⟨gT', oT', eT, hcTq⟩ := HT.out q hql
              cases eL
              cases eT
              rw [hqe] at hcLq hcTq
              have c1 := HCL.out _ HBW.out
              have c2 := HCT.out _ HBW.out
              have c3 := hcLq _ HBW.out
              have c4 := hcTq _ HBW.out
              have jq : (0 : Int) ≤ (q : Int) ∧ (q : Int) < (n : Int) := by omega
              have tq : decide ((q : Int) < 0) = false := decide_eq_false (by omega)
              have HY := Lib.hid hy
              have hne : x.m.I ≠ y.m.I := by
                intro e
                have hil : i < P.length := by rw [← HN.out]; exact hlt
                have h1 := (List.pairwise_iff_getElem.1 HND.out) q i (by simpa using hql) (by simpa using hil) hq
                have hxe : P[i] = x := by have := HX.out; rw [List.getElem?_eq_getElem hil] at this; exact Option.some.inj this
                simp only [List.getElem_map, hqe, hxe] at h1
                exact h1 e.symm
              clear hcLq hcTq hql hqe hy hni HSA
              by_cases h1 : x.t < y.t
              · have t1 : decide ((x.t : Int) < (y.t : Int)) = true := decide_eq_true (by omega)
                have t1' : decide (x.t < y.t) = true := decide_eq_true h1
                have HF2 := Lib.hid (HF.out.less HX.out HNI.out HY.out (.inl h1))
                clear HF h1 hne
                go_wp2_with fail
                go_quiet (fail)
                have HB2 := Lib.hid (below_drewN HBW.out nq)
                clear c1 c2 c3 c4 cb1 cb2 HBW
                go_wp2_with fail
                go_roundw
                case rel => exact ⟨_, i + 1, rfl, by go_num, by omega, HF2, HB2⟩
                case measure => simp [intOf]; omega
              · have t1 : decide ((x.t : Int) < (y.t : Int)) = false := decide_eq_false (by omega)
                have t1' : decide (x.t < y.t) = false := decide_eq_false h1
                by_cases h2 : x.t = y.t
                · have t2 : ((x.t : Int) == (y.t : Int)) = true := by rw [h2]; simp
                  have t2' : (x.t == y.t) = true := by rw [h2]; simp
                  by_cases h3 : x.m.I < y.m.I
                  · have t3 : decide (x.m.I < y.m.I) = true := decide_eq_true h3
                    have HF2 := Lib.hid (HF.out.less HX.out HNI.out HY.out (.inr ⟨h2, h3⟩))
                    clear HF h1 h2 h3 hne
                    go_wp2_with fail
                    go_quiet (fail)
                    have HB2 := Lib.hid (below_drewN HBW.out nq)
                    clear c1 c2 c3 c4 cb1 cb2 HBW
                    go_wp2_with fail
                    go_roundw
                    case rel => exact ⟨_, i + 1, rfl, by go_num, by omega, HF2, HB2⟩
                    case measure => simp [intOf]; omega
                  · have t3 : decide (x.m.I < y.m.I) = false := decide_eq_false h3
                    have HF2 := Lib.hid (HF.out.more HX.out HY.out (.inr ⟨h2.symm, by omega⟩))
                    clear HF h1 h2 h3 hne
                    go_wp2_with fail
                    go_quiet (fail)
                    have HB2 := Lib.hid (below_drewN HBW.out nq)
                    clear c1 c2 c3 c4 cb1 cb2 HBW
                    go_wp2_with fail
                    go_roundw
                    case rel => exact ⟨_, i + 1, rfl, by go_num, by omega, HF2, HB2⟩
                    case measure => simp [intOf]; omega
                · have t2 : ((x.t : Int) == (y.t : Int)) = false := by rw [beq_eq_false_iff_ne]; omega
                  have t2' : (x.t == y.t) = false := by rw [beq_eq_false_iff_ne]; exact h2
                  have HF2 := Lib.hid (HF.out.more HX.out HY.out (.inl (by omega)))
                  clear HF h1 h2 hne
                  go_wp2_with fail
                  go_quiet (fail)
                  have HB2 := Lib.hid (below_drewN HBW.out nq)
                  clear c1 c2 c3 c4 cb1 cb2 HBW
                  go_wp2_with fail
                  go_roundw
                  case rel => exact ⟨_, i + 1, rfl, by go_num, by omega, HF2, HB2⟩
                  case measure => simp [intOf]; omega
    · obtain rfl : i = n := by omega
      go_wp2_with fail
      go_ret
      exact ⟨r, rfl, HF.out, HBW.out⟩
end
end Go.Proofs.Ytgohapbobbkaeaa
