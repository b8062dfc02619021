/-
  Views, as the chapter has them: which lists they are, who is in them, what comes of a word, of words; what is new.
  Lists of words compared.
  The reference's words.
-/
import Derived.Test.YtocfcfoocmkkdaaQ1
import Derived.Test.YtocfcfoocmkkdaaQ4
import Derived.BigQuiet
import Derived.Test.YtocfcfoocmkkdaaQ3
namespace Go.Proofs.Ytocfcfoocmkkdaa
section
set_option linter.unusedSimpArgs false
set_option linter.unusedVariables false
namespace Vw
def Up (l : List Mb) : Prop := l.Pairwise (fun a b => a.I < b.I)
instance (l : List Mb) : Decidable (Up l) := by unfold Up; infer_instance
def Ok (l : List Mb) : Prop := (∀ x ∈ l, x.May) ∧ Up l
instance (l : List Mb) : Decidable (Ok l) := by unfold Ok; infer_instance
def err (l : List Mb) : Int := if Ok l then 0 else 2
def word (l : List Mb) (n : Int) : Option Mb := l.find? (fun x => x.I == n)
def get (l : List Mb) (n : Int) : Mb × Int := if Ok l then (match word l n with | some x => (x, 0) | none => (Mb.none, 6)) else (Mb.none, 2)
def live (l : List Mb) : List Int := if Ok l then (l.filter Mb.live).map (·.I) else []
def alive (l : List Mb) : List Int := if Ok l then (l.filter (fun x => x.S == 1)).map (·.I) else []
def ins : List Mb → Mb → List Mb
  | [], m => [m]
  | x :: v, m => if m.I < x.I then m :: x :: v else if x.I = m.I then x.merge m :: v else x :: ins v m
def put (v words : List Mb) : List Mb := words.foldl ins v
def fresh (v out : List Mb) : List Mb := out.filter (fun x => decide (word v x.I ≠ some x))
def mrg (v words : List Mb) : List Mb × List Mb × Int := if Ok v ∧ ∀ x ∈ words, x.May then (put v words, fresh v (put v words), 0) else ([], [], 2)
theorem Ok.nil : Ok [] := ⟨by simp, List.Pairwise.nil⟩
theorem Ok.sub {l l' : List Mb} (h : Ok l) (hs : l'.Sublist l) : Ok l' := ⟨fun x hx => h.1 x (hs.subset hx), h.2.sublist hs⟩
theorem Ok.take {l : List Mb} (h : Ok l) (k : Nat) : Ok (l.take k) := h.sub (List.take_sublist ..)
theorem take_ok (l : List Mb) (k : Nat) (hk : k < l.length) : Ok (l.take (k + 1)) ↔ Ok (l.take k) ∧ l[k].May ∧ (0 < k → l[k - 1].I < l[k].I) := by
  rw [List.take_succ_eq_append_getElem hk]
  constructor
  · intro h
    refine ⟨h.sub (List.sublist_append_left ..), h.1 _ (List.mem_append_right _ (List.mem_singleton.2 rfl)), fun h0 => ?_⟩
    have := (List.pairwise_append.1 h.2).2.2
    exact this _ (List.mem_iff_getElem.2 ⟨k - 1, by simp; omega, by simp⟩) _ (by simp)
  · rintro ⟨h1, h2, h3⟩
    refine ⟨?_, List.pairwise_append.2 ⟨h1.2, by simp, ?_⟩⟩
    · intro x hx
      rcases List.mem_append.1 hx with h | h
      · exact h1.1 x h
      · simp at h; subst h; exact h2
    · intro x hx y hy
      simp at hy; subst hy
      obtain ⟨i, hi, rfl⟩ := List.mem_iff_getElem.1 hx
      simp at hi
      have h4 := h3 (by omega)
      by_cases e : i = k - 1
      · subst e; simpa using h4
      · have h5 : ((l.take k)[i]'(by simp; omega)).I < ((l.take k)[k - 1]'(by simp; omega)).I := List.pairwise_iff_getElem.1 h1.2 i (k - 1) (by simp; omega) (by simp; omega) (by omega)
        rw [List.getElem_take, List.getElem_take] at h5
        rw [List.getElem_take]; omega
theorem word_take (l : List Mb) (n : Int) (k : Nat) (hk : k < l.length) : word (l.take (k + 1)) n = (word (l.take k) n).or (if l[k].I == n then some l[k] else none) := by
  unfold word
  rw [List.take_succ_eq_append_getElem hk, List.find?_append]
  congr 1
  simp [List.find?_cons]
  split <;> simp_all
theorem word_some {l : List Mb} {n : Int} {x : Mb} (h : word l n = some x) : x ∈ l ∧ x.I = n := by
  unfold word at h
  exact ⟨List.mem_of_find?_eq_some h, by simpa using List.find?_some h⟩
theorem word_none {l : List Mb} {n : Int} : word l n = none ↔ ∀ x ∈ l, x.I ≠ n := by
  unfold word; simp
theorem ins_length (v : List Mb) (m : Mb) : (ins v m).length ≤ v.length + 1 := by
  induction v with
  | nil => simp [ins]
  | cons x v ih => unfold ins; split; simp; split <;> simp; omega
theorem put_length (v words : List Mb) : (put v words).length ≤ v.length + words.length := by
  unfold put
  induction words generalizing v with
  | nil => simp
  | cons m words ih => have := ih (ins v m); have := ins_length v m; simp only [List.foldl_cons, List.length_cons]; omega
theorem put_take (v words : List Mb) (k : Nat) (hk : k < words.length) : put v (words.take (k + 1)) = ins (put v (words.take k)) words[k] := by
  unfold put; rw [List.take_succ_eq_append_getElem hk, List.foldl_append]; rfl
end Vw
end
section
set_option linter.unusedSimpArgs false
set_option linter.unusedVariables false
open Go.RowKit Sha
@[irreducible] def neqM (t : TypeId) (x y : Operand) (u v : Value) : Sem Next := do pure (.value (← (do eqGuard .neq t x y u v; binOp .neq t u v)))
theorem execOp_neqM (ρ : Operand → Value) (dst : Option Tmp) (x y : Operand) (r : TypeId) (ty : TypeId) (pos : String) (after : Array Edge) (guard : Option (Nat × Bool)) :
    execOp ρ { dst := dst, op := .binOp .neq 29 x y r, type := ty, pos := pos, after := after, guard := guard } = neqM 29 x y (ρ x) (ρ y) := by unfold neqM; rfl
theorem run_neqM (a b : Mb) (e : Bool) (he : e = decide (a ≠ b)) (x y : Operand) (w : World) : (neqM 29 x y (mv a) (mv b)).run Try.prog w = .ok (.value (.bool e)) w := by
  subst he
  have hd : decide (a ≠ b) = !(a.I == b.I && a.S == b.S && a.N == b.N) := by
    rw [Bool.eq_iff_iff]; simp [Mb.eq_iff, and_assoc]; omega
  rw [hd]
  unfold neqM
  by_cases h : a.I = b.I <;> by_cases h2 : a.S = b.S <;> by_cases h3 : a.N = b.N <;> simp [go_sem, h, h2, h3]
section
attribute [local go_sem ↓] execOp_loadM execOp_storeM execOp_eqlM execOp_neqM
set_option maxRecDepth 100000 in
set_option maxHeartbeats 2000000 in
theorem sameM_any (l l' : List Mb) (n m : Nat) (q p : Option Addr) (c d : Nat) (w : World) (hn : l.length = n) (hm : l'.length = m) (hl : GoodW w l q c) (hl' : GoodW w l' p d) :
    Calls Try.prog 12 #[.slice q n c, .slice p m d] w (BoolDone (decide (l = l')) w) := by
  have HL := Lib.hid hl
  have HR := Lib.hid hl'
  have HN := Lib.hid hn
  have HM := Lib.hid hm
  have b1 := hl.le
  have b2 := hl.max
  have b3 := hl'.le
  have b4 := hl'.max
  rw [hn] at b1
  rw [hm] at b3
  clear hl hl'
  by_cases hnm : n = m
  · subst hnm
    have t0 : ((n : Int) != (n : Int)) = false := by simp
    clear hn hm
    go_enter Try.func12, Try.ntmps12
    go_wp2_with fail
    go_loopw [5] (fun i wr => ∃ k : Nat, i = .int .i64 k ∧ k ≤ n ∧ Hid (l.take k = l'.take k) ∧ Hid (Below w.heap.size w wr)) (fun i _ => n - (intOf i).toNat)
    case atStart => exact ⟨0, rfl, by omega, Lib.hid rfl, Lib.hid (Below.refl _ _)⟩
    case round =>
      obtain ⟨k, rfl, hk, HT, HB⟩ := hrel
      by_cases hlt : k < n
      · have hk1 : k < l.length := by rw [HN.out]; exact hlt
        have hk2 : k < l'.length := by rw [HM.out]; exact hlt
        obtain ⟨b, off, rfl, hr⟩ := HL.out.get k hk1
        obtain ⟨b', off', rfl, hr'⟩ := HR.out.get k hk2
        have jk : (0 : Int) ≤ (k : Int) ∧ (k : Int) < (n : Int) := by omega
        obtain ⟨I, W, hC⟩ := cls_of wr
        have hne : Nonempty I := hC.ne
        have m1 := fun i => run_loadM (rangeM_on hr (below_next HB.out (hC.back i)))
        have m2 := fun i => run_loadM (rangeM_on hr' (below_next HB.out (hC.back i)))
        have HC := Lib.hid hC
        have HS := Lib.hid (show (l.take (k + 1) = l'.take (k + 1)) ↔ l[k] = l'[k] from by
          rw [List.take_succ_eq_append_getElem hk1, List.take_succ_eq_append_getElem hk2, HT.out]
          exact ⟨fun e => by simpa using List.append_cancel_left e, fun e => by rw [e]⟩)
        have HNE := Lib.hid (show l[k] ≠ l'[k] → l ≠ l' from fun h e => h (by simp [e]))
        generalize l[k] = x at *
        generalize l'[k] = y at *
        clear hC hr hr' hk1 hk2 HT
        by_cases hxy : x = y
        · have HT2 := Lib.hid (HS.out.2 hxy)
          have HQ := run_neqM x y false (by simp [hxy])
          clear hxy HS HNE
          go_wp2_with fail
          refine wp_region_cls W (by kernel_rfl) (by kernel_rfl) HC.out.one ?_
          repeat go_big_quiet_step (fail)
          refine wpQuiet_nil ?_
          rintro _ ⟨mm, rfl⟩
          have B2 := Lib.hid (below_next HB.out (HC.out.back mm))
          clear m1 m2 HQ HC
          generalize W mm = wv at *
          go_wp2_with fail
          go_roundw
          case rel => exact ⟨k + 1, by go_num, by omega, HT2, B2⟩
          case measure => simp [intOf]; omega
        · have HV := Lib.hid (decide_eq_false (HNE.out hxy))
          have HQ := run_neqM x y true (by simp [hxy])
          clear hxy HS HNE
          go_wp2_with fail
          refine wp_region_cls W (by kernel_rfl) (by kernel_rfl) HC.out.one ?_
          repeat go_big_quiet_step (fail)
          refine wpQuiet_nil ?_
          rintro _ ⟨mm, rfl⟩
          have B2 := Lib.hid (below_next HB.out (HC.out.back mm))
          clear m1 m2 HQ HC
          generalize W mm = wv at *
          go_wp2_with fail
          try rw [Exit.noGoto_ret]
          go_ret
          exact ⟨by rw [HV.out]; rfl, B2.out⟩
      · obtain rfl : n = k := by omega
        have HV := Lib.hid (show decide (l = l') = true from decide_eq_true (by
          have := HT.out
          rwa [List.take_of_length_le (by rw [HN.out]; exact Nat.le_refl _), List.take_of_length_le (by rw [HM.out]; exact Nat.le_refl _)] at this))
        clear HT
        go_wp2_with fail
        go_ret
        exact ⟨by rw [HV.out]; rfl, HB.out⟩
  · have t0 : ((n : Int) != (m : Int)) = true := by simpa using (show (n : Int) ≠ (m : Int) by omega)
    have HV := Lib.hid (show decide (l = l') = false from decide_eq_false (fun e => hnm (by rw [← hn, ← hm, e])))
    clear hn hm hnm
    go_enter Try.func12, Try.ntmps12
    go_wp2_with fail
    go_ret
    exact ⟨by rw [HV.out]; rfl, Below.refl _ _⟩
set_option maxRecDepth 100000 in
set_option maxHeartbeats 2000000 in
theorem rvsame_any (l l' : List Mb) (n m : Nat) (q p : Option Addr) (c d : Nat) (w : World) (hn : l.length = n) (hm : l'.length = m) (hl : GoodW w l q c) (hl' : GoodW w l' p d) :
    Calls Try.prog 23 #[.slice q n c, .slice p m d] w (BoolDone (decide (l = l')) w) := by
  have HL := Lib.hid hl
  have HR := Lib.hid hl'
  have HN := Lib.hid hn
  have HM := Lib.hid hm
  have b1 := hl.le
  have b2 := hl.max
  have b3 := hl'.le
  have b4 := hl'.max
  rw [hn] at b1
  rw [hm] at b3
  clear hl hl'
  by_cases hnm : n = m
  · subst hnm
    have t0 : ((n : Int) != (n : Int)) = false := by simp
    clear hn hm
    go_enter Try.func23, Try.ntmps23
    go_wp2_with fail
    go_loopw [5] (fun i wr => ∃ k : Nat, i = .int .i64 k ∧ k ≤ n ∧ Hid (l.take k = l'.take k) ∧ Hid (Below w.heap.size w wr)) (fun i _ => n - (intOf i).toNat)
    case atStart => exact ⟨0, rfl, by omega, Lib.hid rfl, Lib.hid (Below.refl _ _)⟩
    case round =>
      obtain ⟨k, rfl, hk, HT, HB⟩ := hrel
      by_cases hlt : k < n
      · have hk1 : k < l.length := by rw [HN.out]; exact hlt
        have hk2 : k < l'.length := by rw [HM.out]; exact hlt
        obtain ⟨b, off, rfl, hr⟩ := HL.out.get k hk1
        obtain ⟨b', off', rfl, hr'⟩ := HR.out.get k hk2
        have jk : (0 : Int) ≤ (k : Int) ∧ (k : Int) < (n : Int) := by omega
        obtain ⟨I, W, hC⟩ := cls_of wr
        have hne : Nonempty I := hC.ne
        have m1 := fun i => run_loadM (rangeM_on hr (below_next HB.out (hC.back i)))
        have m2 := fun i => run_loadM (rangeM_on hr' (below_next HB.out (hC.back i)))
        have HC := Lib.hid hC
        have HS := Lib.hid (show (l.take (k + 1) = l'.take (k + 1)) ↔ l[k] = l'[k] from by
          rw [List.take_succ_eq_append_getElem hk1, List.take_succ_eq_append_getElem hk2, HT.out]
          exact ⟨fun e => by simpa using List.append_cancel_left e, fun e => by rw [e]⟩)
        have HNE := Lib.hid (show l[k] ≠ l'[k] → l ≠ l' from fun h e => h (by simp [e]))
        generalize l[k] = x at *
        generalize l'[k] = y at *
        clear hC hr hr' hk1 hk2 HT
        by_cases hxy : x = y
        · have HT2 := Lib.hid (HS.out.2 hxy)
          have HQ := run_neqM x y false (by simp [hxy])
          clear hxy HS HNE
          go_wp2_with fail
          refine wp_region_cls W (by kernel_rfl) (by kernel_rfl) HC.out.one ?_
          repeat go_big_quiet_step (fail)
          refine wpQuiet_nil ?_
          rintro _ ⟨mm, rfl⟩
          have B2 := Lib.hid (below_next HB.out (HC.out.back mm))
          clear m1 m2 HQ HC
          generalize W mm = wv at *
          go_wp2_with fail
          go_roundw
          case rel => exact ⟨k + 1, by go_num, by omega, HT2, B2⟩
          case measure => simp [intOf]; omega
        · have HV := Lib.hid (decide_eq_false (HNE.out hxy))
          have HQ := run_neqM x y true (by simp [hxy])
          clear hxy HS HNE
          go_wp2_with fail
          refine wp_region_cls W (by kernel_rfl) (by kernel_rfl) HC.out.one ?_
          repeat go_big_quiet_step (fail)
          refine wpQuiet_nil ?_
          rintro _ ⟨mm, rfl⟩
          have B2 := Lib.hid (below_next HB.out (HC.out.back mm))
          clear m1 m2 HQ HC
          generalize W mm = wv at *
          go_wp2_with fail
          try rw [Exit.noGoto_ret]
          go_ret
          exact ⟨by rw [HV.out]; rfl, B2.out⟩
      · obtain rfl : n = k := by omega
        have HV := Lib.hid (show decide (l = l') = true from decide_eq_true (by
          have := HT.out
          rwa [List.take_of_length_le (by rw [HN.out]; exact Nat.le_refl _), List.take_of_length_le (by rw [HM.out]; exact Nat.le_refl _)] at this))
        clear HT
        go_wp2_with fail
        go_ret
        exact ⟨by rw [HV.out]; rfl, HB.out⟩
  · have t0 : ((n : Int) != (m : Int)) = true := by simpa using (show (n : Int) ≠ (m : Int) by omega)
    have HV := Lib.hid (show decide (l = l') = false from decide_eq_false (fun e => hnm (by rw [← hn, ← hm, e])))
    clear hn hm hnm
    go_enter Try.func23, Try.ntmps23
    go_wp2_with fail
    go_ret
    exact ⟨by rw [HV.out]; rfl, Below.refl _ _⟩
end
end
section
set_option linter.unusedSimpArgs false
set_option linter.unusedVariables false
open Go.RowKit Sha
theorem rlive_any (m : Mb) (w : World) : Calls Try.prog 41 #[mv m] w (BoolDone m.live w) := by
  by_cases h1 : m.S = 1
  · have HV := Lib.hid (show m.live = true from decide_eq_true (Or.inl h1))
    have t1 : (m.S == 1) = true := by simpa using h1
    clear h1
    go_enter Try.func41, Try.ntmps41
    go_wp2_with fail
    go_ret
    exact ⟨by rw [HV.out]; rfl, (Below.refl _ _).alloc (Nat.le_refl _) _⟩
  · have HV := Lib.hid (show m.live = (m.S == 2) from by unfold Mb.live; simp [h1]; rfl)
    have t1 : (m.S == 1) = false := by simpa using h1
    clear h1
    go_enter Try.func41, Try.ntmps41
    go_wp2_with fail
    go_ret
    exact ⟨by rw [HV.out]; rfl, (Below.refl _ _).alloc (Nat.le_refl _) _⟩
set_option maxHeartbeats 1000000 in
theorem rcheck_any (m : Mb) (w : World) : Calls Try.prog 35 #[mv m] w (ErrDone m.err w) := by
  by_cases h0 : m.I < 1
  · have HV := Lib.hid (show m.err = 2 from if_neg (by unfold Mb.May; omega))
    have t0 : decide (m.I < 1) = true := decide_eq_true (by omega)
    clear h0
    go_enter Try.func35, Try.ntmps35
    go_wp2_with fail
    go_ret
    exact ⟨by rw [HV.out]; rfl, (Below.refl _ _).alloc (Nat.le_refl _) _⟩
  · skip
    by_cases h1 : 64 < m.I
    · have HV := Lib.hid (show m.err = 2 from if_neg (by unfold Mb.May; omega))
      have t0 : decide (m.I < 1) = false := decide_eq_false (by omega)
      have t1 : decide (64 < m.I) = true := decide_eq_true (by omega)
      clear h0 h1
      go_enter Try.func35, Try.ntmps35
      go_wp2_with fail
      go_ret
      exact ⟨by rw [HV.out]; rfl, (Below.refl _ _).alloc (Nat.le_refl _) _⟩
    · skip
      by_cases h2 : m.S < 1
      · have HV := Lib.hid (show m.err = 2 from if_neg (by unfold Mb.May; omega))
        have t0 : decide (m.I < 1) = false := decide_eq_false (by omega)
        have t1 : decide (64 < m.I) = false := decide_eq_false (by omega)
        have t2 : decide (m.S < 1) = true := decide_eq_true (by omega)
        clear h0 h1 h2
        go_enter Try.func35, Try.ntmps35
        go_wp2_with fail
        go_ret
        exact ⟨by rw [HV.out]; rfl, (Below.refl _ _).alloc (Nat.le_refl _) _⟩
      · skip
        by_cases h3 : 4 < m.S
        · have HV := Lib.hid (show m.err = 2 from if_neg (by unfold Mb.May; omega))
          have t0 : decide (m.I < 1) = false := decide_eq_false (by omega)
          have t1 : decide (64 < m.I) = false := decide_eq_false (by omega)
          have t2 : decide (m.S < 1) = false := decide_eq_false (by omega)
          have t3 : decide (4 < m.S) = true := decide_eq_true (by omega)
          clear h0 h1 h2 h3
          go_enter Try.func35, Try.ntmps35
          go_wp2_with fail
          go_ret
          exact ⟨by rw [HV.out]; rfl, (Below.refl _ _).alloc (Nat.le_refl _) _⟩
        · skip
          by_cases h4 : m.N < 0
          · have HV := Lib.hid (show m.err = 2 from if_neg (by unfold Mb.May; omega))
            have t0 : decide (m.I < 1) = false := decide_eq_false (by omega)
            have t1 : decide (64 < m.I) = false := decide_eq_false (by omega)
            have t2 : decide (m.S < 1) = false := decide_eq_false (by omega)
            have t3 : decide (4 < m.S) = false := decide_eq_false (by omega)
            have t4 : decide (m.N < 0) = true := decide_eq_true (by omega)
            clear h0 h1 h2 h3 h4
            go_enter Try.func35, Try.ntmps35
            go_wp2_with fail
            go_ret
            exact ⟨by rw [HV.out]; rfl, (Below.refl _ _).alloc (Nat.le_refl _) _⟩
          · skip
            by_cases h5 : 2147483647 < m.N
            · have HV := Lib.hid (show m.err = 2 from if_neg (by unfold Mb.May; omega))
              have t0 : decide (m.I < 1) = false := decide_eq_false (by omega)
              have t1 : decide (64 < m.I) = false := decide_eq_false (by omega)
              have t2 : decide (m.S < 1) = false := decide_eq_false (by omega)
              have t3 : decide (4 < m.S) = false := decide_eq_false (by omega)
              have t4 : decide (m.N < 0) = false := decide_eq_false (by omega)
              have t5 : decide (2147483647 < m.N) = true := decide_eq_true (by omega)
              clear h0 h1 h2 h3 h4 h5
              go_enter Try.func35, Try.ntmps35
              go_wp2_with fail
              go_ret
              exact ⟨by rw [HV.out]; rfl, (Below.refl _ _).alloc (Nat.le_refl _) _⟩
            · have HV := Lib.hid (show m.err = 0 from if_pos (by unfold Mb.May; omega))
              have t0 : decide (m.I < 1) = false := decide_eq_false (by omega)
              have t1 : decide (64 < m.I) = false := decide_eq_false (by omega)
              have t2 : decide (m.S < 1) = false := decide_eq_false (by omega)
              have t3 : decide (4 < m.S) = false := decide_eq_false (by omega)
              have t4 : decide (m.N < 0) = false := decide_eq_false (by omega)
              have t5 : decide (2147483647 < m.N) = false := decide_eq_false (by omega)
              clear h0 h1 h2 h3 h4 h5
              go_enter Try.func35, Try.ntmps35
              go_wp2_with fail
              go_ret
              exact ⟨by rw [HV.out]; rfl, (Below.refl _ _).alloc (Nat.le_refl _) _⟩
theorem rcheck_ok {a : Mb} (h : a.May) (w : World) : Calls Try.prog 35 #[mv a] w (ErrDone 0 w) := by have := rcheck_any a w; rwa [show a.err = 0 from if_pos h] at this
theorem rcheck_no {a : Mb} (h : ¬ a.May) (w : World) : Calls Try.prog 35 #[mv a] w (ErrDone 2 w) := by have := rcheck_any a w; rwa [show a.err = 2 from if_neg h] at this
section
attribute [local go_sem ↓] execOp_loadM execOp_storeM
set_option maxHeartbeats 1000000 in
theorem rboth_any (a b : Mb) (w : World) : Calls Try.prog 61 #[mv a, mv b] w (BoolDone (decide (a.Both b)) w) := by
  have HT := Lib.hid (TwoM.new a b w)
  have l1 := HT.out.l1
  by_cases ha : a.May
  · have HA := Lib.hid (rcheck_ok ha)
    by_cases hb : b.May
    · have HB := Lib.hid (rcheck_ok hb)
      by_cases hi : a.I = b.I
      · have HV := Lib.hid (show decide (a.Both b) = true from by exact decide_eq_true ⟨ha, hb, hi⟩)
        have t1 : (a.I == b.I) = true := by simpa using hi
        clear hi ha hb
        go_enter Try.func61, Try.ntmps61
        go_wp2_with fail
        refine (HA.out _).mono ?_
        rintro e w1 ⟨rfl, hb1⟩
        have T1 := Lib.hid (HT.out.on hb1)
        have l2 := T1.out.l2
        clear hb1
        go_wp2_with fail
        refine (HB.out _).mono ?_
        rintro e w2 ⟨rfl, hb2⟩
        have T2 := Lib.hid (T1.out.on hb2)
        have c1 : w2.cell? ⟨w.heap.size, 0, none⟩ = some (.int .i64 a.I) := T2.out.k1.cell 0
        have c2 : w2.cell? ⟨w.heap.size + 1, 0, none⟩ = some (.int .i64 b.I) := T2.out.k2.cell 0
        clear hb2
        go_wp2_with fail
        go_ret
        exact ⟨by rw [HV.out]; rfl, T2.out.below⟩
      · have HV := Lib.hid (show decide (a.Both b) = false from by exact decide_eq_false (fun h => hi h.2.2))
        have t1 : (a.I == b.I) = false := by simpa using hi
        clear hi ha hb
        go_enter Try.func61, Try.ntmps61
        go_wp2_with fail
        refine (HA.out _).mono ?_
        rintro e w1 ⟨rfl, hb1⟩
        have T1 := Lib.hid (HT.out.on hb1)
        have l2 := T1.out.l2
        clear hb1
        go_wp2_with fail
        refine (HB.out _).mono ?_
        rintro e w2 ⟨rfl, hb2⟩
        have T2 := Lib.hid (T1.out.on hb2)
        have c1 : w2.cell? ⟨w.heap.size, 0, none⟩ = some (.int .i64 a.I) := T2.out.k1.cell 0
        have c2 : w2.cell? ⟨w.heap.size + 1, 0, none⟩ = some (.int .i64 b.I) := T2.out.k2.cell 0
        clear hb2
        go_wp2_with fail
        go_ret
        exact ⟨by rw [HV.out]; rfl, T2.out.below⟩
    · have HB := Lib.hid (rcheck_no hb)
      have HV := Lib.hid (show decide (a.Both b) = false from by exact decide_eq_false (fun h => hb h.2.1))
      clear ha hb
      go_enter Try.func61, Try.ntmps61
      go_wp2_with fail
      refine (HA.out _).mono ?_
      rintro e w1 ⟨rfl, hb1⟩
      have T1 := Lib.hid (HT.out.on hb1)
      have l2 := T1.out.l2
      clear hb1
      go_wp2_with fail
      refine (HB.out _).mono ?_
      rintro e w2 ⟨rfl, hb2⟩
      have T2 := Lib.hid (T1.out.on hb2)
      have c1 : w2.cell? ⟨w.heap.size, 0, none⟩ = some (.int .i64 a.I) := T2.out.k1.cell 0
      have c2 : w2.cell? ⟨w.heap.size + 1, 0, none⟩ = some (.int .i64 b.I) := T2.out.k2.cell 0
      clear hb2
      go_wp2_with fail
      go_ret
      exact ⟨by rw [HV.out]; rfl, T2.out.below⟩
  · have HA := Lib.hid (rcheck_no ha)
    have HV := Lib.hid (show decide (a.Both b) = false from by exact decide_eq_false (fun h => ha h.1))
    clear ha
    go_enter Try.func61, Try.ntmps61
    go_wp2_with fail
    refine (HA.out _).mono ?_
    rintro e w1 ⟨rfl, hb1⟩
    have T1 := Lib.hid (HT.out.on hb1)
    have l2 := T1.out.l2
    clear hb1
    go_wp2_with fail
    go_ret
    exact ⟨by rw [HV.out]; rfl, T1.out.below⟩
theorem rboth_ok {a b : Mb} (h : a.Both b) (w : World) : Calls Try.prog 61 #[mv a, mv b] w (BoolDone true w) := by have := rboth_any a b w; rwa [show decide (a.Both b) = true from decide_eq_true h] at this
theorem rboth_no {a b : Mb} (h : ¬ a.Both b) (w : World) : Calls Try.prog 61 #[mv a, mv b] w (BoolDone false w) := by have := rboth_any a b w; rwa [show decide (a.Both b) = false from decide_eq_false h] at this
set_option maxHeartbeats 1000000 in
theorem rover_any (a b : Mb) (w : World) : Calls Try.prog 62 #[mv a, mv b] w (BoolDone (decide (a.Over b)) w) := by
  have HT := Lib.hid (TwoM.new a b w)
  have l1 := HT.out.l1
  have l2 := HT.out.l2
  by_cases h : a.Both b
  · have HA := Lib.hid (rboth_ok h)
    by_cases hn : b.N < a.N
    · have HV := Lib.hid (show decide (a.Over b) = true from decide_eq_true ⟨h, Or.inl hn⟩)
      have t1 : decide (b.N < a.N) = true := decide_eq_true hn
      clear h hn
      go_enter Try.func62, Try.ntmps62
      go_wp2_with fail
      refine (HA.out _).mono ?_
      rintro e w1 ⟨rfl, hb1⟩
      have T1 := Lib.hid (HT.out.on hb1)
      clear hb1
      have c1 : w1.cell? ⟨w.heap.size, 2, none⟩ = some (.int .i64 a.N) := T1.out.k1.cell 2
      have c2 : w1.cell? ⟨w.heap.size + 1, 2, none⟩ = some (.int .i64 b.N) := T1.out.k2.cell 2
      have d1 : w1.cell? ⟨w.heap.size, 1, none⟩ = some (.int .i64 a.S) := T1.out.k1.cell 1
      have d2 : w1.cell? ⟨w.heap.size + 1, 1, none⟩ = some (.int .i64 b.S) := T1.out.k2.cell 1
      go_wp2_with fail
      go_ret
      exact ⟨by rw [HV.out]; rfl, T1.out.below⟩
    · have t1 : decide (b.N < a.N) = false := decide_eq_false hn
      by_cases he : a.N = b.N
      · have t2 : (a.N == b.N) = true := by simpa using he
        have HV := Lib.hid (show decide (a.Over b) = decide (b.S < a.S) from by
          rw [decide_eq_decide]; exact ⟨fun x => x.2.elim (fun y => absurd y hn) (fun y => y.2), fun x => ⟨h, Or.inr ⟨he, x⟩⟩⟩)
        clear h hn he
        go_enter Try.func62, Try.ntmps62
        go_wp2_with fail
        refine (HA.out _).mono ?_
        rintro e w1 ⟨rfl, hb1⟩
        have T1 := Lib.hid (HT.out.on hb1)
        clear hb1
        have c1 : w1.cell? ⟨w.heap.size, 2, none⟩ = some (.int .i64 a.N) := T1.out.k1.cell 2
        have c2 : w1.cell? ⟨w.heap.size + 1, 2, none⟩ = some (.int .i64 b.N) := T1.out.k2.cell 2
        have d1 : w1.cell? ⟨w.heap.size, 1, none⟩ = some (.int .i64 a.S) := T1.out.k1.cell 1
        have d2 : w1.cell? ⟨w.heap.size + 1, 1, none⟩ = some (.int .i64 b.S) := T1.out.k2.cell 1
        go_wp2_with fail
        go_ret
        exact ⟨by rw [HV.out]; rfl, T1.out.below⟩
      · have t2 : (a.N == b.N) = false := by simpa using he
        have HV := Lib.hid (show decide (a.Over b) = false from decide_eq_false (fun x => x.2.elim hn (fun y => he y.1)))
        clear h hn he
        go_enter Try.func62, Try.ntmps62
        go_wp2_with fail
        refine (HA.out _).mono ?_
        rintro e w1 ⟨rfl, hb1⟩
        have T1 := Lib.hid (HT.out.on hb1)
        clear hb1
        have c1 : w1.cell? ⟨w.heap.size, 2, none⟩ = some (.int .i64 a.N) := T1.out.k1.cell 2
        have c2 : w1.cell? ⟨w.heap.size + 1, 2, none⟩ = some (.int .i64 b.N) := T1.out.k2.cell 2
        have d1 : w1.cell? ⟨w.heap.size, 1, none⟩ = some (.int .i64 a.S) := T1.out.k1.cell 1
        have d2 : w1.cell? ⟨w.heap.size + 1, 1, none⟩ = some (.int .i64 b.S) := T1.out.k2.cell 1
        go_wp2_with fail
        go_ret
        exact ⟨by rw [HV.out]; rfl, T1.out.below⟩
  · have HA := Lib.hid (rboth_no h)
    have HV := Lib.hid (show decide (a.Over b) = false from decide_eq_false (fun x => h x.1))
    clear h
    go_enter Try.func62, Try.ntmps62
    go_wp2_with fail
    refine (HA.out _).mono ?_
    rintro e w1 ⟨rfl, hb1⟩
    have T1 := Lib.hid (HT.out.on hb1)
    clear hb1
    go_wp2_with fail
    go_ret
    exact ⟨by rw [HV.out]; rfl, T1.out.below⟩
theorem rover_of {a b : Mb} {z : Bool} (h : decide (a.Over b) = z) (w : World) : Calls Try.prog 62 #[mv a, mv b] w (BoolDone z w) := by have := rover_any a b w; rwa [h] at this
set_option maxHeartbeats 1000000 in
theorem rmerge_any (a b : Mb) (w : World) : Calls Try.prog 52 #[mv a, mv b] w (MbDone (a.merge b) (a.berr b) w) := by
  have HT := Lib.hid (TriM.zero a b w)
  have l1 := HT.out.l1
  have l2 := HT.out.l2
  by_cases h : a.Both b
  · have HA := Lib.hid (rboth_ok h)
    have HE := Lib.hid (show a.berr b = 0 from if_pos h)
    by_cases hu : b.Over a
    · have HV := Lib.hid (show a.merge b = b from by unfold Mb.merge; rw [if_pos h, if_neg (fun x => Mb.up_not x hu.2)])
      have HO := Lib.hid (rover_of (decide_eq_true hu))
      clear h hu
      go_enter Try.func52, Try.ntmps52
      go_wp2_with fail
      refine (HA.out _).mono ?_
      rintro e w1 ⟨rfl, hb1⟩
      have T1 := Lib.hid (HT.out.on hb1)
      have m1 := T1.out.l1
      have m2 := T1.out.l2
      clear hb1 l1 l2
      go_wp2_with fail
      refine (HO.out _).mono ?_
      rintro e w2 ⟨rfl, hb2⟩
      have T2 := Lib.hid (T1.out.on hb2)
      have k1 := T2.out.l2
      have s1 := T2.out.st b
      have T3 := Lib.hid (T2.out.set b)
      clear hb2 m1 m2
      generalize w2.setRow (w.heap.size + 1 + 1) (mc b).toArray = w3 at *
      go_wp2_with fail
      exact bodyPost_ret (results_m1 rfl _ _ _ b (.int .i64 0) rfl rfl T3.out.k3) rfl ⟨by rw [HV.out, HE.out], T3.out.below⟩
    · have HV := Lib.hid (show a.merge b = a from Mb.merge_left h (fun x => hu ⟨h.symm, x⟩))
      have HO := Lib.hid (rover_of (decide_eq_false hu))
      clear h hu
      go_enter Try.func52, Try.ntmps52
      go_wp2_with fail
      refine (HA.out _).mono ?_
      rintro e w1 ⟨rfl, hb1⟩
      have T1 := Lib.hid (HT.out.on hb1)
      have m1 := T1.out.l1
      have m2 := T1.out.l2
      clear hb1 l1 l2
      go_wp2_with fail
      refine (HO.out _).mono ?_
      rintro e w2 ⟨rfl, hb2⟩
      have T2 := Lib.hid (T1.out.on hb2)
      have k1 := T2.out.l1
      have s1 := T2.out.st a
      have T3 := Lib.hid (T2.out.set a)
      clear hb2 m1 m2
      generalize w2.setRow (w.heap.size + 1 + 1) (mc a).toArray = w3 at *
      go_wp2_with fail
      exact bodyPost_ret (results_m1 rfl _ _ _ a (.int .i64 0) rfl rfl T3.out.k3) rfl ⟨by rw [HV.out, HE.out], T3.out.below⟩
  · have HA := Lib.hid (rboth_no h)
    have HV := Lib.hid (show a.merge b = Mb.none from if_neg h)
    have HE := Lib.hid (show a.berr b = 2 from if_neg h)
    clear h
    go_enter Try.func52, Try.ntmps52
    go_wp2_with fail
    refine (HA.out _).mono ?_
    rintro e w1 ⟨rfl, hb1⟩
    have T1 := Lib.hid (HT.out.on hb1)
    have s1 := T1.out.st0
    have T2 := Lib.hid (T1.out.set Mb.none)
    clear hb1
    generalize w1.setRow (w.heap.size + 1 + 1) (mc Mb.none).toArray = w2 at *
    go_wp2_with fail
    exact bodyPost_ret (results_m1 rfl _ _ _ Mb.none (.int .i64 2) rfl rfl T2.out.k3) rfl ⟨by rw [HV.out, HE.out], T2.out.below⟩
end
end
end Go.Proofs.Ytocfcfoocmkkdaa
