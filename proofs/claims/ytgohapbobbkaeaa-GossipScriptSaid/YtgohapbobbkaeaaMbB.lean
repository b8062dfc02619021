/-
  The program's order of words: numbers and statuses compared, the first that is not nought.
-/
import Derived.Test.YtgohapbobbkaeaaMbA
import Derived.Test.YtgohapbobbkaeaaClsT
import Derived.BigQuiet
namespace Go.Proofs.Ytgohapbobbkaeaa
set_option linter.unusedSimpArgs false
set_option linter.unusedVariables false
open Go.RowKit Sha
def cmpN (a b : Int) : Int := if a < b then -1 else if b < a then 1 else 0
def firstN : List Int → Int
  | [] => 0
  | x :: l => if x = 0 then firstN l else x
theorem firstN_drop {zs : List Int} {k : Nat} (h : k < zs.length) : firstN (zs.drop k) = if zs[k] = 0 then firstN (zs.drop (k + 1)) else zs[k] := by
  rw [List.drop_eq_getElem_cons h]; rfl
theorem nanI (a : Int) (w : World) : Calls Try.prog 54 #[.int .i64 a] w fun e w' => e = .returned (.bool false) ∧ w = w' := by
  go_enter Try.func54, Try.ntmps54
  go_wp2_with fail
  go_ret
  exact ⟨by simp, rfl⟩
set_option maxHeartbeats 1000000 in
theorem cmpI (a b : Int) (w : World) : Calls Try.prog 43 #[.int .i64 a, .int .i64 b] w fun e w' => e = .returned (.int .i64 (cmpN a b)) ∧ w = w' := by
  by_cases h1 : a < b
  · have HV := Lib.hid (show cmpN a b = -1 from by unfold cmpN; rw [if_pos h1])
    have t1 : decide (a < b) = true := by simpa using h1
    clear h1
    go_enter Try.func43, Try.ntmps43
    go_wp2_with (go_at_call 54; refine (nanI _ _).mono ?_; rintro e w' ⟨rfl, rfl⟩)
    go_ret
    exact ⟨by rw [HV.out]; rfl, rfl⟩
  · by_cases h2 : b < a
    · have HV := Lib.hid (show cmpN a b = 1 from by unfold cmpN; rw [if_neg h1, if_pos h2])
      have t1 : decide (a < b) = false := by simpa using h1
      have t2 : decide (b < a) = true := by simpa using h2
      clear h1 h2
      go_enter Try.func43, Try.ntmps43
      go_wp2_with (go_at_call 54; refine (nanI _ _).mono ?_; rintro e w' ⟨rfl, rfl⟩)
      go_ret
      exact ⟨by rw [HV.out]; rfl, rfl⟩
    · have HV := Lib.hid (show cmpN a b = 0 from by unfold cmpN; rw [if_neg h1, if_neg h2])
      have t1 : decide (a < b) = false := by simpa using h1
      have t2 : decide (b < a) = false := by simpa using h2
      clear h1 h2
      go_enter Try.func43, Try.ntmps43
      go_wp2_with (go_at_call 54; refine (nanI _ _).mono ?_; rintro e w' ⟨rfl, rfl⟩)
      go_ret
      exact ⟨by rw [HV.out]; rfl, rfl⟩
theorem nanS (a : Int) (w : World) : Calls Try.prog 57 #[.int .i64 a] w fun e w' => e = .returned (.bool false) ∧ w = w' := by
  go_enter Try.func57, Try.ntmps57
  go_wp2_with fail
  go_ret
  exact ⟨by simp, rfl⟩
set_option maxHeartbeats 1000000 in
theorem cmpS (a b : Int) (w : World) : Calls Try.prog 53 #[.int .i64 a, .int .i64 b] w fun e w' => e = .returned (.int .i64 (cmpN a b)) ∧ w = w' := by
  by_cases h1 : a < b
  · have HV := Lib.hid (show cmpN a b = -1 from by unfold cmpN; rw [if_pos h1])
    have t1 : decide (a < b) = true := by simpa using h1
    clear h1
    go_enter Try.func53, Try.ntmps53
    go_wp2_with (go_at_call 57; refine (nanS _ _).mono ?_; rintro e w' ⟨rfl, rfl⟩)
    go_ret
    exact ⟨by rw [HV.out]; rfl, rfl⟩
  · by_cases h2 : b < a
    · have HV := Lib.hid (show cmpN a b = 1 from by unfold cmpN; rw [if_neg h1, if_pos h2])
      have t1 : decide (a < b) = false := by simpa using h1
      have t2 : decide (b < a) = true := by simpa using h2
      clear h1 h2
      go_enter Try.func53, Try.ntmps53
      go_wp2_with (go_at_call 57; refine (nanS _ _).mono ?_; rintro e w' ⟨rfl, rfl⟩)
      go_ret
      exact ⟨by rw [HV.out]; rfl, rfl⟩
    · have HV := Lib.hid (show cmpN a b = 0 from by unfold cmpN; rw [if_neg h1, if_neg h2])
      have t1 : decide (a < b) = false := by simpa using h1
      have t2 : decide (b < a) = false := by simpa using h2
      clear h1 h2
      go_enter Try.func53, Try.ntmps53
      go_wp2_with (go_at_call 57; refine (nanS _ _).mono ?_; rintro e w' ⟨rfl, rfl⟩)
      go_ret
      exact ⟨by rw [HV.out]; rfl, rfl⟩
set_option maxHeartbeats 1000000 in
theorem or_first (zs : List Int) (n : Nat) (hn : zs.length = n) (g : Nat) (w : World) (hg : ∀ k (h : k < zs.length), w.cell? ⟨g, k, none⟩ = some (.int .i64 zs[k])) (hm : n ≤ 1000) :
    Calls Try.prog 42 #[.slice (some ⟨g, 0, none⟩) n n] w fun e w' => e = .returned (.int .i64 (firstN zs)) ∧ w = w' := by
  have HG := Lib.hid hg
  have HN := Lib.hid hn
  clear hg hn
  go_enter Try.func42, Try.ntmps42
  go_wp2_with fail
  go_loop [8] (fun i => ∃ k : Nat, k ≤ n ∧ i = .int .i64 k ∧ Hid (firstN zs = firstN (zs.drop k))) (fun i => n - (intOf i).toNat)
  case atStart => exact ⟨0, by omega, rfl, Lib.hid (by rw [List.drop_zero])⟩
  case round =>
    obtain ⟨k, hk, rfl, HO⟩ := hrel
    by_cases hlt : k < n
    · have hkl : k < zs.length := by rw [HN.out]; exact hlt
      have hc : w.cell? ⟨g, k, none⟩ = some (.int .i64 zs[k]) := HG.out k hkl
      have hst := firstN_drop hkl
      have hjn : (0 : Int) ≤ (k : Int) ∧ (k : Int) < (n : Int) := by omega
      generalize zs[k] = z at *
      by_cases hz : z = 0
      · have HO2 := Lib.hid (show firstN zs = firstN (zs.drop (k + 1)) from by rw [HO.out, hst, if_pos hz])
        clear hst HO
        subst hz
        go_wp2_with fail
        go_round
        case rel => exact ⟨k + 1, by omega, by go_num, HO2⟩
        case measure => simp [intOf]; omega
      · have HO2 := Lib.hid (show firstN zs = z from by rw [HO.out, hst, if_neg hz])
        have t1 : (z != 0) = true := by simpa using hz
        clear hst HO hz
        go_wp2_with fail
        try rw [Exit.noGoto_ret]
        go_ret
        exact ⟨by rw [HO2.out]; rfl, rfl⟩
    · obtain rfl : k = n := by omega
      have HO2 := Lib.hid (show firstN zs = 0 from by rw [HO.out, List.drop_eq_nil_of_le (by rw [HN.out]; exact Nat.le_refl _)]; rfl)
      go_wp2_with fail
      go_ret
      exact ⟨by rw [HO2.out]; rfl, rfl⟩
/-- What order tells: above 0, if a is over b. -/
def ordM (a b : Mb) : Int := firstN [cmpN a.N b.N, cmpN a.S b.S]
theorem ordM_pos (a b : Mb) : 0 < ordM a b ↔ a.Up b := by
  unfold ordM Mb.Up cmpN firstN firstN firstN
  (repeat' split) <;> omega
@[irreducible] def loadM (t : TypeId) (v : Value) : Sem Next := do pure (.value (← Instr.loadAt t v))
theorem execOp_loadM (ρ : Operand → Value) (dst : Option Tmp) (x : Operand) (ty : TypeId) (pos : String) (after : Array Edge) (guard : Option (Nat × Bool)) :
    execOp ρ { dst := dst, op := .load 32 x, type := ty, pos := pos, after := after, guard := guard } = loadM 32 (ρ x) := by unfold loadM; rfl
abbrev mc (m : Mb) : List Value := [.int .i64 m.I, .int .i64 m.S, .int .i64 m.N]
theorem mem_size : (Try.prog.info? 32).map (fun i => i.size) = some 3 := by kernel_rfl
theorem run_loadM {w : World} {g o : Nat} {m : Mb} (h : w.rangeAt g o (mc m)) : (loadM 32 (.pointer (some ⟨g, o, none⟩))).run Try.prog w = .ok (.value (mv m)) w := by
  have h1 := run_loadAt_mid (P := Try.prog) w g o 32 _ _ h Try.underlying32 rfl (by rw [mem_size]; rfl)
  unfold loadM
  simp only [Sem.run_bind, h1, Result.andThen_ok, Sem.run_pure]
theorem rangeM_of {w : World} {g : Nat} {m : Mb} {t : TypeId} (h : Blk w g (mc m) t) : w.rangeAt g 0 (mc m) := fun j v hv => by rw [Nat.zero_add, h.cell]; exact hv
theorem rangeM_on {w w' : World} {g o : Nat} {m : Mb} (h : w.rangeAt g o (mc m)) (hb : Below w.heap.size w w') : w'.rangeAt g o (mc m) := fun j v hv => by
  have := h j v hv
  exact (hb.cell (World.block_lt_of_cell? w _ this)).trans this
section
attribute [local go_sem ↓] execOp_loadM
set_option maxRecDepth 100000 in
set_option maxHeartbeats 1000000 in
theorem order_any (a b : Mb) (w : World) : Calls Try.prog 41 #[mv a, mv b] w fun e w' => e = .returned (.int .i64 (ordM a b)) ∧ Below w.heap.size w w' := by
  have hk1 := Blk.new w (mc a).toArray 32
  have hk2 := Blk.new (w.alloc (.cells (mc a).toArray 32)) (mc b).toArray 32
  have hk1 := hk1.old (.cells (mc b).toArray 32)
  have hb2 := ((Below.refl w.heap.size w).alloc (Nat.le_refl _) (.cells (mc a).toArray 32)).alloc (by simp) (.cells (mc b).toArray 32)
  rw [World.size_alloc] at hk2
  obtain ⟨I, W, hC⟩ := cls_of ((w.alloc (.cells (mc a).toArray 32)).alloc (.cells (mc b).toArray 32))
  have hne : Nonempty I := hC.ne
  have c1 := hC.cell (hk1.cell 2)
  have c2 := hC.cell (hk2.cell 2)
  have l1 := fun n => run_loadM (rangeM_on (rangeM_of hk1) (hC.back n))
  have l2 := fun n => run_loadM (rangeM_on (rangeM_of hk2) (hC.back n))
  have QI := Lib.hid (fun x y => hC.call (P := Try.prog) (f := 43) (args := #[.int .i64 x, .int .i64 y]) (v := .int .i64 (cmpN x y)) (fun w' hb => (cmpI x y w').mono fun e w'' ⟨he, hw⟩ => ⟨he, by subst hw; exact Below.refl _ _⟩))
  have QS := Lib.hid (fun x y => hC.call (P := Try.prog) (f := 53) (args := #[.int .i64 x, .int .i64 y]) (v := .int .i64 (cmpN x y)) (fun w' hb => (cmpS x y w').mono fun e w'' ⟨he, hw⟩ => ⟨he, by subst hw; exact Below.refl _ _⟩))
  have QT := Lib.hid (fun m => hC.call (P := Try.prog) (f := 38) (args := #[mv m]) (v := .int .i64 m.S) (fun w' hb => (statusOf_any m w').mono fun e w'' ⟨he, hw⟩ => ⟨he, by subst hw; exact (Below.refl _ _).alloc (Nat.le_refl _) _⟩))
  have HB := Lib.hid hb2
  have HC := Lib.hid hC
  clear hb2 hC hk1 hk2
  have HV := Lib.hid (show ordM a b = firstN [cmpN a.N b.N, cmpN a.S b.S] from rfl)
  go_enter Try.func41, Try.ntmps41
  go_wp2_with fail
  refine region_cls_tail W 10 (by kernel_rfl) (by kernel_rfl) HC.out.one ?_
  simp only [List.take_succ_cons, List.take_zero, List.drop_succ_cons, List.drop_zero]
  repeat go_big_quiet_step (((first | (go_at_call 43; exact QI.out _ _ _) | (go_at_call 53; exact QS.out _ _ _) | (go_at_call 38; first | exact QT.out a _ | exact QT.out b _))))
  refine wpQuiet_nil ?_
  rintro _ ⟨m, rfl⟩
  have hk := Blk.new (W m) #[Value.int .i64 (cmpN a.N b.N), Value.int .i64 (cmpN a.S b.S)] 3
  have HO := Lib.hid (or_first [cmpN a.N b.N, cmpN a.S b.S] 2 rfl (W m).heap.size ((W m).alloc (.cells #[Value.int .i64 (cmpN a.N b.N), Value.int .i64 (cmpN a.S b.S)] 3)) (fun k h => by
    rw [hk.cell]
    simp only [List.length_cons, List.length_nil] at h
    match k, h with
    | 0, _ => rfl | 1, _ => rfl) (by omega))
  have HB2 := Lib.hid ((HB.out.trans ((HC.out.back m).mono HB.out.size)).alloc (HB.out.trans ((HC.out.back m).mono HB.out.size)).size (.cells #[Value.int .i64 (cmpN a.N b.N), Value.int .i64 (cmpN a.S b.S)] 3))
  clear hk
  go_wp2_with fail
  refine HO.out.mono ?_
  rintro e w9 ⟨rfl, rfl⟩
  go_wp2_with fail
  go_ret
  exact ⟨by rw [HV.out]; rfl, HB2.out⟩
end
end Go.Proofs.Ytgohapbobbkaeaa
