/-
  The program's order of words: numbers and statuses compared, the first that is not nought.
  The program's words: two of one node, over one another, which is left.
  The program's Merge and Refute.
  Words compared, stored where they were made; calls at given answers.
-/
import Derived.Test.YtocfcfoocmkkdaaQ2
import Derived.BigQuiet
import Derived.Deep.WholeRow
namespace Go.Proofs.Ytocfcfoocmkkdaa
section
set_option linter.unusedSimpArgs false
set_option linter.unusedVariables false
open Go.RowKit Sha
def cmpN (a b : Int) : Int := if a < b then -1 else if b < a then 1 else 0
def firstN : List Int → Int
  | [] => 0
  | x :: l => if x = 0 then firstN l else x
theorem firstN_drop {zs : List Int} {k : Nat} (h : k < zs.length) : firstN (zs.drop k) = if zs[k] = 0 then firstN (zs.drop (k + 1)) else zs[k] := by
  rw [List.drop_eq_getElem_cons h]; rfl
theorem nanI (a : Int) (w : World) : Calls Try.prog 64 #[.int .i64 a] w fun e w' => e = .returned (.bool false) ∧ w = w' := by
  go_enter Try.func64, Try.ntmps64
  go_wp2_with fail
  go_ret
  exact ⟨by simp, rfl⟩
set_option maxHeartbeats 1000000 in
theorem cmpI (a b : Int) (w : World) : Calls Try.prog 57 #[.int .i64 a, .int .i64 b] w fun e w' => e = .returned (.int .i64 (cmpN a b)) ∧ w = w' := by
  by_cases h1 : a < b
  · have HV := Lib.hid (show cmpN a b = -1 from by unfold cmpN; rw [if_pos h1])
    have t1 : decide (a < b) = true := by simpa using h1
    clear h1
    go_enter Try.func57, Try.ntmps57
    go_wp2_with (go_at_call 64; refine (nanI _ _).mono ?_; rintro e w' ⟨rfl, rfl⟩)
    go_ret
    exact ⟨by rw [HV.out]; rfl, rfl⟩
  · by_cases h2 : b < a
    · have HV := Lib.hid (show cmpN a b = 1 from by unfold cmpN; rw [if_neg h1, if_pos h2])
      have t1 : decide (a < b) = false := by simpa using h1
      have t2 : decide (b < a) = true := by simpa using h2
      clear h1 h2
      go_enter Try.func57, Try.ntmps57
      go_wp2_with (go_at_call 64; refine (nanI _ _).mono ?_; rintro e w' ⟨rfl, rfl⟩)
      go_ret
      exact ⟨by rw [HV.out]; rfl, rfl⟩
    · have HV := Lib.hid (show cmpN a b = 0 from by unfold cmpN; rw [if_neg h1, if_neg h2])
      have t1 : decide (a < b) = false := by simpa using h1
      have t2 : decide (b < a) = false := by simpa using h2
      clear h1 h2
      go_enter Try.func57, Try.ntmps57
      go_wp2_with (go_at_call 64; refine (nanI _ _).mono ?_; rintro e w' ⟨rfl, rfl⟩)
      go_ret
      exact ⟨by rw [HV.out]; rfl, rfl⟩
theorem nanS (a : Int) (w : World) : Calls Try.prog 65 #[.int .i64 a] w fun e w' => e = .returned (.bool false) ∧ w = w' := by
  go_enter Try.func65, Try.ntmps65
  go_wp2_with fail
  go_ret
  exact ⟨by simp, rfl⟩
set_option maxHeartbeats 1000000 in
theorem cmpS (a b : Int) (w : World) : Calls Try.prog 58 #[.int .i64 a, .int .i64 b] w fun e w' => e = .returned (.int .i64 (cmpN a b)) ∧ w = w' := by
  by_cases h1 : a < b
  · have HV := Lib.hid (show cmpN a b = -1 from by unfold cmpN; rw [if_pos h1])
    have t1 : decide (a < b) = true := by simpa using h1
    clear h1
    go_enter Try.func58, Try.ntmps58
    go_wp2_with (go_at_call 65; refine (nanS _ _).mono ?_; rintro e w' ⟨rfl, rfl⟩)
    go_ret
    exact ⟨by rw [HV.out]; rfl, rfl⟩
  · by_cases h2 : b < a
    · have HV := Lib.hid (show cmpN a b = 1 from by unfold cmpN; rw [if_neg h1, if_pos h2])
      have t1 : decide (a < b) = false := by simpa using h1
      have t2 : decide (b < a) = true := by simpa using h2
      clear h1 h2
      go_enter Try.func58, Try.ntmps58
      go_wp2_with (go_at_call 65; refine (nanS _ _).mono ?_; rintro e w' ⟨rfl, rfl⟩)
      go_ret
      exact ⟨by rw [HV.out]; rfl, rfl⟩
    · have HV := Lib.hid (show cmpN a b = 0 from by unfold cmpN; rw [if_neg h1, if_neg h2])
      have t1 : decide (a < b) = false := by simpa using h1
      have t2 : decide (b < a) = false := by simpa using h2
      clear h1 h2
      go_enter Try.func58, Try.ntmps58
      go_wp2_with (go_at_call 65; refine (nanS _ _).mono ?_; rintro e w' ⟨rfl, rfl⟩)
      go_ret
      exact ⟨by rw [HV.out]; rfl, rfl⟩
set_option maxHeartbeats 1000000 in
theorem or_first (zs : List Int) (n : Nat) (hn : zs.length = n) (g : Nat) (w : World) (hg : ∀ k (h : k < zs.length), w.cell? ⟨g, k, none⟩ = some (.int .i64 zs[k])) (hm : n ≤ 1000) :
    Calls Try.prog 56 #[.slice (some ⟨g, 0, none⟩) n n] w fun e w' => e = .returned (.int .i64 (firstN zs)) ∧ w = w' := by
  have HG := Lib.hid hg
  have HN := Lib.hid hn
  clear hg hn
  go_enter Try.func56, Try.ntmps56
  go_wp2_with fail
  go_loop [8] (fun i => ∃ k : Nat, k ≤ n ∧ i = .int .i64 k ∧ Hid (firstN zs = firstN (zs.drop k))) (fun i => n - (intOf i).toNat)
  case atStart => exact ⟨0, by omega, rfl, Lib.hid (by rw [List.drop_zero])⟩
  case round =>
    obtain ⟨k, hk, rfl, HO⟩ := hrel
    by_cases hlt : k < n
    · have hkl : k < zs.length := by rw [HN.out]; exact hlt
      have hc : w.cell? ⟨g, k, none⟩ = some (.int .i64 zs[k]) := HG.out k hkl
      have hst := firstN_drop hkl
      have hjn : (0 : Int) ≤ (k : Int) ∧ (k : Int) < (n : Int) := by omega
      generalize zs[k] = z at *
      by_cases hz : z = 0
      · have HO2 := Lib.hid (show firstN zs = firstN (zs.drop (k + 1)) from by rw [HO.out, hst, if_pos hz])
        clear hst HO
        subst hz
        go_wp2_with fail
        go_round
        case rel => exact ⟨k + 1, by omega, by go_num, HO2⟩
        case measure => simp [intOf]; omega
      · have HO2 := Lib.hid (show firstN zs = z from by rw [HO.out, hst, if_neg hz])
        have t1 : (z != 0) = true := by simpa using hz
        clear hst HO hz
        go_wp2_with fail
        try rw [Exit.noGoto_ret]
        go_ret
        exact ⟨by rw [HO2.out]; rfl, rfl⟩
    · obtain rfl : k = n := by omega
      have HO2 := Lib.hid (show firstN zs = 0 from by rw [HO.out, List.drop_eq_nil_of_le (by rw [HN.out]; exact Nat.le_refl _)]; rfl)
      go_wp2_with fail
      go_ret
      exact ⟨by rw [HO2.out]; rfl, rfl⟩
/-- What order tells: above 0, if a is over b. -/
def ordM (a b : Mb) : Int := firstN [cmpN a.N b.N, cmpN a.S b.S]
theorem ordM_pos (a b : Mb) : 0 < ordM a b ↔ a.Up b := by
  unfold ordM Mb.Up cmpN firstN firstN firstN
  (repeat' split) <;> omega
@[irreducible] def loadM (t : TypeId) (v : Value) : Sem Next := do pure (.value (← Instr.loadAt t v))
theorem execOp_loadM (ρ : Operand → Value) (dst : Option Tmp) (x : Operand) (ty : TypeId) (pos : String) (after : Array Edge) (guard : Option (Nat × Bool)) :
    execOp ρ { dst := dst, op := .load 29 x, type := ty, pos := pos, after := after, guard := guard } = loadM 29 (ρ x) := by unfold loadM; rfl
abbrev mc (m : Mb) : List Value := [.int .i64 m.I, .int .i64 m.S, .int .i64 m.N]
theorem mem_size : (Try.prog.info? 29).map (fun i => i.size) = some 3 := by kernel_rfl
theorem run_loadM {w : World} {g o : Nat} {m : Mb} (h : w.rangeAt g o (mc m)) : (loadM 29 (.pointer (some ⟨g, o, none⟩))).run Try.prog w = .ok (.value (mv m)) w := by
  have h1 := run_loadAt_mid (P := Try.prog) w g o 29 _ _ h Try.underlying29 rfl (by rw [mem_size]; rfl)
  unfold loadM
  simp only [Sem.run_bind, h1, Result.andThen_ok, Sem.run_pure]
theorem rangeM_of {w : World} {g : Nat} {m : Mb} {t : TypeId} (h : Blk w g (mc m) t) : w.rangeAt g 0 (mc m) := fun j v hv => by rw [Nat.zero_add, h.cell]; exact hv
theorem rangeM_on {w w' : World} {g o : Nat} {m : Mb} (h : w.rangeAt g o (mc m)) (hb : Below w.heap.size w w') : w'.rangeAt g o (mc m) := fun j v hv => by
  have := h j v hv
  exact (hb.cell (World.block_lt_of_cell? w _ this)).trans this
section
attribute [local go_sem ↓] execOp_loadM
set_option maxRecDepth 100000 in
set_option maxHeartbeats 1000000 in
theorem order_any (a b : Mb) (w : World) : Calls Try.prog 44 #[mv a, mv b] w fun e w' => e = .returned (.int .i64 (ordM a b)) ∧ Below w.heap.size w w' := by
  have hk1 := Blk.new w (mc a).toArray 29
  have hk2 := Blk.new (w.alloc (.cells (mc a).toArray 29)) (mc b).toArray 29
  have hk1 := hk1.old (.cells (mc b).toArray 29)
  have hb2 := ((Below.refl w.heap.size w).alloc (Nat.le_refl _) (.cells (mc a).toArray 29)).alloc (by simp) (.cells (mc b).toArray 29)
  rw [World.size_alloc] at hk2
  obtain ⟨I, W, hC⟩ := cls_of ((w.alloc (.cells (mc a).toArray 29)).alloc (.cells (mc b).toArray 29))
  have hne : Nonempty I := hC.ne
  have c1 := hC.cell (hk1.cell 2)
  have c2 := hC.cell (hk2.cell 2)
  have l1 := fun n => run_loadM (rangeM_on (rangeM_of hk1) (hC.back n))
  have l2 := fun n => run_loadM (rangeM_on (rangeM_of hk2) (hC.back n))
  have QI := Lib.hid (fun x y => hC.call (P := Try.prog) (f := 57) (args := #[.int .i64 x, .int .i64 y]) (v := .int .i64 (cmpN x y)) (fun w' hb => (cmpI x y w').mono fun e w'' ⟨he, hw⟩ => ⟨he, by subst hw; exact Below.refl _ _⟩))
  have QS := Lib.hid (fun x y => hC.call (P := Try.prog) (f := 58) (args := #[.int .i64 x, .int .i64 y]) (v := .int .i64 (cmpN x y)) (fun w' hb => (cmpS x y w').mono fun e w'' ⟨he, hw⟩ => ⟨he, by subst hw; exact Below.refl _ _⟩))
  have QT := Lib.hid (fun m => hC.call (P := Try.prog) (f := 45) (args := #[mv m]) (v := .int .i64 m.S) (fun w' hb => (statusOf_any m w').mono fun e w'' ⟨he, hw⟩ => ⟨he, by subst hw; exact (Below.refl _ _).alloc (Nat.le_refl _) _⟩))
  have HB := Lib.hid hb2
  have HC := Lib.hid hC
  clear hb2 hC hk1 hk2
  have HV := Lib.hid (show ordM a b = firstN [cmpN a.N b.N, cmpN a.S b.S] from rfl)
  go_enter Try.func44, Try.ntmps44
  go_wp2_with fail
  refine region_cls_tail W 10 (by kernel_rfl) (by kernel_rfl) HC.out.one ?_
  simp only [List.take_succ_cons, List.take_zero, List.drop_succ_cons, List.drop_zero]
  repeat go_big_quiet_step (((first | (go_at_call 57; exact QI.out _ _ _) | (go_at_call 58; exact QS.out _ _ _) | (go_at_call 45; first | exact QT.out a _ | exact QT.out b _))))
  refine wpQuiet_nil ?_
  rintro _ ⟨m, rfl⟩
  have hk := Blk.new (W m) #[Value.int .i64 (cmpN a.N b.N), Value.int .i64 (cmpN a.S b.S)] 3
  have HO := Lib.hid (or_first [cmpN a.N b.N, cmpN a.S b.S] 2 rfl (W m).heap.size ((W m).alloc (.cells #[Value.int .i64 (cmpN a.N b.N), Value.int .i64 (cmpN a.S b.S)] 3)) (fun k h => by
    rw [hk.cell]
    simp only [List.length_cons, List.length_nil] at h
    match k, h with
    | 0, _ => rfl | 1, _ => rfl) (by omega))
  have HB2 := Lib.hid ((HB.out.trans ((HC.out.back m).mono HB.out.size)).alloc (HB.out.trans ((HC.out.back m).mono HB.out.size)).size (.cells #[Value.int .i64 (cmpN a.N b.N), Value.int .i64 (cmpN a.S b.S)] 3))
  clear hk
  go_wp2_with fail
  refine HO.out.mono ?_
  rintro e w9 ⟨rfl, rfl⟩
  go_wp2_with fail
  go_ret
  exact ⟨by rw [HV.out]; rfl, HB2.out⟩
end
end
section
set_option linter.unusedSimpArgs false
set_option linter.unusedVariables false
open Go.RowKit Sha
@[irreducible] def storeM (t : TypeId) (x v : Value) : Sem Next := do Instr.storeAt t x v; pure .skip
theorem execOp_storeM (ρ : Operand → Value) (dst : Option Tmp) (x y : Operand) (ty : TypeId) (pos : String) (after : Array Edge) (guard : Option (Nat × Bool)) :
    execOp ρ { dst := dst, op := .store 29 x y, type := ty, pos := pos, after := after, guard := guard } = storeM 29 (ρ x) (ρ y) := by unfold storeM; rfl
theorem run_storeM {w : World} {g : Nat} {a b : Mb} (h : Blk w g (mc b) 29) : (storeM 29 (.pointer (some ⟨g, 0, none⟩)) (mv a)).run Try.prog w = .ok .skip (w.setRow g (mc a).toArray) := by
  unfold storeM
  simp only [Instr.storeAt, Instr.sureAddr, Sem.run_bind, Sem.run_pure, Result.andThen_ok, run_storeVar_row (P := Try.prog) w g 29 29 (mc b).toArray (mc a).toArray h mem_size rfl (by simp [Value.oneCell'])]
abbrev mt : TypeId := 29
/-- Where two words lie that a call was given. -/
abbrev twoM (a b : Mb) (w : World) : World := (w.alloc (.cells (mc a).toArray mt)).alloc (.cells (mc b).toArray mt)
structure TwoM (a b : Mb) (w0 w : World) : Prop where
  k1 : Blk w w0.heap.size (mc a) mt
  k2 : Blk w (w0.heap.size + 1) (mc b) mt
  below : Below w0.heap.size w0 w
theorem TwoM.new (a b : Mb) (w : World) : TwoM a b w (twoM a b w) := by
  have hk2 := Blk.new (w.alloc (.cells (mc a).toArray mt)) (mc b).toArray mt
  rw [World.size_alloc] at hk2
  exact ⟨(Blk.new w (mc a).toArray mt).old _, hk2, ((Below.refl w.heap.size w).alloc (Nat.le_refl _) _).alloc (by simp) _⟩
theorem Blk.upon {w w' : World} {g : Nat} {cs : List Value} {t : TypeId} (h : Blk w g cs t) (hb : Below w.heap.size w w') : Blk w' g cs t := h.below hb h.lt
theorem TwoM.on {a b : Mb} {w0 w w' : World} (h : TwoM a b w0 w) (hb : Below w.heap.size w w') : TwoM a b w0 w' := ⟨h.k1.upon hb, h.k2.upon hb, h.below.trans (hb.mono h.below.size)⟩
theorem TwoM.l1 {a b : Mb} {w0 w : World} (h : TwoM a b w0 w) : (loadM mt (.pointer (some ⟨w0.heap.size, 0, none⟩))).run Try.prog w = .ok (.value (mv a)) w := run_loadM (rangeM_of h.k1)
theorem TwoM.l2 {a b : Mb} {w0 w : World} (h : TwoM a b w0 w) : (loadM mt (.pointer (some ⟨w0.heap.size + 1, 0, none⟩))).run Try.prog w = .ok (.value (mv b)) w := run_loadM (rangeM_of h.k2)
section
attribute [local go_sem ↓] execOp_loadM execOp_storeM
def ErrDone (z : Int) (w : World) (e : Ending) (w' : World) : Prop := e = .returned (.int .i64 z) ∧ Below w.heap.size w w'
theorem check_ok {a : Mb} (h : a.May) (w : World) : Calls Try.prog 31 #[mv a] w (ErrDone 0 w) := by have := check_any a w; rwa [show a.err = 0 from if_pos h] at this
theorem check_no {a : Mb} (h : ¬ a.May) (w : World) : Calls Try.prog 31 #[mv a] w (ErrDone 2 w) := by have := check_any a w; rwa [show a.err = 2 from if_neg h] at this
set_option maxHeartbeats 1000000 in
theorem both_any (a b : Mb) (w : World) : Calls Try.prog 43 #[mv a, mv b] w (ErrDone (a.berr b) w) := by
  have HT := Lib.hid (TwoM.new a b w)
  have l1 := HT.out.l1
  by_cases ha : a.May
  · have HA := Lib.hid (check_ok ha)
    by_cases hb : b.May
    · have HB := Lib.hid (check_ok hb)
      by_cases hi : a.I = b.I
      · have HV := Lib.hid (show a.berr b = 0 from by exact if_pos ⟨ha, hb, hi⟩)
        have t1 : (a.I != b.I) = false := by simpa using hi
        clear hi ha hb
        go_enter Try.func43, Try.ntmps43
        go_wp2_with fail
        refine (HA.out _).mono ?_
        rintro e w1 ⟨rfl, hb1⟩
        have T1 := Lib.hid (HT.out.on hb1)
        have l2 := T1.out.l2
        clear hb1
        go_wp2_with fail
        refine (HB.out _).mono ?_
        rintro e w2 ⟨rfl, hb2⟩
        have T2 := Lib.hid (T1.out.on hb2)
        have c1 : w2.cell? ⟨w.heap.size, 0, none⟩ = some (.int .i64 a.I) := T2.out.k1.cell 0
        have c2 : w2.cell? ⟨w.heap.size + 1, 0, none⟩ = some (.int .i64 b.I) := T2.out.k2.cell 0
        clear hb2
        go_wp2_with fail
        go_ret
        exact ⟨by rw [HV.out]; rfl, T2.out.below⟩
      · have HV := Lib.hid (show a.berr b = 2 from by exact if_neg (fun h => hi h.2.2))
        have t1 : (a.I != b.I) = true := by simpa using hi
        clear hi ha hb
        go_enter Try.func43, Try.ntmps43
        go_wp2_with fail
        refine (HA.out _).mono ?_
        rintro e w1 ⟨rfl, hb1⟩
        have T1 := Lib.hid (HT.out.on hb1)
        have l2 := T1.out.l2
        clear hb1
        go_wp2_with fail
        refine (HB.out _).mono ?_
        rintro e w2 ⟨rfl, hb2⟩
        have T2 := Lib.hid (T1.out.on hb2)
        have c1 : w2.cell? ⟨w.heap.size, 0, none⟩ = some (.int .i64 a.I) := T2.out.k1.cell 0
        have c2 : w2.cell? ⟨w.heap.size + 1, 0, none⟩ = some (.int .i64 b.I) := T2.out.k2.cell 0
        clear hb2
        go_wp2_with fail
        go_ret
        exact ⟨by rw [HV.out]; rfl, T2.out.below⟩
    · have HB := Lib.hid (check_no hb)
      have HV := Lib.hid (show a.berr b = 2 from by exact if_neg (fun h => hb h.2.1))
      clear ha hb
      go_enter Try.func43, Try.ntmps43
      go_wp2_with fail
      refine (HA.out _).mono ?_
      rintro e w1 ⟨rfl, hb1⟩
      have T1 := Lib.hid (HT.out.on hb1)
      have l2 := T1.out.l2
      clear hb1
      go_wp2_with fail
      refine (HB.out _).mono ?_
      rintro e w2 ⟨rfl, hb2⟩
      have T2 := Lib.hid (T1.out.on hb2)
      have c1 : w2.cell? ⟨w.heap.size, 0, none⟩ = some (.int .i64 a.I) := T2.out.k1.cell 0
      have c2 : w2.cell? ⟨w.heap.size + 1, 0, none⟩ = some (.int .i64 b.I) := T2.out.k2.cell 0
      clear hb2
      go_wp2_with fail
      go_ret
      exact ⟨by rw [HV.out]; rfl, T2.out.below⟩
  · have HA := Lib.hid (check_no ha)
    have HV := Lib.hid (show a.berr b = 2 from by exact if_neg (fun h => ha h.1))
    clear ha
    go_enter Try.func43, Try.ntmps43
    go_wp2_with fail
    refine (HA.out _).mono ?_
    rintro e w1 ⟨rfl, hb1⟩
    have T1 := Lib.hid (HT.out.on hb1)
    have l2 := T1.out.l2
    clear hb1
    go_wp2_with fail
    go_ret
    exact ⟨by rw [HV.out]; rfl, T1.out.below⟩
def BoolDone (z : Bool) (w : World) (e : Ending) (w' : World) : Prop := e = .returned (.bool z) ∧ Below w.heap.size w w'
theorem both_ok {a b : Mb} (h : a.Both b) (w : World) : Calls Try.prog 43 #[mv a, mv b] w (ErrDone 0 w) := by have := both_any a b w; rwa [show a.berr b = 0 from if_pos h] at this
theorem both_no {a b : Mb} (h : ¬ a.Both b) (w : World) : Calls Try.prog 43 #[mv a, mv b] w (ErrDone 2 w) := by have := both_any a b w; rwa [show a.berr b = 2 from if_neg h] at this
set_option maxHeartbeats 1000000 in
theorem over_any (a b : Mb) (w : World) : Calls Try.prog 28 #[mv a, mv b] w (BoolDone (decide (a.Over b)) w) := by
  have HT := Lib.hid (TwoM.new a b w)
  have l1 := HT.out.l1
  have l2 := HT.out.l2
  by_cases h : a.Both b
  · have HA := Lib.hid (both_ok h)
    have HV := Lib.hid (show decide (a.Over b) = decide (0 < ordM a b) from by
      rw [decide_eq_decide]; unfold Mb.Over; rw [ordM_pos]; exact ⟨fun x => x.2, fun x => ⟨h, x⟩⟩)
    clear h
    go_enter Try.func28, Try.ntmps28
    go_wp2_with fail
    refine (HA.out _).mono ?_
    rintro e w1 ⟨rfl, hb1⟩
    have T1 := Lib.hid (HT.out.on hb1)
    have m1 := T1.out.l1
    have m2 := T1.out.l2
    clear hb1 l1 l2
    go_wp2_with fail
    refine (order_any a b _).mono ?_
    rintro e w2 ⟨rfl, hb2⟩
    have T2 := Lib.hid (T1.out.on hb2)
    clear hb2
    go_wp2_with fail
    go_ret
    exact ⟨by rw [HV.out]; rfl, T2.out.below⟩
  · have HA := Lib.hid (both_no h)
    have HV := Lib.hid (show decide (a.Over b) = false from decide_eq_false (fun x => h x.1))
    clear h
    go_enter Try.func28, Try.ntmps28
    go_wp2_with fail
    refine (HA.out _).mono ?_
    rintro e w1 ⟨rfl, hb1⟩
    have T1 := Lib.hid (HT.out.on hb1)
    clear hb1
    go_wp2_with fail
    go_ret
    exact ⟨by rw [HV.out]; rfl, T1.out.below⟩
end
end
section
set_option linter.unusedSimpArgs false
set_option linter.unusedVariables false
open Go.RowKit Sha
/-- Two words that a call was given, and the one that it answers. -/
abbrev triM (a b r : Mb) (w : World) : World := (twoM a b w).alloc (.cells (mc r).toArray mt)
structure TriM (a b r : Mb) (w0 w : World) : Prop where
  two : TwoM a b w0 w
  k3 : Blk w (w0.heap.size + 1 + 1) (mc r) mt
theorem TriM.new (a b r : Mb) (w : World) : TriM a b r w (triM a b r w) := by
  have hk3 := Blk.new (twoM a b w) (mc r).toArray mt
  rw [show (twoM a b w).heap.size = w.heap.size + 1 + 1 by simp [World.size_alloc]] at hk3
  exact ⟨(TwoM.new a b w).on ((Below.refl _ _).alloc (Nat.le_refl _) _), hk3⟩
theorem TriM.zero (a b : Mb) (w : World) : TriM a b Mb.none w ((twoM a b w).alloc (.cells #[.int .i64 0, .int .i64 0, .int .i64 0] mt)) := TriM.new a b Mb.none w
theorem TriM.on {a b r : Mb} {w0 w w' : World} (h : TriM a b r w0 w) (hb : Below w.heap.size w w') : TriM a b r w0 w' := ⟨h.two.on hb, h.k3.upon hb⟩
theorem TriM.below {a b r : Mb} {w0 w : World} (h : TriM a b r w0 w) : Below w0.heap.size w0 w := h.two.below
theorem TriM.l1 {a b r : Mb} {w0 w : World} (h : TriM a b r w0 w) : (loadM mt (.pointer (some ⟨w0.heap.size, 0, none⟩))).run Try.prog w = .ok (.value (mv a)) w := h.two.l1
theorem TriM.l2 {a b r : Mb} {w0 w : World} (h : TriM a b r w0 w) : (loadM mt (.pointer (some ⟨w0.heap.size + 1, 0, none⟩))).run Try.prog w = .ok (.value (mv b)) w := h.two.l2
theorem TriM.st0 {a b r : Mb} {w0 w : World} (h : TriM a b r w0 w) : (storeM mt (.pointer (some ⟨w0.heap.size + 1 + 1, 0, none⟩)) (.agg #[.int .i64 0, .int .i64 0, .int .i64 0])).run Try.prog w = .ok .skip (w.setRow (w0.heap.size + 1 + 1) (mc Mb.none).toArray) := run_storeM (a := Mb.none) h.k3
theorem TriM.st {a b r : Mb} {w0 w : World} (h : TriM a b r w0 w) (x : Mb) : (storeM mt (.pointer (some ⟨w0.heap.size + 1 + 1, 0, none⟩)) (mv x)).run Try.prog w = .ok .skip (w.setRow (w0.heap.size + 1 + 1) (mc x).toArray) := run_storeM h.k3
theorem TriM.set {a b r : Mb} {w0 w : World} (h : TriM a b r w0 w) (x : Mb) : TriM a b x w0 (w.setRow (w0.heap.size + 1 + 1) (mc x).toArray) :=
  ⟨⟨h.two.k1.rowOther _ (by omega), h.two.k2.rowOther _ (by omega), Below.setRow h.below (by omega) _⟩, h.k3.row (mc x)⟩
theorem results_m1 {fn : Func} {p u : Tmp} (h : fn.results = #[.cell p mt, .tmp u]) (tmps : Array Value) (w : World) (g : Nat) (x : Mb) (v : Value)
    (hp : tmps.getD p undef = .pointer (some ⟨g, 0, none⟩)) (hu : tmps.getD u undef = v) (hg : Blk w g (mc x) mt) :
    (results fn tmps).run Try.prog w = .ok (.tuple #[mv x, v]) w := by
  have hp' : tmps[p]?.getD undef = .pointer (some ⟨g, 0, none⟩) := by simpa using hp
  have hu' : tmps[u]?.getD undef = v := by simpa using hu
  have e1 := run_loadVar_row (P := Try.prog) w g mt mt (mc x).toArray (0, 0) _ hg Try.underlying29 rfl mem_size
  simp [results, h, hp', hu', asAddr, e1]
theorem results_m2 {fn : Func} {p u u2 : Tmp} (h : fn.results = #[.cell p mt, .tmp u, .tmp u2]) (tmps : Array Value) (w : World) (g : Nat) (x : Mb) (v v2 : Value)
    (hp : tmps.getD p undef = .pointer (some ⟨g, 0, none⟩)) (hu : tmps.getD u undef = v) (hu2 : tmps.getD u2 undef = v2) (hg : Blk w g (mc x) mt) :
    (results fn tmps).run Try.prog w = .ok (.tuple #[mv x, v, v2]) w := by
  have hp' : tmps[p]?.getD undef = .pointer (some ⟨g, 0, none⟩) := by simpa using hp
  have hu' : tmps[u]?.getD undef = v := by simpa using hu
  have hu2' : tmps[u2]?.getD undef = v2 := by simpa using hu2
  have e1 := run_loadVar_row (P := Try.prog) w g mt mt (mc x).toArray (0, 0) _ hg Try.underlying29 rfl mem_size
  simp [results, h, hp', hu', hu2', asAddr, e1]
theorem TriM.inc {a b r : Mb} {w0 w : World} (h : TriM a b r w0 w) (x : Int) : TriM ⟨a.I, a.S, x⟩ b r w0 (w.setCell ⟨w0.heap.size, 2, none⟩ (.int .i64 x)) :=
  ⟨⟨h.two.k1.set 2 _, h.two.k2.setOther _ _ (by simp), Below.setCell h.below (Nat.le_refl _) _⟩, h.k3.setOther _ _ (by simp; omega)⟩
theorem stat_any (m : Mb) (w : World) : Calls Try.prog 45 #[mv m] w (ErrDone m.S w) := (statusOf_any m w).mono fun e w' ⟨he, hw⟩ => ⟨he, by subst hw; exact (Below.refl _ _).alloc (Nat.le_refl _) _⟩
section
attribute [local go_sem ↓] execOp_loadM execOp_storeM
def MbDone (x : Mb) (z : Int) (w : World) (e : Ending) (w' : World) : Prop := e = .returned (.tuple #[mv x, .int .i64 z]) ∧ Below w.heap.size w w'
set_option maxHeartbeats 1000000 in
theorem merge_any (a b : Mb) (w : World) : Calls Try.prog 49 #[mv a, mv b] w (MbDone (a.merge b) (a.berr b) w) := by
  have HT := Lib.hid (TriM.zero a b w)
  have l1 := HT.out.l1
  have l2 := HT.out.l2
  by_cases h : a.Both b
  · have HA := Lib.hid (both_ok h)
    have HE := Lib.hid (show a.berr b = 0 from if_pos h)
    by_cases hu : a.Up b
    · have HV := Lib.hid (show a.merge b = a from by unfold Mb.merge; rw [if_pos h, if_pos hu])
      have t1 : decide (0 < ordM a b) = true := decide_eq_true ((ordM_pos a b).2 hu)
      clear h hu
      go_enter Try.func49, Try.ntmps49
      go_wp2_with fail
      refine (HA.out _).mono ?_
      rintro e w1 ⟨rfl, hb1⟩
      have T1 := Lib.hid (HT.out.on hb1)
      have m1 := T1.out.l1
      have m2 := T1.out.l2
      clear hb1 l1 l2
      go_wp2_with fail
      refine (order_any a b _).mono ?_
      rintro e w2 ⟨rfl, hb2⟩
      have T2 := Lib.hid (T1.out.on hb2)
      have k1 := T2.out.l1
      have s1 := T2.out.st a
      have T3 := Lib.hid (T2.out.set a)
      clear hb2 m1 m2
      generalize w2.setRow (w.heap.size + 1 + 1) (mc a).toArray = w3 at *
      go_wp2_with fail
      exact bodyPost_ret (results_m1 rfl _ _ _ a (.int .i64 0) rfl rfl T3.out.k3) rfl ⟨by rw [HV.out, HE.out], T3.out.below⟩
    · have HV := Lib.hid (show a.merge b = b from by unfold Mb.merge; rw [if_pos h, if_neg hu])
      have t1 : decide (0 < ordM a b) = false := decide_eq_false (fun x => hu ((ordM_pos a b).1 x))
      clear h hu
      go_enter Try.func49, Try.ntmps49
      go_wp2_with fail
      refine (HA.out _).mono ?_
      rintro e w1 ⟨rfl, hb1⟩
      have T1 := Lib.hid (HT.out.on hb1)
      have m1 := T1.out.l1
      have m2 := T1.out.l2
      clear hb1 l1 l2
      go_wp2_with fail
      refine (order_any a b _).mono ?_
      rintro e w2 ⟨rfl, hb2⟩
      have T2 := Lib.hid (T1.out.on hb2)
      have k1 := T2.out.l2
      have s1 := T2.out.st b
      have T3 := Lib.hid (T2.out.set b)
      clear hb2 m1 m2
      generalize w2.setRow (w.heap.size + 1 + 1) (mc b).toArray = w3 at *
      go_wp2_with fail
      exact bodyPost_ret (results_m1 rfl _ _ _ b (.int .i64 0) rfl rfl T3.out.k3) rfl ⟨by rw [HV.out, HE.out], T3.out.below⟩
  · have HA := Lib.hid (both_no h)
    have HV := Lib.hid (show a.merge b = Mb.none from if_neg h)
    have HE := Lib.hid (show a.berr b = 2 from if_neg h)
    clear h
    go_enter Try.func49, Try.ntmps49
    go_wp2_with fail
    refine (HA.out _).mono ?_
    rintro e w1 ⟨rfl, hb1⟩
    have T1 := Lib.hid (HT.out.on hb1)
    have s1 := T1.out.st0
    have T2 := Lib.hid (T1.out.set Mb.none)
    clear hb1
    generalize w1.setRow (w.heap.size + 1 + 1) (mc Mb.none).toArray = w2 at *
    go_wp2_with fail
    exact bodyPost_ret (results_m1 rfl _ _ _ Mb.none (.int .i64 2) rfl rfl T2.out.k3) rfl ⟨by rw [HV.out, HE.out], T2.out.below⟩
end
end
section
set_option linter.unusedSimpArgs false
set_option linter.unusedVariables false
open Go.RowKit Sha
@[irreducible] def eqlM (t : TypeId) (x y : Operand) (u v : Value) : Sem Next := do pure (.value (← (do eqGuard .eql t x y u v; binOp .eql t u v)))
theorem execOp_eqlM (ρ : Operand → Value) (dst : Option Tmp) (x y : Operand) (r : TypeId) (ty : TypeId) (pos : String) (after : Array Edge) (guard : Option (Nat × Bool)) :
    execOp ρ { dst := dst, op := .binOp .eql 29 x y r, type := ty, pos := pos, after := after, guard := guard } = eqlM 29 x y (ρ x) (ρ y) := by unfold eqlM; rfl
theorem run_eqlM (a b : Mb) (e : Bool) (he : e = decide (a = b)) (x y : Operand) (w : World) : (eqlM 29 x y (mv a) (mv b)).run Try.prog w = .ok (.value (.bool e)) w := by
  subst he
  have hd : decide (a = b) = (a.I == b.I && a.S == b.S && a.N == b.N) := by
    rw [Bool.eq_iff_iff]; simp [Mb.eq_iff, and_assoc]
  rw [hd]
  unfold eqlM
  by_cases h : a.I = b.I <;> by_cases h2 : a.S = b.S <;> by_cases h3 : a.N = b.N <;> simp [go_sem, h, h2, h3]
/-- A new word, stored where it was made. -/
abbrev putM (w : World) (x : Mb) : World := (w.alloc (.cells #[.int .i64 0, .int .i64 0, .int .i64 0] mt)).setRow w.heap.size (mc x).toArray
theorem put_new (w : World) : Blk (w.alloc (.cells #[.int .i64 0, .int .i64 0, .int .i64 0] mt)) w.heap.size (mc Mb.none) mt := Blk.new w (mc Mb.none).toArray mt
theorem put_run (w : World) (x : Mb) : (storeM mt (.pointer (some ⟨w.heap.size, 0, none⟩)) (mv x)).run Try.prog (w.alloc (.cells #[.int .i64 0, .int .i64 0, .int .i64 0] mt)) = .ok .skip (putM w x) := run_storeM (put_new w)
theorem put_blk (w : World) (x : Mb) : Blk (putM w x) w.heap.size (mc x) mt := (put_new w).row (mc x)
theorem put_below (w : World) (x : Mb) : Below w.heap.size w (putM w x) := Below.setRow ((Below.refl _ _).alloc (Nat.le_refl _) _) (Nat.le_refl _) _
structure Put (w0 : World) (x : Mb) (w : World) : Prop where
  blk : Blk w w0.heap.size (mc x) mt
  below : Below w0.heap.size w0 w
theorem Put.new (w : World) (x : Mb) : Put w x (putM w x) := ⟨put_blk w x, put_below w x⟩
theorem Put.load {w0 w : World} {x : Mb} (h : Put w0 x w) : (loadM mt (.pointer (some ⟨w0.heap.size, 0, none⟩))).run Try.prog w = .ok (.value (mv x)) w := run_loadM (rangeM_of h.blk)
theorem Put.on {w0 w w' : World} {x : Mb} (h : Put w0 x w) (hb : Below w.heap.size w w') : Put w0 x w' := ⟨h.blk.upon hb, h.below.trans (hb.mono h.below.size)⟩
theorem TriM.l3 {a b r : Mb} {w0 w : World} (h : TriM a b r w0 w) : (loadM mt (.pointer (some ⟨w0.heap.size + 1 + 1, 0, none⟩))).run Try.prog w = .ok (.value (mv r)) w := run_loadM (rangeM_of h.k3)
theorem Below.go {w w' w'' : World} (h : Below w.heap.size w w') (h2 : Below w'.heap.size w' w'') : Below w.heap.size w w'' := h.trans (h2.mono h.size)
theorem below_alloc0 {a w : World} (h : Below a.heap.size a w) (o : Obj) : Below a.heap.size a (w.alloc o) := h.alloc h.size o
theorem below_drew0 {a w : World} (h : Below a.heap.size a w) : Below a.heap.size a w.drew := h.drew
theorem below_next {a w w' : World} (h : Below a.heap.size a w) (hb : Below w.heap.size w w') : Below a.heap.size a w' := h.trans (hb.mono h.size)
theorem below_put0 {a w : World} (h : Below a.heap.size a w) (x : Mb) : Below a.heap.size a (putM w x) := below_next h (put_below w x)
theorem below_row0 {a w : World} (h : Below a.heap.size a w) (cs : Array Value) : Below a.heap.size a (w.setRow a.heap.size cs) := Below.setRow h (Nat.le_refl _) cs
theorem merge_at (a b c : Mb) (z : Int) (w : World) (h1 : a.merge b = c) (h2 : a.berr b = z) : Calls Try.prog 49 #[mv a, mv b] w (MbDone c z w) := by have := merge_any a b w; rwa [h1, h2] at this
theorem over_at {a b : Mb} {z : Bool} (h : decide (a.Over b) = z) (w : World) : Calls Try.prog 28 #[mv a, mv b] w (BoolDone z w) := by have := over_any a b w; rwa [h] at this
end
end Go.Proofs.Ytocfcfoocmkkdaa
