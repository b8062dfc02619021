/-
  The program's words: two of one node, over one another, which is left.
-/
import Derived.Test.YtgohapbobbkaeaaMbB
import Derived.Deep.WholeRow
namespace Go.Proofs.Ytgohapbobbkaeaa
set_option linter.unusedSimpArgs false
set_option linter.unusedVariables false
open Go.RowKit Sha
@[irreducible] def storeM (t : TypeId) (x v : Value) : Sem Next := do Instr.storeAt t x v; pure .skip
theorem execOp_storeM (ρ : Operand → Value) (dst : Option Tmp) (x y : Operand) (ty : TypeId) (pos : String) (after : Array Edge) (guard : Option (Nat × Bool)) :
    execOp ρ { dst := dst, op := .store 32 x y, type := ty, pos := pos, after := after, guard := guard } = storeM 32 (ρ x) (ρ y) := by unfold storeM; rfl
theorem run_storeM {w : World} {g : Nat} {a b : Mb} (h : Blk w g (mc b) 32) : (storeM 32 (.pointer (some ⟨g, 0, none⟩)) (mv a)).run Try.prog w = .ok .skip (w.setRow g (mc a).toArray) := by
  unfold storeM
  simp only [Instr.storeAt, Instr.sureAddr, Sem.run_bind, Sem.run_pure, Result.andThen_ok, run_storeVar_row (P := Try.prog) w g 32 32 (mc b).toArray (mc a).toArray h mem_size rfl (by simp [Value.oneCell'])]
abbrev mt : TypeId := 32
/-- Where two words lie that a call was given. -/
abbrev twoM (a b : Mb) (w : World) : World := (w.alloc (.cells (mc a).toArray mt)).alloc (.cells (mc b).toArray mt)
structure TwoM (a b : Mb) (w0 w : World) : Prop where
  k1 : Blk w w0.heap.size (mc a) mt
  k2 : Blk w (w0.heap.size + 1) (mc b) mt
  below : Below w0.heap.size w0 w
theorem TwoM.new (a b : Mb) (w : World) : TwoM a b w (twoM a b w) := by
  have hk2 := Blk.new (w.alloc (.cells (mc a).toArray mt)) (mc b).toArray mt
  rw [World.size_alloc] at hk2
  exact ⟨(Blk.new w (mc a).toArray mt).old _, hk2, ((Below.refl w.heap.size w).alloc (Nat.le_refl _) _).alloc (by simp) _⟩
theorem Blk.upon {w w' : World} {g : Nat} {cs : List Value} {t : TypeId} (h : Blk w g cs t) (hb : Below w.heap.size w w') : Blk w' g cs t := h.below hb h.lt
theorem TwoM.on {a b : Mb} {w0 w w' : World} (h : TwoM a b w0 w) (hb : Below w.heap.size w w') : TwoM a b w0 w' := ⟨h.k1.upon hb, h.k2.upon hb, h.below.trans (hb.mono h.below.size)⟩
theorem TwoM.l1 {a b : Mb} {w0 w : World} (h : TwoM a b w0 w) : (loadM mt (.pointer (some ⟨w0.heap.size, 0, none⟩))).run Try.prog w = .ok (.value (mv a)) w := run_loadM (rangeM_of h.k1)
theorem TwoM.l2 {a b : Mb} {w0 w : World} (h : TwoM a b w0 w) : (loadM mt (.pointer (some ⟨w0.heap.size + 1, 0, none⟩))).run Try.prog w = .ok (.value (mv b)) w := run_loadM (rangeM_of h.k2)
section
attribute [local go_sem ↓] execOp_loadM execOp_storeM
def ErrDone (z : Int) (w : World) (e : Ending) (w' : World) : Prop := e = .returned (.int .i64 z) ∧ Below w.heap.size w w'
theorem check_ok {a : Mb} (h : a.May) (w : World) : Calls Try.prog 25 #[mv a] w (ErrDone 0 w) := by have := check_any a w; rwa [show a.err = 0 from if_pos h] at this
theorem check_no {a : Mb} (h : ¬ a.May) (w : World) : Calls Try.prog 25 #[mv a] w (ErrDone 2 w) := by have := check_any a w; rwa [show a.err = 2 from if_neg h] at this
set_option maxHeartbeats 1000000 in
theorem both_any (a b : Mb) (w : World) : Calls Try.prog 40 #[mv a, mv b] w (ErrDone (a.berr b) w) := by
  have HT := Lib.hid (TwoM.new a b w)
  have l1 := HT.out.l1
  by_cases ha : a.May
  · have HA := Lib.hid (check_ok ha)
    by_cases hb : b.May
    · have HB := Lib.hid (check_ok hb)
      by_cases hi : a.I = b.I
      · have HV := Lib.hid (show a.berr b = 0 from by exact if_pos ⟨ha, hb, hi⟩)
        have t1 : (a.I != b.I) = false := by simpa using hi
        clear hi ha hb
        go_enter Try.func40, Try.ntmps40
        go_wp2_with fail
        refine (HA.out _).mono ?_
        rintro e w1 ⟨rfl, hb1⟩
        have T1 := Lib.hid (HT.out.on hb1)
        have l2 := T1.out.l2
        clear hb1
        go_wp2_with fail
        refine (HB.out _).mono ?_
        rintro e w2 ⟨rfl, hb2⟩
        have T2 := Lib.hid (T1.out.on hb2)
        have c1 : w2.cell? ⟨w.heap.size, 0, none⟩ = some (.int .i64 a.I) := T2.out.k1.cell 0
        have c2 : w2.cell? ⟨w.heap.size + 1, 0, none⟩ = some (.int .i64 b.I) := T2.out.k2.cell 0
        clear hb2
        go_wp2_with fail
        go_ret
        exact ⟨by rw [HV.out]; rfl, T2.out.below⟩
      · have HV := Lib.hid (show a.berr b = 2 from by exact if_neg (fun h => hi h.2.2))
        have t1 : (a.I != b.I) = true := by simpa using hi
        clear hi ha hb
        go_enter Try.func40, Try.ntmps40
        go_wp2_with fail
        refine (HA.out _).mono ?_
        rintro e w1 ⟨rfl, hb1⟩
        have T1 := Lib.hid (HT.out.on hb1)
        have l2 := T1.out.l2
        clear hb1
        go_wp2_with fail
        refine (HB.out _).mono ?_
        rintro e w2 ⟨rfl, hb2⟩
        have T2 := Lib.hid (T1.out.on hb2)
        have c1 : w2.cell? ⟨w.heap.size, 0, none⟩ = some (.int .i64 a.I) := T2.out.k1.cell 0
        have c2 : w2.cell? ⟨w.heap.size + 1, 0, none⟩ = some (.int .i64 b.I) := T2.out.k2.cell 0
        clear hb2
        go_wp2_with fail
        go_ret
        exact ⟨by rw [HV.out]; rfl, T2.out.below⟩
    · have HB := Lib.hid (check_no hb)
      have HV := Lib.hid (show a.berr b = 2 from by exact if_neg (fun h => hb h.2.1))
      clear ha hb
      go_enter Try.func40, Try.ntmps40
      go_wp2_with fail
      refine (HA.out _).mono ?_
      rintro e w1 ⟨rfl, hb1⟩
      have T1 := Lib.hid (HT.out.on hb1)
      have l2 := T1.out.l2
      clear hb1
      go_wp2_with fail
      refine (HB.out _).mono ?_
      rintro e w2 ⟨rfl, hb2⟩
      have T2 := Lib.hid (T1.out.on hb2)
      have c1 : w2.cell? ⟨w.heap.size, 0, none⟩ = some (.int .i64 a.I) := T2.out.k1.cell 0
      have c2 : w2.cell? ⟨w.heap.size + 1, 0, none⟩ = some (.int .i64 b.I) := T2.out.k2.cell 0
      clear hb2
      go_wp2_with fail
      go_ret
      exact ⟨by rw [HV.out]; rfl, T2.out.below⟩
  · have HA := Lib.hid (check_no ha)
    have HV := Lib.hid (show a.berr b = 2 from by exact if_neg (fun h => ha h.1))
    clear ha
    go_enter Try.func40, Try.ntmps40
    go_wp2_with fail
    refine (HA.out _).mono ?_
    rintro e w1 ⟨rfl, hb1⟩
    have T1 := Lib.hid (HT.out.on hb1)
    have l2 := T1.out.l2
    clear hb1
    go_wp2_with fail
    go_ret
    exact ⟨by rw [HV.out]; rfl, T1.out.below⟩
def BoolDone (z : Bool) (w : World) (e : Ending) (w' : World) : Prop := e = .returned (.bool z) ∧ Below w.heap.size w w'
theorem both_ok {a b : Mb} (h : a.Both b) (w : World) : Calls Try.prog 40 #[mv a, mv b] w (ErrDone 0 w) := by have := both_any a b w; rwa [show a.berr b = 0 from if_pos h] at this
theorem both_no {a b : Mb} (h : ¬ a.Both b) (w : World) : Calls Try.prog 40 #[mv a, mv b] w (ErrDone 2 w) := by have := both_any a b w; rwa [show a.berr b = 2 from if_neg h] at this
set_option maxHeartbeats 1000000 in
theorem over_any (a b : Mb) (w : World) : Calls Try.prog 26 #[mv a, mv b] w (BoolDone (decide (a.Over b)) w) := by
  have HT := Lib.hid (TwoM.new a b w)
  have l1 := HT.out.l1
  have l2 := HT.out.l2
  by_cases h : a.Both b
  · have HA := Lib.hid (both_ok h)
    have HV := Lib.hid (show decide (a.Over b) = decide (0 < ordM a b) from by
      rw [decide_eq_decide]; unfold Mb.Over; rw [ordM_pos]; exact ⟨fun x => x.2, fun x => ⟨h, x⟩⟩)
    clear h
    go_enter Try.func26, Try.ntmps26
    go_wp2_with fail
    refine (HA.out _).mono ?_
    rintro e w1 ⟨rfl, hb1⟩
    have T1 := Lib.hid (HT.out.on hb1)
    have m1 := T1.out.l1
    have m2 := T1.out.l2
    clear hb1 l1 l2
    go_wp2_with fail
    refine (order_any a b _).mono ?_
    rintro e w2 ⟨rfl, hb2⟩
    have T2 := Lib.hid (T1.out.on hb2)
    clear hb2
    go_wp2_with fail
    go_ret
    exact ⟨by rw [HV.out]; rfl, T2.out.below⟩
  · have HA := Lib.hid (both_no h)
    have HV := Lib.hid (show decide (a.Over b) = false from decide_eq_false (fun x => h x.1))
    clear h
    go_enter Try.func26, Try.ntmps26
    go_wp2_with fail
    refine (HA.out _).mono ?_
    rintro e w1 ⟨rfl, hb1⟩
    have T1 := Lib.hid (HT.out.on hb1)
    clear hb1
    go_wp2_with fail
    go_ret
    exact ⟨by rw [HV.out]; rfl, T1.out.below⟩
end
end Go.Proofs.Ytgohapbobbkaeaa
