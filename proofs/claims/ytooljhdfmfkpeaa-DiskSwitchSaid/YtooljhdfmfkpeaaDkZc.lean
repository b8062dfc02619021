/-
  The program's disks: what is handed to a step: made firm, put in the log's place.
-/
import Derived.Test.YtooljhdfmfkpeaaDkZb
namespace Go.Proofs.Ytooljhdfmfkpeaa
set_option linter.unusedSimpArgs false
set_option linter.unusedVariables false
open Go.RowKit Sha Dsk
set_option maxHeartbeats 1000000 in
theorem pfirmLog_any (p : Option Addr) (n c : Nat) (w : World) :
    Calls Try.prog 63 #[.slice p n c] w fun e w' => e = .returned (.agg #[.slice p n c, i64v n]) ∧ Below w.heap.size w w' := by
  go_enter Try.func63, Try.ntmps63
  go_wp2_with fail
  have hszr : (Try.prog.info? 43).map (fun i => i.size) = some 2 := by kernel_rfl
  have hz := Blk.new w #[Value.slice p n c, Value.int IntKind.i64 n] 43
  refine bodyPost_ret (v := .agg #[.slice p n c, i64v n]) (results_cell_row rfl _ _ _ _ _ _ _ rfl hz (Try.underlying43) rfl hszr) rfl ?_
  exact ⟨rfl, (Below.refl _ w).alloc (Nat.le_refl _) _⟩
set_option maxRecDepth 100000 in
set_option maxHeartbeats 1000000 in
theorem psync_do (b : Nat) (vL vA : Value) (s : DState) (bo : Bool) (w : World) (h : PD w b vL vA s) (hb : bo = s.out) (rv : Value) (hr : rv = .slice none 0 0) :
    Calls Try.prog 55 #[.pointer (some ⟨b, 1, none⟩), rv, .bool bo] w (DoDone b (fpP b vL vA) (if bo = true then s else { s with firm := s.log.length }) w) := by
  subst hr
  clear hb
  have HR := Lib.hid h
  cases bo with
  | true =>
    go_enter Try.func55, Try.ntmps55
    go_wp2_with fail
    go_end0
    exact ⟨rfl, _, ⟨vL, vA, rfl, HR.out⟩, Touch.refl _ _, From.refl _ _⟩
  | false =>
    obtain ⟨pL, cL, pA, cA, e1, e2⟩ := h.lens
    have c1 : w.cell? ⟨b, 1, none⟩ = some vL := h.blk.cell 1
    have c2 : w.cell? ⟨b, 2, none⟩ = some (i64v s.firm) := h.blk.cell 2
    have f2 : w.frozen? ⟨b, 2, none⟩ = false := h.blk.free 2
    rw [e1] at c1
    clear h e1 e2
    go_enter Try.func55, Try.ntmps55
    go_wp2_with fail
    go_end0
    refine ⟨rfl, _, ⟨vL, vA, rfl, ?_⟩, (Touch.refl _ w).setIn (fpP_mem.2 (.inl rfl)) _, From.refl _ _⟩
    exact HR.out.turn (HR.out.blk.set 2 _) (fun k hk => Below.heap_setCell _ _ _ _ hk) rfl rfl ⟨Nat.le_refl _, HR.out.ok.small, HR.out.ok.room, HR.out.ok.left, HR.out.ok.log, HR.out.ok.next⟩
set_option maxRecDepth 100000 in
set_option maxHeartbeats 1000000 in
theorem pturn_do (b : Nat) (vL vA : Value) (s : DState) (bo : Bool) (w : World) (h : PD w b vL vA s) (hb : bo = s.out) (rv : Value) (hr : rv = .slice none 0 0) :
    Calls Try.prog 56 #[optr b, rv, .bool bo] w (DoDone b (fpP b vL vA) (if bo = true then s else { s with log := s.next, firm := s.next.length, next := [] }) w) := by
  subst hr
  clear hb
  have HR := Lib.hid h
  cases bo with
  | true =>
    go_enter Try.func56, Try.ntmps56
    go_wp2_with fail
    go_end0
    exact ⟨rfl, _, ⟨vL, vA, rfl, HR.out⟩, Touch.refl _ _, From.refl _ _⟩
  | false =>
    obtain ⟨pL, cL, pA, cA, e1, e2⟩ := h.lens
    have c3 : w.cell? ⟨b, 3, none⟩ = some vA := h.blk.cell 3
    rw [e2] at c3
    have HV := Lib.hid e2
    clear h e1 e2
    go_enter Try.func56, Try.ntmps56
    go_wp2_with fail
    refine (pfirmLog_any _ _ _ _).mono ?_
    rintro e w1 ⟨rfl, hb1⟩
    have B1 := Lib.hid hb1
    have hbk := HR.out.blk.below hb1 HR.out.blk.lt
    have d1 : w1.cell? ⟨b, 1, none⟩ = some vL := hbk.cell 1
    have d2 : w1.cell? ⟨b, 2, none⟩ = some (i64v s.firm) := hbk.cell 2
    have d3 : w1.cell? ⟨b, 3, none⟩ = some vA := hbk.cell 3
    have f1 : w1.frozen? ⟨b, 1, none⟩ = false := hbk.free 1
    have f2 : w1.frozen? ⟨b, 2, none⟩ = false := hbk.free 2
    have f3 : w1.frozen? ⟨b, 3, none⟩ = false := hbk.free 3
    clear hb1 hbk
    go_wp2_with fail
    go_end0
    have hbk := ((((HR.out.blk.below B1.out HR.out.blk.lt).set 1 vA).set 2 (i64v s.next.length)).set 3 (.slice none 0 0))
    have hk : ∀ k, k ≠ b → (((w1.setCell ⟨b, 1, none⟩ vA).setCell ⟨b, 2, none⟩ (i64v s.next.length)).setCell ⟨b, 3, none⟩ (.slice none 0 0)).heap[k]? = w1.heap[k]? := fun k hk => ((Below.heap_setCell _ _ _ _ hk).trans (Below.heap_setCell _ _ _ _ hk)).trans (Below.heap_setCell _ _ _ _ hk)
    have hT : Touch (fpP b vL vA) w _ := ((((Touch.of_below B1.out).setIn (g := b) (i := 1) (fpP_mem.2 (.inl rfl)) vA).setIn (g := b) (i := 2) (fpP_mem.2 (.inl rfl)) (i64v s.next.length)).setIn (g := b) (i := 3) (fpP_mem.2 (.inl rfl)) (.slice none 0 0))
    have hsm := HR.out.ok.small
    rw [← HV.out]
    refine ⟨rfl, fpP b vA (.slice none 0 0), ⟨vA, .slice none 0 0, rfl, hbk, ?_, World.ownsRow_nil _ _ _ _, ⟨Nat.le_refl _, by simp only [List.length_nil]; omega, HR.out.ok.room, HR.out.ok.left, HR.out.ok.next, by simp⟩, HR.out.nA, by simp [Value.ownBlock], by simp [Value.ownBlock]⟩, hT, fun k hk' => ?_⟩
    · exact row_blocks8 HR.out.next fun g hg => (hk g fun e => HR.out.nA (by rw [hg, e])).trans (B1.out.block g (HR.out.next.lt g hg).2)
    · rcases fpP_mem.1 hk' with rfl | h' | h'
      · exact .inl (fpP_mem.2 (.inl rfl))
      · exact .inl (fpP_mem.2 (.inr (.inr h')))
      · cases h'
end Go.Proofs.Ytooljhdfmfkpeaa
