/-
  The program's disks: how they lie in memory; whether there is one, why it does nothing, a step's fuse.
-/
import Derived.Test.YtooljhdfmfkpeaaDkA
import Derived.Test.YtooljhdfmfkpeaaAppAt
import Derived.Deep.QuietTactic
import Derived.BigQuiet
import Derived.BigRegion
import Derived.LaidEql
namespace Go.Proofs.Ytooljhdfmfkpeaa
set_option linter.unusedSimpArgs false
set_option linter.unusedVariables false
open Go.RowKit Sha Dsk
section
variable {P : Program}
/-- A pointer and itself; nothing and a pointer. -/
theorem run_neq_ptr_same {tp te : TypeId} {j : TypeInfo} (a : Addr) (hp : P.underlying tp = some (.pointer te)) (hte : P.info? te = some j) (w : World) :
    (binOp .neq tp (.pointer (some a)) (.pointer (some a))).run P w = .ok (.bool false) w := by
  have h : ∀ d : Nat, (Op.equalIn (d + 1) tp (.pointer (some a)) (.pointer (some a))).run P w = .ok true w := fun d => by
    simp [Op.equalIn, run_underlying hp, typeInfo, sizeOf, run_sameAddr_same, hte]
  simp only [binOp]
  simp [Op.equal, Op.maxDepth, h 9999]
theorem run_neq_ptr_nil {tp te : TypeId} (a : Addr) (hp : P.underlying tp = some (.pointer te)) (w : World) :
    (binOp .neq tp (.pointer none) (.pointer (some a))).run P w = .ok (.bool true) w := by
  have h : ∀ d : Nat, (Op.equalIn (d + 1) tp (.pointer none) (.pointer (some a))).run P w = .ok false w := fun d => by
    simp [Op.equalIn, run_underlying hp]
  simp only [binOp]
  simp [Op.equal, Op.maxDepth, h 9999]
end
theorem info_disk : ∃ j, Try.prog.info? 47 = some j := by
  have h : (Try.prog.info? 47).isSome = true := by kernel_rfl
  exact Option.isSome_iff_exists.1 h
abbrev pcells (b : Nat) (vL vA : Value) (s : DState) : List Value := [optr b, vL, i64v s.firm, vA, i64v s.room, i64v s.left, i64v s.steps, .bool s.out]
/-- The program's disk: its block, its two rows. -/
structure PD (w : World) (b : Nat) (vL vA : Value) (s : DState) : Prop where
  blk : Blk w b (pcells b vL vA s) 47
  log : w.ownsRow 0 5 1 vL s.log.length (s.log.map v8)
  next : w.ownsRow 0 5 1 vA s.next.length (s.next.map v8)
  ok : Ok s
  nL : vL.ownBlock ≠ some b
  nA : vA.ownBlock ≠ some b
  ap : ∀ g, vL.ownBlock = some g → vA.ownBlock ≠ some g
def fpP (b : Nat) (vL vA : Value) : List Nat := b :: (vL.ownBlock.toList ++ vA.ownBlock.toList)
def ProgDisk : DiskRep := fun w b fp s => ∃ vL vA, fp = fpP b vL vA ∧ PD w b vL vA s
theorem fpP_mem {b k : Nat} {vL vA : Value} : k ∈ fpP b vL vA ↔ k = b ∨ vL.ownBlock = some k ∨ vA.ownBlock = some k := by
  unfold fpP; simp [Option.mem_toList]
theorem PD.low {w : World} {b : Nat} {vL vA : Value} {s : DState} (h : PD w b vL vA s) : ∀ k ∈ fpP b vL vA, k < w.heap.size := by
  intro k hk
  rcases fpP_mem.1 hk with rfl | hk | hk
  · exact h.blk.lt
  · exact (h.log.lt k hk).2
  · exact (h.next.lt k hk).2
theorem PD.keep {w w' : World} {b : Nat} {vL vA : Value} {s : DState} (h : PD w b vL vA s) (hk : ∀ k ∈ fpP b vL vA, w'.heap[k]? = w.heap[k]?) : PD w' b vL vA s :=
  ⟨(hk b (fpP_mem.2 (.inl rfl))).trans h.blk, row_blocks8 h.log fun g hg => hk g (fpP_mem.2 (.inr (.inl hg))), row_blocks8 h.next fun g hg => hk g (fpP_mem.2 (.inr (.inr hg))), h.ok, h.nL, h.nA, h.ap⟩
theorem progHeldD : Held ProgDisk := ⟨fun h => by obtain ⟨vL, vA, rfl, h⟩ := h; exact h.low, fun h hk => by obtain ⟨vL, vA, rfl, h⟩ := h; exact ⟨vL, vA, rfl, h.keep hk⟩⟩
/-- The block turned alone. -/
theorem PD.turn {w w' : World} {b : Nat} {vL vA : Value} {s s' : DState} (h : PD w b vL vA s) (hb : Blk w' b (pcells b vL vA s') 47) (hk : ∀ k, k ≠ b → w'.heap[k]? = w.heap[k]?) (hl : s'.log = s.log) (hn : s'.next = s.next) (ho : Ok s') : PD w' b vL vA s' :=
  ⟨hb, by rw [hl]; exact row_blocks8 h.log fun g hg => hk g fun e => h.nL (by rw [hg, e]), by rw [hn]; exact row_blocks8 h.next fun g hg => hk g fun e => h.nA (by rw [hg, e]), ho, h.nL, h.nA, h.ap⟩
theorem PD.lens {w : World} {b : Nat} {vL vA : Value} {s : DState} (h : PD w b vL vA s) : ∃ pL cL pA cA, vL = .slice pL s.log.length cL ∧ vA = .slice pA s.next.length cA := by
  obtain ⟨pL, cL, e1, _⟩ := own_at h.log
  obtain ⟨pA, cA, e2, _⟩ := own_at h.next
  exact ⟨pL, cL, pA, cA, e1, e2⟩
theorem Touch.of_blockP {b : Nat} {vL vA : Value} {w w' : World} (h : Touch [b] w w') : Touch (fpP b vL vA) w w' := ⟨h.os, h.tape, h.output, h.size, fun k hk hn => h.block k hk fun e => hn (fpP_mem.2 (.inl (by simpa using e)))⟩
/-- There is one. -/
theorem pnone_any (b : Nat) (vL vA : Value) (s : DState) (w : World) (h : PD w b vL vA s) :
    Calls Try.prog 36 #[optr b] w fun e w' => e = .returned (.bool false) ∧ w' = w := by
  have c0 : w.cell? ⟨b, 0, none⟩ = some (optr b) := h.blk.cell 0
  obtain ⟨j, hj⟩ := info_disk
  have hq := run_neq_ptr_same (P := Try.prog) ⟨b, 0, none⟩ Try.underlying23 hj
  clear h hj
  go_enter Try.func36, Try.ntmps36
  go_wp2_with fail
  go_ret
  exact ⟨rfl, rfl⟩
/-- Why it does nothing. -/
theorem pbarred_any (b : Nat) (vL vA : Value) (s : DState) (w : World) (h : PD w b vL vA s) (z : Int) (hz : z = readE s) :
    Calls Try.prog 51 #[optr b] w fun e w' => e = .returned (i64v z) ∧ w' = w := by
  have HC := Lib.hid (pnone_any b vL vA s w h)
  have c7 : w.cell? ⟨b, 7, none⟩ = some (.bool s.out) := h.blk.cell 7
  have HZ := Lib.hid hz
  clear hz
  by_cases ho : s.out = true
  · have HE := Lib.hid (show readE s = 11 from if_pos ho)
    rw [ho] at c7
    clear h ho
    go_enter Try.func51, Try.ntmps51
    go_wp2_with fail
    refine HC.out.mono ?_
    rintro e w1 ⟨rfl, rfl⟩
    go_wp2_with fail
    go_ret
    exact ⟨by rw [HZ.out, HE.out]; rfl, rfl⟩
  · have HE := Lib.hid (show readE s = 0 from if_neg ho)
    rw [show s.out = false by simpa using ho] at c7
    clear h ho
    go_enter Try.func51, Try.ntmps51
    go_wp2_with fail
    refine HC.out.mono ?_
    rintro e w1 ⟨rfl, rfl⟩
    go_wp2_with fail
    go_ret
    exact ⟨by rw [HZ.out, HE.out]; rfl, rfl⟩
/-- Why so many bytes are not laid. -/
def PCrowd (s : DState) (n : Nat) (w : World) (e : Ending) (w' : World) : Prop := e = .returned (i64v (bad s n)) ∧ ∃ k, w' = w.drewN k
set_option maxRecDepth 100000 in
set_option maxHeartbeats 1000000 in
theorem pcrowded_any (b : Nat) (vL vA : Value) (s : DState) (n : Nat) (w : World) (h : PD w b vL vA s) (hn : n ≤ 1000000000) :
    Calls Try.prog 52 #[optr b, i64v n] w (PCrowd s n w) := by
  obtain ⟨pL, cL, pA, cA, e1, e2⟩ := h.lens
  have HB := Lib.hid (pbarred_any b vL vA s w h)
  have c1 : w.cell? ⟨b, 1, none⟩ = some vL := h.blk.cell 1
  have c3 : w.cell? ⟨b, 3, none⟩ = some vA := h.blk.cell 3
  have c4 : w.cell? ⟨b, 4, none⟩ = some (i64v s.room) := h.blk.cell 4
  rw [e1] at c1
  rw [e2] at c3
  have hsm := h.ok.small
  have hrm := h.ok.room
  by_cases ho : s.out = true
  · have HE := Lib.hid (bad_out (n := n) ho)
    have HB' := Lib.hid (HB.out 11 (show (11 : Int) = readE s from (if_pos ho).symm))
    clear h e1 e2 ho HB
    go_enter Try.func52, Try.ntmps52
    go_wp2_with fail
    refine HB'.out.mono ?_
    rintro e w1 ⟨rfl, rfl⟩
    go_wp2_with fail
    go_ret
    exact ⟨by rw [HE.out]; rfl, 0, rfl⟩
  · have ho' : s.out = false := by simpa using ho
    have HB' := Lib.hid (HB.out 0 (show (0 : Int) = readE s from (if_neg ho).symm))
    obtain ⟨l, hl⟩ : ∃ l, l = s.log.length := ⟨_, rfl⟩
    obtain ⟨m, hm⟩ : ∃ m, m = s.next.length := ⟨_, rfl⟩
    obtain ⟨r, hr⟩ : ∃ r, r = s.room := ⟨_, rfl⟩
    rw [← hl] at c1 hsm
    rw [← hm] at c3 hsm
    rw [← hr] at c4 hrm
    by_cases hf : r < l + m + n
    · have HE := Lib.hid (bad_full (n := n) ho' (by rw [← hl, ← hm, ← hr]; exact hf))
      have hd : decide ((r : Int) < (l : Int) + (m : Int) + (n : Int)) = true := decide_eq_true (by omega)
      clear h e1 e2 ho ho' hl hm hr HB
      go_enter Try.func52, Try.ntmps52
      go_wp2_with fail
      refine HB'.out.mono ?_
      rintro e w1 ⟨rfl, rfl⟩
      go_wp2_with fail
      go_quiet (fail)
      go_wp2_with fail
      go_ret
      exact ⟨by rw [HE.out]; rfl, _, rfl⟩
    · have HE := Lib.hid (show bad s n = 0 from bad_zero.2 ⟨ho', by rw [← hl, ← hm, ← hr]; omega⟩)
      have hd : decide ((r : Int) < (l : Int) + (m : Int) + (n : Int)) = false := decide_eq_false (by omega)
      clear h e1 e2 ho ho' hl hm hr HB
      go_enter Try.func52, Try.ntmps52
      go_wp2_with fail
      refine HB'.out.mono ?_
      rintro e w1 ⟨rfl, rfl⟩
      go_wp2_with fail
      go_quiet (fail)
      go_wp2_with fail
      go_ret
      exact ⟨by rw [HE.out]; rfl, _, rfl⟩
/-- The fuse, one less, or burnt. -/
def burnt (s : DState) : DState := { s with left := if 0 < s.left then s.left - 1 else s.left, out := s.out || decide (s.left = 0) }
theorem burnt_steps (s : DState) : burnt { s with steps := s.steps + 1 } = Dsk.step s := rfl
theorem burnt_ok {s : DState} (h : Ok s) : Ok (burnt s) := ⟨h.firm, h.small, h.room, (step_ok h).left, h.log, h.next⟩
set_option maxRecDepth 100000 in
set_option maxHeartbeats 1000000 in
theorem pburn_any (b : Nat) (vL vA : Value) (s : DState) (w : World) (h : PD w b vL vA s) :
    Calls Try.prog 62 #[optr b] w fun e w' => e = .returned (.tuple #[]) ∧ PD w' b vL vA (burnt s) ∧ Touch [b] w w' := by
  have HR := Lib.hid h
  have HOK := Lib.hid (burnt_ok h.ok)
  have c5 : w.cell? ⟨b, 5, none⟩ = some (i64v s.left) := h.blk.cell 5
  have f5 : w.frozen? ⟨b, 5, none⟩ = false := h.blk.free 5
  have c7 : w.cell? ⟨b, 7, none⟩ = some (.bool s.out) := h.blk.cell 7
  have f7 : w.frozen? ⟨b, 7, none⟩ = false := h.blk.free 7
  have d5 : (w.setCell ⟨b, 7, none⟩ (.bool true)).cell? ⟨b, 5, none⟩ = some (i64v s.left) := (h.blk.set 7 (.bool true)).cell 5
  have hl := h.ok.left
  obtain ⟨lf, hlf⟩ : ∃ lf, lf = s.left := ⟨_, rfl⟩
  have HLF := Lib.hid hlf
  rw [← hlf] at c5 d5 hl
  clear h hlf
  by_cases h0 : lf = 0
  · have t0 : (lf == 0) = true := by rw [beq_iff_eq]; exact h0
    subst h0
    go_enter Try.func62, Try.ntmps62
    go_wp2_with fail
    go_end0
    refine ⟨rfl, HR.out.turn ?_ (fun k hk => Below.heap_setCell _ _ _ _ hk) rfl rfl HOK.out, (Touch.refl _ w).setIn (by simp) _⟩
    have h1 := HR.out.blk.set 7 (.bool true)
    have e1 : (burnt s).left = s.left := by unfold burnt; simp only; rw [← HLF.out]; rfl
    have e2 : (burnt s).out = true := by unfold burnt; simp [← HLF.out]
    unfold pcells
    rw [e1, e2]
    exact h1
  · have t0 : (lf == 0) = false := by rw [beq_eq_false_iff_ne]; exact h0
    have HE2 := Lib.hid (show (burnt s).out = s.out by unfold burnt; simp [← HLF.out, h0])
    by_cases hp : 0 < lf
    · go_enter Try.func62, Try.ntmps62
      go_wp2_with fail
      go_end0
      refine ⟨rfl, HR.out.turn ?_ (fun k hk => Below.heap_setCell _ _ _ _ hk) rfl rfl HOK.out, (Touch.refl _ w).setIn (by simp) _⟩
      have h1 := HR.out.blk.set 5 (.int .i64 (lf - 1))
      have e1 : (burnt s).left = lf - 1 := by unfold burnt; simp only; rw [← HLF.out, if_pos hp]
      unfold pcells
      rw [HE2.out, e1]
      exact h1
    · have HE1 := Lib.hid (show (burnt s).left = s.left by unfold burnt; simp only; rw [← HLF.out, if_neg hp])
      go_enter Try.func62, Try.ntmps62
      go_wp2_with fail
      go_end0
      refine ⟨rfl, HR.out.turn ?_ (fun k hk => rfl) rfl rfl HOK.out, Touch.refl _ w⟩
      have h1 := HR.out.blk
      unfold pcells at h1 ⊢
      rw [HE2.out, HE1.out]
      exact h1
end Go.Proofs.Ytooljhdfmfkpeaa
