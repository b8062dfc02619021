/-
  The reference's disk does what disks are asked to do.
-/
import Derived.Test.YtooljhdfmfkpeaaDkA
import Derived.Test.YtooljhdfmfkpeaaAppAt
import Derived.Deep.QuietTactic
import Derived.BigQuiet
import Derived.BigRegion
namespace Go.Proofs.Ytooljhdfmfkpeaa
set_option linter.unusedSimpArgs false
set_option linter.unusedVariables false
open Go.RowKit Sha Dsk
/-- The reference's disk: its block, its two rows. -/
structure RD (w : World) (b : Nat) (vL vA : Value) (s : DState) : Prop where
  blk : Blk w b [vL, i64v s.firm, vA, i64v s.room, i64v s.steps, i64v s.left, .bool s.out] 64
  log : w.ownsRow 0 5 1 vL s.log.length (s.log.map v8)
  next : w.ownsRow 0 5 1 vA s.next.length (s.next.map v8)
  ok : Ok s
  nL : vL.ownBlock ≠ some b
  nA : vA.ownBlock ≠ some b
  ap : ∀ g, vL.ownBlock = some g → vA.ownBlock ≠ some g
def fpD (b : Nat) (vL vA : Value) : List Nat := b :: (vL.ownBlock.toList ++ vA.ownBlock.toList)
def RefDisk : DiskRep := fun w b fp s => ∃ vL vA, fp = fpD b vL vA ∧ RD w b vL vA s
theorem fpD_mem {b k : Nat} {vL vA : Value} : k ∈ fpD b vL vA ↔ k = b ∨ vL.ownBlock = some k ∨ vA.ownBlock = some k := by
  unfold fpD; simp [Option.mem_toList]
theorem RD.low {w : World} {b : Nat} {vL vA : Value} {s : DState} (h : RD w b vL vA s) : ∀ k ∈ fpD b vL vA, k < w.heap.size := by
  intro k hk
  rcases fpD_mem.1 hk with rfl | hk | hk
  · exact h.blk.lt
  · exact (h.log.lt k hk).2
  · exact (h.next.lt k hk).2
theorem RD.keep {w w' : World} {b : Nat} {vL vA : Value} {s : DState} (h : RD w b vL vA s) (hk : ∀ k ∈ fpD b vL vA, w'.heap[k]? = w.heap[k]?) : RD w' b vL vA s :=
  ⟨(hk b (fpD_mem.2 (.inl rfl))).trans h.blk, row_blocks8 h.log fun g hg => hk g (fpD_mem.2 (.inr (.inl hg))), row_blocks8 h.next fun g hg => hk g (fpD_mem.2 (.inr (.inr hg))), h.ok, h.nL, h.nA, h.ap⟩
theorem refHeldD : Held RefDisk := ⟨fun h => by obtain ⟨vL, vA, rfl, h⟩ := h; exact h.low, fun h hk => by obtain ⟨vL, vA, rfl, h⟩ := h; exact ⟨vL, vA, rfl, h.keep hk⟩⟩
/-- The block turned alone. -/
theorem RD.turn {w w' : World} {b : Nat} {vL vA : Value} {s s' : DState} (h : RD w b vL vA s) (hb : Blk w' b [vL, i64v s'.firm, vA, i64v s'.room, i64v s'.steps, i64v s'.left, .bool s'.out] 64) (hk : ∀ k, k ≠ b → w'.heap[k]? = w.heap[k]?) (hl : s'.log = s.log) (hn : s'.next = s.next) (ho : Ok s') : RD w' b vL vA s' :=
  ⟨hb, by rw [hl]; exact row_blocks8 h.log fun g hg => hk g fun e => h.nL (by rw [hg, e]), by rw [hn]; exact row_blocks8 h.next fun g hg => hk g fun e => h.nA (by rw [hg, e]), ho, h.nL, h.nA, h.ap⟩
set_option maxHeartbeats 400000 in
theorem dnew_any (n : Int) (w : World) (hn : fit64 n) : Calls Try.prog 9 #[i64v n] w (DNewDone RefDisk n w) := by
  obtain ⟨h1, h2⟩ := hn
  by_cases ho : n < 0 ∨ 1000000 < n
  · have HE := Lib.hid (newE_out ho)
    by_cases h0 : n < 0
    · clear ho
      go_enter Try.func9, Try.ntmps9
      go_wp2_with fail
      go_ret2
      exact ⟨Below.refl _ _, .inr ⟨HE.out, rfl⟩⟩
    · have h3 : 1000000 < n := by omega
      clear ho
      go_enter Try.func9, Try.ntmps9
      go_wp2_with fail
      go_ret2
      exact ⟨Below.refl _ _, .inr ⟨HE.out, rfl⟩⟩
  · have HE := Lib.hid (newE_in (n := n) (by omega))
    have h0 : ¬ n < 0 := by omega
    have h3 : ¬ 1000000 < n := by omega
    clear ho
    go_enter Try.func9, Try.ntmps9
    go_wp2_with fail
    go_ret2
    refine ⟨(Below.refl w.heap.size w).alloc (Nat.le_refl _) _, .inl ⟨HE.out, w.heap.size, [w.heap.size], rfl, ?_, by simp⟩⟩
    refine ⟨.slice none 0 0, .slice none 0 0, rfl, ?_, World.ownsRow_nil _ _ _ _, World.ownsRow_nil _ _ _ _, fresh_ok (by omega), by simp [Value.ownBlock], by simp [Value.ownBlock], by simp [Value.ownBlock]⟩
    have hb := Blk.new w #[.slice none 0 0, .int .i64 0, .slice none 0 0, .int .i64 n, .int .i64 0, .int .i64 (-1), .bool false] 64
    unfold fresh
    simp only [Int.toNat_of_nonneg (show 0 ≤ n by omega)]
    exact hb
/-- A step: counted, the fuse looked at. -/
def RStepDone (b : Nat) (vL vA : Value) (s : DState) (w : World) (e : Ending) (w' : World) : Prop := e = .returned (.bool (!decide (s.left = 0))) ∧ RD w' b vL vA (Dsk.step s) ∧ Touch [b] w w'
set_option maxRecDepth 100000 in
set_option maxHeartbeats 1000000 in
theorem rstep_any (b : Nat) (vL vA : Value) (s : DState) (w : World) (h : RD w b vL vA s) (hs : s.steps ≤ 1000000000) (hout : s.out = false) :
    Calls Try.prog 60 #[optr b] w (RStepDone b vL vA s w) := by
  have HR := Lib.hid h
  have c4 : w.cell? ⟨b, 4, none⟩ = some (i64v s.steps) := h.blk.cell 4
  have f4 : w.frozen? ⟨b, 4, none⟩ = false := h.blk.free 4
  have b1 := h.blk.set 4 (.int .i64 ((s.steps : Int) + 1))
  have d5 : (w.setCell ⟨b, 4, none⟩ (.int .i64 ((s.steps : Int) + 1))).cell? ⟨b, 5, none⟩ = some (i64v s.left) := b1.cell 5
  have g5 : (w.setCell ⟨b, 4, none⟩ (.int .i64 ((s.steps : Int) + 1))).frozen? ⟨b, 5, none⟩ = false := b1.free 5
  have d6 : (w.setCell ⟨b, 4, none⟩ (.int .i64 ((s.steps : Int) + 1))).cell? ⟨b, 6, none⟩ = some (.bool s.out) := b1.cell 6
  have g6 : (w.setCell ⟨b, 4, none⟩ (.int .i64 ((s.steps : Int) + 1))).frozen? ⟨b, 6, none⟩ = false := b1.free 6
  have HB1 := Lib.hid b1
  have hl := h.ok.left
  have HOK := Lib.hid (step_ok h.ok)
  have HOUT := Lib.hid hout
  have HM := Lib.hid (show Touch [b] w (w.setCell ⟨b, 4, none⟩ (.int .i64 ((s.steps : Int) + 1))) from Touch.setCell (by simp))
  have HST := Lib.hid (show (((Dsk.step s).steps : Nat) : Int) = (s.steps : Int) + 1 by simp [Dsk.step])
  obtain ⟨st, hst⟩ : ∃ st, st = s.steps := ⟨_, rfl⟩
  obtain ⟨lf, hlf⟩ : ∃ lf, lf = s.left := ⟨_, rfl⟩
  have HLF := Lib.hid hlf
  rw [← hst] at c4 b1 d5 d6 g5 g6 HB1 HM HST hs
  rw [← hlf] at d5 hl
  clear h b1 hst hlf hout
  by_cases h0 : lf = 0
  · have t0 : (lf == 0) = true := by rw [beq_iff_eq]; exact h0
    have HD := Lib.hid (show decide (s.left = 0) = true from decide_eq_true (by rw [← HLF.out]; exact h0))
    subst h0
    go_enter Try.func60, Try.ntmps60
    go_wp2_with fail
    go_ret
    refine ⟨by rw [HD.out]; rfl, HR.out.turn ?_ ?_ rfl rfl HOK.out, HM.out.setIn (by simp) _⟩
    · have h1 := HB1.out.set 6 (.bool true)
      rw [HST.out]
      have e1 : (Dsk.step s).left = s.left := by unfold Dsk.step; simp only; rw [← HLF.out]; rfl
      have e2 : (Dsk.step s).out = true := by unfold Dsk.step; simp [← HLF.out]
      rw [e1, e2]
      exact h1
    · intro k hk
      exact (Below.heap_setCell _ _ _ _ hk).trans (Below.heap_setCell _ _ _ _ hk)
  · have t0 : (lf == 0) = false := by rw [beq_eq_false_iff_ne]; exact h0
    have HD := Lib.hid (show decide (s.left = 0) = false from decide_eq_false (by rw [← HLF.out]; exact h0))
    have HE2 := Lib.hid (show (Dsk.step s).out = false by unfold Dsk.step; simp [HOUT.out, ← HLF.out, h0])
    by_cases hp : 0 < lf
    · go_enter Try.func60, Try.ntmps60
      go_wp2_with fail
      go_ret
      refine ⟨by rw [HD.out]; rfl, HR.out.turn ?_ ?_ rfl rfl HOK.out, HM.out.setIn (by simp) _⟩
      · have h1 := HB1.out.set 5 (.int .i64 (lf - 1))
        rw [HST.out, HE2.out, ← HOUT.out]
        have e1 : (Dsk.step s).left = lf - 1 := by unfold Dsk.step; simp only; rw [← HLF.out, if_pos hp]
        rw [e1]
        exact h1
      · intro k hk
        exact (Below.heap_setCell _ _ _ _ hk).trans (Below.heap_setCell _ _ _ _ hk)
    · have HE1 := Lib.hid (show (Dsk.step s).left = s.left by unfold Dsk.step; simp only; rw [← HLF.out, if_neg hp])
      go_enter Try.func60, Try.ntmps60
      go_wp2_with fail
      go_ret
      refine ⟨by rw [HD.out]; rfl, HR.out.turn ?_ ?_ rfl rfl HOK.out, HM.out⟩
      · have h1 := HB1.out
        rw [HST.out, HE2.out, ← HOUT.out]
        rw [HE1.out]
        exact h1
      · intro k hk
        exact Below.heap_setCell _ _ _ _ hk
theorem rtold_any (d : Bool) (w : World) : Calls Try.prog 61 #[.bool d] w fun e w' => e = .returned (i64v (if d = true then 0 else 11)) ∧ w = w' := by
  cases d with
  | false =>
    go_enter Try.func61, Try.ntmps61
    go_wp2_with fail
    go_ret
    exact ⟨rfl, rfl⟩
  | true =>
    go_enter Try.func61, Try.ntmps61
    go_wp2_with fail
    go_ret
    exact ⟨rfl, rfl⟩
end Go.Proofs.Ytooljhdfmfkpeaa
