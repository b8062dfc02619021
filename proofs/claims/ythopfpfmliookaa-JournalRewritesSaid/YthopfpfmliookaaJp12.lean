/-
  The program's disks: how they lie in memory; whether there is one, why it does nothing, a step's fuse.
  The program's disks: what steps do.
  The program's disks: what is handed to a step: made firm, put in the log's place.
-/
import Derived.Test.YthopfpfmliookaaJp7
import Derived.Test.YthopfpfmliookaaJp11
import Derived.Deep.QuietTactic
import Derived.BigQuiet
import Derived.BigRegion
import Derived.LaidEql
namespace Go.Proofs.Ythopfpfmliookaa
section
set_option linter.unusedSimpArgs false
set_option linter.unusedVariables false
open Go.RowKit Sha Dsk
section
variable {P : Program}
/-- A pointer and itself; nothing and a pointer. -/
theorem run_neq_ptr_sameD {tp te : TypeId} {j : TypeInfo} (a : Addr) (hp : P.underlying tp = some (.pointer te)) (hte : P.info? te = some j) (w : World) :
    (binOp .neq tp (.pointer (some a)) (.pointer (some a))).run P w = .ok (.bool false) w := by
  have h : ∀ d : Nat, (Op.equalIn (d + 1) tp (.pointer (some a)) (.pointer (some a))).run P w = .ok true w := fun d => by
    simp [Op.equalIn, run_underlying hp, typeInfo, sizeOf, run_sameAddr_same, hte]
  simp only [binOp]
  simp [Op.equal, Op.maxDepth, h 9999]
theorem run_neq_ptr_nilD {tp te : TypeId} (a : Addr) (hp : P.underlying tp = some (.pointer te)) (w : World) :
    (binOp .neq tp (.pointer none) (.pointer (some a))).run P w = .ok (.bool true) w := by
  have h : ∀ d : Nat, (Op.equalIn (d + 1) tp (.pointer none) (.pointer (some a))).run P w = .ok false w := fun d => by
    simp [Op.equalIn, run_underlying hp]
  simp only [binOp]
  simp [Op.equal, Op.maxDepth, h 9999]
end
theorem info_disk : ∃ j, Try.prog.info? 45 = some j := by
  have h : (Try.prog.info? 45).isSome = true := by kernel_rfl
  exact Option.isSome_iff_exists.1 h
abbrev pcells (b : Nat) (vL vA : Value) (s : DState) : List Value := [optr b, vL, i64v s.firm, vA, i64v s.room, i64v s.left, i64v s.steps, .bool s.out]
/-- The program's disk: its block, its two rows. -/
structure PD (w : World) (b : Nat) (vL vA : Value) (s : DState) : Prop where
  blk : Blk w b (pcells b vL vA s) 45
  log : w.ownsRow 0 5 1 vL s.log.length (s.log.map v8)
  next : w.ownsRow 0 5 1 vA s.next.length (s.next.map v8)
  ok : Ok s
  nL : vL.ownBlock ≠ some b
  nA : vA.ownBlock ≠ some b
  ap : ∀ g, vL.ownBlock = some g → vA.ownBlock ≠ some g
def fpP (b : Nat) (vL vA : Value) : List Nat := b :: (vL.ownBlock.toList ++ vA.ownBlock.toList)
def ProgDisk : DiskRep := fun w b fp s => ∃ vL vA, fp = fpP b vL vA ∧ PD w b vL vA s
theorem fpP_mem {b k : Nat} {vL vA : Value} : k ∈ fpP b vL vA ↔ k = b ∨ vL.ownBlock = some k ∨ vA.ownBlock = some k := by
  unfold fpP; simp [Option.mem_toList]
theorem PD.low {w : World} {b : Nat} {vL vA : Value} {s : DState} (h : PD w b vL vA s) : ∀ k ∈ fpP b vL vA, k < w.heap.size := by
  intro k hk
  rcases fpP_mem.1 hk with rfl | hk | hk
  · exact h.blk.lt
  · exact (h.log.lt k hk).2
  · exact (h.next.lt k hk).2
theorem PD.keep {w w' : World} {b : Nat} {vL vA : Value} {s : DState} (h : PD w b vL vA s) (hk : ∀ k ∈ fpP b vL vA, w'.heap[k]? = w.heap[k]?) : PD w' b vL vA s :=
  ⟨(hk b (fpP_mem.2 (.inl rfl))).trans h.blk, row_blocks8 h.log fun g hg => hk g (fpP_mem.2 (.inr (.inl hg))), row_blocks8 h.next fun g hg => hk g (fpP_mem.2 (.inr (.inr hg))), h.ok, h.nL, h.nA, h.ap⟩
theorem progHeldD : Held ProgDisk := ⟨fun h => by obtain ⟨vL, vA, rfl, h⟩ := h; exact h.low, fun h hk => by obtain ⟨vL, vA, rfl, h⟩ := h; exact ⟨vL, vA, rfl, h.keep hk⟩⟩
/-- The block turned alone. -/
theorem PD.turn {w w' : World} {b : Nat} {vL vA : Value} {s s' : DState} (h : PD w b vL vA s) (hb : Blk w' b (pcells b vL vA s') 45) (hk : ∀ k, k ≠ b → w'.heap[k]? = w.heap[k]?) (hl : s'.log = s.log) (hn : s'.next = s.next) (ho : Ok s') : PD w' b vL vA s' :=
  ⟨hb, by rw [hl]; exact row_blocks8 h.log fun g hg => hk g fun e => h.nL (by rw [hg, e]), by rw [hn]; exact row_blocks8 h.next fun g hg => hk g fun e => h.nA (by rw [hg, e]), ho, h.nL, h.nA, h.ap⟩
theorem PD.lens {w : World} {b : Nat} {vL vA : Value} {s : DState} (h : PD w b vL vA s) : ∃ pL cL pA cA, vL = .slice pL s.log.length cL ∧ vA = .slice pA s.next.length cA := by
  obtain ⟨pL, cL, e1, _⟩ := own_at h.log
  obtain ⟨pA, cA, e2, _⟩ := own_at h.next
  exact ⟨pL, cL, pA, cA, e1, e2⟩
theorem Touch.of_blockP {b : Nat} {vL vA : Value} {w w' : World} (h : Touch [b] w w') : Touch (fpP b vL vA) w w' := ⟨h.os, h.tape, h.output, h.size, fun k hk hn => h.block k hk fun e => hn (fpP_mem.2 (.inl (by simpa using e)))⟩
/-- There is one. -/
theorem pdnone_any (b : Nat) (vL vA : Value) (s : DState) (w : World) (h : PD w b vL vA s) :
    Calls Try.prog 42 #[optr b] w fun e w' => e = .returned (.bool false) ∧ w' = w := by
  have c0 : w.cell? ⟨b, 0, none⟩ = some (optr b) := h.blk.cell 0
  obtain ⟨j, hj⟩ := info_disk
  have hq := run_neq_ptr_sameD (P := Try.prog) ⟨b, 0, none⟩ Try.underlying25 hj
  clear h hj
  go_enter Try.func42, Try.ntmps42
  go_wp2_with fail
  go_ret
  exact ⟨rfl, rfl⟩
/-- Why it does nothing. -/
theorem pbarred_any (b : Nat) (vL vA : Value) (s : DState) (w : World) (h : PD w b vL vA s) (z : Int) (hz : z = readE s) :
    Calls Try.prog 48 #[optr b] w fun e w' => e = .returned (i64v z) ∧ w' = w := by
  have HC := Lib.hid (pdnone_any b vL vA s w h)
  have c7 : w.cell? ⟨b, 7, none⟩ = some (.bool s.out) := h.blk.cell 7
  have HZ := Lib.hid hz
  clear hz
  by_cases ho : s.out = true
  · have HE := Lib.hid (show readE s = 11 from if_pos ho)
    rw [ho] at c7
    clear h ho
    go_enter Try.func48, Try.ntmps48
    go_wp2_with fail
    refine HC.out.mono ?_
    rintro e w1 ⟨rfl, rfl⟩
    go_wp2_with fail
    go_ret
    exact ⟨by rw [HZ.out, HE.out]; rfl, rfl⟩
  · have HE := Lib.hid (show readE s = 0 from if_neg ho)
    rw [show s.out = false by simpa using ho] at c7
    clear h ho
    go_enter Try.func48, Try.ntmps48
    go_wp2_with fail
    refine HC.out.mono ?_
    rintro e w1 ⟨rfl, rfl⟩
    go_wp2_with fail
    go_ret
    exact ⟨by rw [HZ.out, HE.out]; rfl, rfl⟩
/-- Why so many bytes are not laid. -/
def PCrowd (s : DState) (n : Nat) (w : World) (e : Ending) (w' : World) : Prop := e = .returned (i64v (bad s n)) ∧ ∃ k, w' = w.drewN k
set_option maxRecDepth 100000 in
set_option maxHeartbeats 1000000 in
theorem pcrowded_any (b : Nat) (vL vA : Value) (s : DState) (n : Nat) (w : World) (h : PD w b vL vA s) (hn : n ≤ 1000000000) :
    Calls Try.prog 61 #[optr b, i64v n] w (PCrowd s n w) := by
  obtain ⟨pL, cL, pA, cA, e1, e2⟩ := h.lens
  have HB := Lib.hid (pbarred_any b vL vA s w h)
  have c1 : w.cell? ⟨b, 1, none⟩ = some vL := h.blk.cell 1
  have c3 : w.cell? ⟨b, 3, none⟩ = some vA := h.blk.cell 3
  have c4 : w.cell? ⟨b, 4, none⟩ = some (i64v s.room) := h.blk.cell 4
  rw [e1] at c1
  rw [e2] at c3
  have hsm := h.ok.small
  have hrm := h.ok.room
  by_cases ho : s.out = true
  · have HE := Lib.hid (bad_out (n := n) ho)
    have HB' := Lib.hid (HB.out 11 (show (11 : Int) = readE s from (if_pos ho).symm))
    clear h e1 e2 ho HB
    go_enter Try.func61, Try.ntmps61
    go_wp2_with fail
    refine HB'.out.mono ?_
    rintro e w1 ⟨rfl, rfl⟩
    go_wp2_with fail
    go_ret
    exact ⟨by rw [HE.out]; rfl, 0, rfl⟩
  · have ho' : s.out = false := by simpa using ho
    have HB' := Lib.hid (HB.out 0 (show (0 : Int) = readE s from (if_neg ho).symm))
    obtain ⟨l, hl⟩ : ∃ l, l = s.log.length := ⟨_, rfl⟩
    obtain ⟨m, hm⟩ : ∃ m, m = s.next.length := ⟨_, rfl⟩
    obtain ⟨r, hr⟩ : ∃ r, r = s.room := ⟨_, rfl⟩
    rw [← hl] at c1 hsm
    rw [← hm] at c3 hsm
    rw [← hr] at c4 hrm
    by_cases hf : r < l + m + n
    · have HE := Lib.hid (bad_full (n := n) ho' (by rw [← hl, ← hm, ← hr]; exact hf))
      have hd : decide ((r : Int) < (l : Int) + (m : Int) + (n : Int)) = true := decide_eq_true (by omega)
      clear h e1 e2 ho ho' hl hm hr HB
      go_enter Try.func61, Try.ntmps61
      go_wp2_with fail
      refine HB'.out.mono ?_
      rintro e w1 ⟨rfl, rfl⟩
      go_wp2_with fail
      go_quiet (fail)
      go_wp2_with fail
      go_ret
      exact ⟨by rw [HE.out]; rfl, _, rfl⟩
    · have HE := Lib.hid (show bad s n = 0 from bad_zero.2 ⟨ho', by rw [← hl, ← hm, ← hr]; omega⟩)
      have hd : decide ((r : Int) < (l : Int) + (m : Int) + (n : Int)) = false := decide_eq_false (by omega)
      clear h e1 e2 ho ho' hl hm hr HB
      go_enter Try.func61, Try.ntmps61
      go_wp2_with fail
      refine HB'.out.mono ?_
      rintro e w1 ⟨rfl, rfl⟩
      go_wp2_with fail
      go_quiet (fail)
      go_wp2_with fail
      go_ret
      exact ⟨by rw [HE.out]; rfl, _, rfl⟩
/-- The fuse, one less, or burnt. -/
def burnt (s : DState) : DState := { s with left := if 0 < s.left then s.left - 1 else s.left, out := s.out || decide (s.left = 0) }
theorem burnt_steps (s : DState) : burnt { s with steps := s.steps + 1 } = Dsk.step s := rfl
theorem burnt_ok {s : DState} (h : Ok s) : Ok (burnt s) := ⟨h.firm, h.small, h.room, (step_ok h).left, h.log, h.next⟩
set_option maxRecDepth 100000 in
set_option maxHeartbeats 1000000 in
theorem pburn_any (b : Nat) (vL vA : Value) (s : DState) (w : World) (h : PD w b vL vA s) :
    Calls Try.prog 63 #[optr b] w fun e w' => e = .returned (.tuple #[]) ∧ PD w' b vL vA (burnt s) ∧ Touch [b] w w' := by
  have HR := Lib.hid h
  have HOK := Lib.hid (burnt_ok h.ok)
  have c5 : w.cell? ⟨b, 5, none⟩ = some (i64v s.left) := h.blk.cell 5
  have f5 : w.frozen? ⟨b, 5, none⟩ = false := h.blk.free 5
  have c7 : w.cell? ⟨b, 7, none⟩ = some (.bool s.out) := h.blk.cell 7
  have f7 : w.frozen? ⟨b, 7, none⟩ = false := h.blk.free 7
  have d5 : (w.setCell ⟨b, 7, none⟩ (.bool true)).cell? ⟨b, 5, none⟩ = some (i64v s.left) := (h.blk.set 7 (.bool true)).cell 5
  have hl := h.ok.left
  obtain ⟨lf, hlf⟩ : ∃ lf, lf = s.left := ⟨_, rfl⟩
  have HLF := Lib.hid hlf
  rw [← hlf] at c5 d5 hl
  clear h hlf
  by_cases h0 : lf = 0
  · have t0 : (lf == 0) = true := by rw [beq_iff_eq]; exact h0
    subst h0
    go_enter Try.func63, Try.ntmps63
    go_wp2_with fail
    go_end0
    refine ⟨rfl, HR.out.turn ?_ (fun k hk => Below.heap_setCell _ _ _ _ hk) rfl rfl HOK.out, (Touch.refl _ w).setIn (by simp) _⟩
    have h1 := HR.out.blk.set 7 (.bool true)
    have e1 : (burnt s).left = s.left := by unfold burnt; simp only; rw [← HLF.out]; rfl
    have e2 : (burnt s).out = true := by unfold burnt; simp [← HLF.out]
    unfold pcells
    rw [e1, e2]
    exact h1
  · have t0 : (lf == 0) = false := by rw [beq_eq_false_iff_ne]; exact h0
    have HE2 := Lib.hid (show (burnt s).out = s.out by unfold burnt; simp [← HLF.out, h0])
    by_cases hp : 0 < lf
    · go_enter Try.func63, Try.ntmps63
      go_wp2_with fail
      go_end0
      refine ⟨rfl, HR.out.turn ?_ (fun k hk => Below.heap_setCell _ _ _ _ hk) rfl rfl HOK.out, (Touch.refl _ w).setIn (by simp) _⟩
      have h1 := HR.out.blk.set 5 (.int .i64 (lf - 1))
      have e1 : (burnt s).left = lf - 1 := by unfold burnt; simp only; rw [← HLF.out, if_pos hp]
      unfold pcells
      rw [HE2.out, e1]
      exact h1
    · have HE1 := Lib.hid (show (burnt s).left = s.left by unfold burnt; simp only; rw [← HLF.out, if_neg hp])
      go_enter Try.func63, Try.ntmps63
      go_wp2_with fail
      go_end0
      refine ⟨rfl, HR.out.turn ?_ (fun k hk => rfl) rfl rfl HOK.out, Touch.refl _ w⟩
      have h1 := HR.out.blk
      unfold pcells at h1 ⊢
      rw [HE2.out, HE1.out]
      exact h1
end
section
set_option linter.unusedSimpArgs false
set_option linter.unusedVariables false
open Go.RowKit Sha Dsk
/-- Bytes laid behind a row that a cell of an object holds. -/
def PLayDone (g i : Nat) (v : Value) (l : Nat) (xs news : List Value) (w : World) (e : Ending) (w' : World) : Prop :=
  e = .returned (.tuple #[]) ∧ ∃ v5 w5, w5.ownsRow 0 5 1 v5 (l + news.length) (xs ++ news) ∧ w.grownBy w5 v.ownBlock ∧ (∀ g, v5.ownBlock = some g → v.ownBlock = some g ∨ w.heap.size ≤ g) ∧ w' = w5.setCell ⟨g, i, none⟩ v5
set_option maxRecDepth 100000 in
set_option maxHeartbeats 1000000 in
theorem play_any (g i : Nat) (cs : List Value) (T : TypeId) (v : Value) (l : Nat) (xs : List Value) (zs : List Int) (n : Nat) (p : Option Addr) (cap : Nat) (bo : Bool) (w : World)
    (hb : Blk w g cs T) (hi : cs[i]? = some v) (ho : w.ownsRow 0 5 1 v l xs) (hl : l ≤ 1000000) (hg : v.ownBlock ≠ some g) (hn : zs.length = n) (hm : n ≤ 1000000000) (hA : At w p (zs.map v8)) (hc : n ≤ cap) (hp : p = none → cap = 0) :
    Calls Try.prog 62 #[.pointer (some ⟨g, i, none⟩), .slice p n cap, .bool bo] w (PLayDone g i v l xs (zs.map v8) w) := by
  have HB := Lib.hid hb
  have HO := Lib.hid ho
  have HN := Lib.hid hn
  have HA := Lib.hid hA
  have HP := Lib.hid hp
  have HG := Lib.hid hg
  have HI := Lib.hid hi
  have c1 : w.cell? ⟨g, i, none⟩ = some v := (hb.cell i).trans hi
  have HLT := Lib.hid hb.lt
  obtain ⟨pL, cL, e1, _⟩ := own_at ho
  have HV := Lib.hid e1
  clear hb ho hn hA hp hg hi e1
  go_enter Try.func62, Try.ntmps62
  go_wp2_with (at_builtin; refine wpList_app_at rfl (.tmp 10) (.tmp 11) 22 rfl 0 5 Try.underlying22 kbyte_info rfl v l xs rfl HO.out p n cap (zs.map v8) rfl HA.out (by rw [List.length_map]; exact HN.out) HP.out hc (kone8 _) (by omega) (by unfold maxLen; omega) (Nat.zero_le _) ?_; intro v5 w5 hown5 hg5 hp5; obtain ⟨p5, d5, rfl, _, _, _, _, _⟩ := own_at hown5; have O5 := Lib.hid hown5; have G5 := Lib.hid hg5; have P5 := Lib.hid hp5; have b5 : Blk w5 g cs T := (hg5.block g HLT.out fun e => HG.out e.symm).trans HB.out; have c5 : w5.cell? ⟨g, i, none⟩ = some v := (b5.cell i).trans HI.out; have f5 : w5.frozen? ⟨g, i, none⟩ = false := b5.free i; clear hown5 hg5 hp5 b5)
  go_end0
  exact ⟨rfl, _, _, by rw [List.length_map, HN.out]; exact O5.out, G5.out, P5.out, rfl⟩
/-- Bytes behind the log, in whatever room. -/
theorem PD.growL {w w5 : World} {b : Nat} {vL vA v5 : Value} {s : DState} {zs : List Int} (h : PD w b vL vA s) {m : Nat} (hm : m = s.log.length + zs.length) (ho : w5.ownsRow 0 5 1 v5 m (s.log.map v8 ++ zs.map v8)) (hg : w.grownBy w5 vL.ownBlock) (hp : ∀ g, v5.ownBlock = some g → vL.ownBlock = some g ∨ w.heap.size ≤ g) (hk : Ok { s with log := s.log ++ zs }) :
    PD (w5.setCell ⟨b, 1, none⟩ v5) b v5 vA { s with log := s.log ++ zs } ∧ Touch (fpP b vL vA) w (w5.setCell ⟨b, 1, none⟩ v5) ∧ From (fpP b vL vA) (fpP b v5 vA) w := by
  have hbl := h.blk.lt
  have hb5 : Blk w5 b (pcells b vL vA s) 45 := (hg.block b hbl fun e => h.nL e.symm).trans h.blk
  have n5 : v5.ownBlock ≠ some b := fun e => by
    rcases hp b e with h' | h'
    · exact h.nL h'
    · omega
  refine ⟨⟨hb5.set 1 v5, ?_, ?_, hk, n5, h.nA, ?_⟩, ?_, ?_⟩
  · have h1 : w5.ownsRow 0 5 1 v5 (s.log ++ zs).length ((s.log ++ zs).map v8) := by rw [List.length_append, List.map_append, ← hm]; exact ho
    exact row_blocks8 h1 fun g e => Below.heap_setCell _ _ _ _ fun e' => n5 (by rw [e]; exact congrArg some e')
  · exact row_blocks8 h.next fun g e => (Below.heap_setCell _ _ _ _ (fun e' => h.nA (by rw [e]; exact congrArg some e'))).trans (hg.block g (h.next.lt g e).2 fun e' => h.ap g e'.symm e)
  · intro g e e'
    rcases hp g e with h' | h'
    · exact h.ap g h' e'
    · have := (h.next.lt g e').2; omega
  · have ht : Touch (fpP b vL vA) w w5 := ⟨hg.os, hg.tape, hg.output, hg.size, fun k hk hn => hg.block k hk fun e => hn (fpP_mem.2 (.inr (.inl e.symm)))⟩
    exact ht.setIn (fpP_mem.2 (.inl rfl)) _
  · intro k hk
    rcases fpP_mem.1 hk with rfl | hk | hk
    · exact .inl (fpP_mem.2 (.inl rfl))
    · rcases hp k hk with h' | h'
      · exact .inl (fpP_mem.2 (.inr (.inl h')))
      · exact .inr h'
    · exact .inl (fpP_mem.2 (.inr (.inr hk)))
theorem PD.growN {w w5 : World} {b : Nat} {vL vA v5 : Value} {s : DState} {zs : List Int} (h : PD w b vL vA s) {m : Nat} (hm : m = s.next.length + zs.length) (ho : w5.ownsRow 0 5 1 v5 m (s.next.map v8 ++ zs.map v8)) (hg : w.grownBy w5 vA.ownBlock) (hp : ∀ g, v5.ownBlock = some g → vA.ownBlock = some g ∨ w.heap.size ≤ g) (hk : Ok { s with next := s.next ++ zs }) :
    PD (w5.setCell ⟨b, 3, none⟩ v5) b vL v5 { s with next := s.next ++ zs } ∧ Touch (fpP b vL vA) w (w5.setCell ⟨b, 3, none⟩ v5) ∧ From (fpP b vL vA) (fpP b vL v5) w := by
  have hbl := h.blk.lt
  have hb5 : Blk w5 b (pcells b vL vA s) 45 := (hg.block b hbl fun e => h.nA e.symm).trans h.blk
  have n5 : v5.ownBlock ≠ some b := fun e => by
    rcases hp b e with h' | h'
    · exact h.nA h'
    · omega
  refine ⟨⟨hb5.set 3 v5, ?_, ?_, hk, h.nL, n5, ?_⟩, ?_, ?_⟩
  · exact row_blocks8 h.log fun g e => (Below.heap_setCell _ _ _ _ (fun e' => h.nL (by rw [e]; exact congrArg some e'))).trans (hg.block g (h.log.lt g e).2 fun e' => h.ap g e e'.symm)
  · have h1 : w5.ownsRow 0 5 1 v5 (s.next ++ zs).length ((s.next ++ zs).map v8) := by rw [List.length_append, List.map_append, ← hm]; exact ho
    exact row_blocks8 h1 fun g e => Below.heap_setCell _ _ _ _ fun e' => n5 (by rw [e]; exact congrArg some e')
  · intro g e e'
    rcases hp g e' with h' | h'
    · exact h.ap g e h'
    · have := (h.log.lt g e).2; omega
  · have ht : Touch (fpP b vL vA) w w5 := ⟨hg.os, hg.tape, hg.output, hg.size, fun k hk hn => hg.block k hk fun e => hn (fpP_mem.2 (.inr (.inr e.symm)))⟩
    exact ht.setIn (fpP_mem.2 (.inl rfl)) _
  · intro k hk
    rcases fpP_mem.1 hk with rfl | hk | hk
    · exact .inl (fpP_mem.2 (.inl rfl))
    · exact .inl (fpP_mem.2 (.inr (.inl hk)))
    · rcases hp k hk with h' | h'
      · exact .inl (fpP_mem.2 (.inr (.inr h')))
      · exact .inr h'
/-- What is done in a step, on the disk that the step has counted. -/
def DoDone (b : Nat) (fp : List Nat) (s2 : DState) (w : World) (e : Ending) (w' : World) : Prop := ODone ProgDisk b fp s2 (.tuple #[]) w e w'
theorem told_out {s : DState} (ho : s.out = false) : told s = if (Dsk.step s).out = true then 11 else 0 := by
  unfold told Dsk.step
  by_cases h : s.left = 0 <;> simp [ho, h]
set_option maxRecDepth 100000 in
set_option maxHeartbeats 1000000 in
/-- A step, whatever is handed to it. -/
theorem pstep_any (F : Nat) (eg : ∀ args w, (callFunc F args).run Try.prog w = .ok (.enter F args) w) (rv bv : Value) (b : Nat) (vL vA : Value) (s s2 : DState) (w : World) (h : PD w b vL vA s) (hs : s.steps ≤ 1000000000) (hout : s.out = false) (h2 : s2.out = (Dsk.step s).out)
    (hdo : ∀ w2, PD w2 b vL vA (Dsk.step s) → Touch [b] w w2 → Calls Try.prog F #[rv, bv, .bool (Dsk.step s).out] w2 (DoDone b (fpP b vL vA) s2 w2)) :
    Calls Try.prog 49 #[optr b, .func (.func F) #[rv] #[], bv] w (ODone ProgDisk b (fpP b vL vA) s2 (i64v (told s)) w) := by
  have HR := Lib.hid h
  have c6 : w.cell? ⟨b, 6, none⟩ = some (i64v s.steps) := h.blk.cell 6
  have f6 : w.frozen? ⟨b, 6, none⟩ = false := h.blk.free 6
  have HP1 := Lib.hid (show PD (w.setCell ⟨b, 6, none⟩ (.int .i64 ((s.steps : Int) + 1))) b vL vA { s with steps := s.steps + 1 } from h.turn (h.blk.set 6 _) (fun k hk => Below.heap_setCell _ _ _ _ hk) rfl rfl ⟨h.ok.firm, h.ok.small, h.ok.room, h.ok.left, h.ok.log, h.ok.next⟩)
  have HT1 := Lib.hid (show Touch [b] w (w.setCell ⟨b, 6, none⟩ (.int .i64 ((s.steps : Int) + 1))) from Touch.setCell (by simp))
  have HDO := Lib.hid hdo
  have HH2 := Lib.hid h2
  have HTO := Lib.hid (told_out hout)
  obtain ⟨st, hst⟩ : ∃ st, st = s.steps := ⟨_, rfl⟩
  have HST := Lib.hid hst
  rw [← hst] at c6 hs HP1 HT1
  clear h hout h2 hdo hst
  go_enter Try.func49, Try.ntmps49
  go_wp2_with fail
  refine (pburn_any b vL vA _ _ HP1.out).mono ?_
  rintro e w2 ⟨rfl, hp2, ht2⟩
  have hp2' : PD w2 b vL vA (Dsk.step s) := by rw [HST.out] at hp2; exact hp2
  have HP2 := Lib.hid hp2'
  have HT2 := Lib.hid (HT1.out.trans ht2 (From.refl _ _))
  have d7 : w2.cell? ⟨b, 7, none⟩ = some (.bool (Dsk.step s).out) := hp2'.blk.cell 7
  clear hp2 hp2' ht2
  go_wp2_with fail
  refine (HDO.out w2 HP2.out HT2.out).mono ?_
  rintro e w3 ⟨rfl, fp3, ⟨vL3, vA3, rfl, hp3⟩, ht3, hf3⟩
  have HP3 := Lib.hid hp3
  have e7 : w3.cell? ⟨b, 7, none⟩ = some (.bool s2.out) := hp3.blk.cell 7
  rw [HH2.out] at e7
  have HT3 := Lib.hid ((Touch.of_blockP (vL := vL) (vA := vA) HT2.out).trans ht3 (From.refl _ _))
  have HF3 := Lib.hid (show From (fpP b vL vA) (fpP b vL3 vA3) w from fun k hk => by rcases hf3 k hk with h' | h'; exact .inl h'; exact .inr (Nat.le_trans HT2.out.size h'))
  clear hp3 ht3 hf3
  generalize (Dsk.step s).out = bo at *
  cases bo with
  | true =>
    go_wp2_with fail
    go_ret
    exact ⟨by rw [HTO.out]; rfl, _, ⟨_, _, rfl, HP3.out⟩, HT3.out, HF3.out⟩
  | false =>
    go_wp2_with fail
    go_ret
    exact ⟨by rw [HTO.out]; rfl, _, ⟨_, _, rfl, HP3.out⟩, HT3.out, HF3.out⟩
end
section
set_option linter.unusedSimpArgs false
set_option linter.unusedVariables false
open Go.RowKit Sha Dsk
set_option maxHeartbeats 1000000 in
theorem pfirmLog_any (p : Option Addr) (n c : Nat) (w : World) :
    Calls Try.prog 64 #[.slice p n c] w fun e w' => e = .returned (.agg #[.slice p n c, i64v n]) ∧ Below w.heap.size w w' := by
  go_enter Try.func64, Try.ntmps64
  go_wp2_with fail
  have hszr : (Try.prog.info? 41).map (fun i => i.size) = some 2 := by kernel_rfl
  have hz := Blk.new w #[Value.slice p n c, Value.int IntKind.i64 n] 41
  refine bodyPost_ret (v := .agg #[.slice p n c, i64v n]) (results_cell_row rfl _ _ _ _ _ _ _ rfl hz (Try.underlying41) rfl hszr) rfl ?_
  exact ⟨rfl, (Below.refl _ w).alloc (Nat.le_refl _) _⟩
set_option maxRecDepth 100000 in
set_option maxHeartbeats 1000000 in
theorem psync_do (b : Nat) (vL vA : Value) (s : DState) (bo : Bool) (w : World) (h : PD w b vL vA s) (hb : bo = s.out) (rv : Value) (hr : rv = .slice none 0 0) :
    Calls Try.prog 50 #[.pointer (some ⟨b, 1, none⟩), rv, .bool bo] w (DoDone b (fpP b vL vA) (if bo = true then s else { s with firm := s.log.length }) w) := by
  subst hr
  clear hb
  have HR := Lib.hid h
  cases bo with
  | true =>
    go_enter Try.func50, Try.ntmps50
    go_wp2_with fail
    go_end0
    exact ⟨rfl, _, ⟨vL, vA, rfl, HR.out⟩, Touch.refl _ _, From.refl _ _⟩
  | false =>
    obtain ⟨pL, cL, pA, cA, e1, e2⟩ := h.lens
    have c1 : w.cell? ⟨b, 1, none⟩ = some vL := h.blk.cell 1
    have c2 : w.cell? ⟨b, 2, none⟩ = some (i64v s.firm) := h.blk.cell 2
    have f2 : w.frozen? ⟨b, 2, none⟩ = false := h.blk.free 2
    rw [e1] at c1
    clear h e1 e2
    go_enter Try.func50, Try.ntmps50
    go_wp2_with fail
    go_end0
    refine ⟨rfl, _, ⟨vL, vA, rfl, ?_⟩, (Touch.refl _ w).setIn (fpP_mem.2 (.inl rfl)) _, From.refl _ _⟩
    exact HR.out.turn (HR.out.blk.set 2 _) (fun k hk => Below.heap_setCell _ _ _ _ hk) rfl rfl ⟨Nat.le_refl _, HR.out.ok.small, HR.out.ok.room, HR.out.ok.left, HR.out.ok.log, HR.out.ok.next⟩
set_option maxRecDepth 100000 in
set_option maxHeartbeats 1000000 in
theorem pturn_do (b : Nat) (vL vA : Value) (s : DState) (bo : Bool) (w : World) (h : PD w b vL vA s) (hb : bo = s.out) (rv : Value) (hr : rv = .slice none 0 0) :
    Calls Try.prog 52 #[optr b, rv, .bool bo] w (DoDone b (fpP b vL vA) (if bo = true then s else { s with log := s.next, firm := s.next.length, next := [] }) w) := by
  subst hr
  clear hb
  have HR := Lib.hid h
  cases bo with
  | true =>
    go_enter Try.func52, Try.ntmps52
    go_wp2_with fail
    go_end0
    exact ⟨rfl, _, ⟨vL, vA, rfl, HR.out⟩, Touch.refl _ _, From.refl _ _⟩
  | false =>
    obtain ⟨pL, cL, pA, cA, e1, e2⟩ := h.lens
    have c3 : w.cell? ⟨b, 3, none⟩ = some vA := h.blk.cell 3
    rw [e2] at c3
    have HV := Lib.hid e2
    clear h e1 e2
    go_enter Try.func52, Try.ntmps52
    go_wp2_with fail
    refine (pfirmLog_any _ _ _ _).mono ?_
    rintro e w1 ⟨rfl, hb1⟩
    have B1 := Lib.hid hb1
    have hbk := HR.out.blk.below hb1 HR.out.blk.lt
    have d1 : w1.cell? ⟨b, 1, none⟩ = some vL := hbk.cell 1
    have d2 : w1.cell? ⟨b, 2, none⟩ = some (i64v s.firm) := hbk.cell 2
    have d3 : w1.cell? ⟨b, 3, none⟩ = some vA := hbk.cell 3
    have f1 : w1.frozen? ⟨b, 1, none⟩ = false := hbk.free 1
    have f2 : w1.frozen? ⟨b, 2, none⟩ = false := hbk.free 2
    have f3 : w1.frozen? ⟨b, 3, none⟩ = false := hbk.free 3
    clear hb1 hbk
    go_wp2_with fail
    go_end0
    have hbk := ((((HR.out.blk.below B1.out HR.out.blk.lt).set 1 vA).set 2 (i64v s.next.length)).set 3 (.slice none 0 0))
    have hk : ∀ k, k ≠ b → (((w1.setCell ⟨b, 1, none⟩ vA).setCell ⟨b, 2, none⟩ (i64v s.next.length)).setCell ⟨b, 3, none⟩ (.slice none 0 0)).heap[k]? = w1.heap[k]? := fun k hk => ((Below.heap_setCell _ _ _ _ hk).trans (Below.heap_setCell _ _ _ _ hk)).trans (Below.heap_setCell _ _ _ _ hk)
    have hT : Touch (fpP b vL vA) w _ := ((((Touch.of_below B1.out).setIn (g := b) (i := 1) (fpP_mem.2 (.inl rfl)) vA).setIn (g := b) (i := 2) (fpP_mem.2 (.inl rfl)) (i64v s.next.length)).setIn (g := b) (i := 3) (fpP_mem.2 (.inl rfl)) (.slice none 0 0))
    have hsm := HR.out.ok.small
    rw [← HV.out]
    refine ⟨rfl, fpP b vA (.slice none 0 0), ⟨vA, .slice none 0 0, rfl, hbk, ?_, World.ownsRow_nil _ _ _ _, ⟨Nat.le_refl _, by simp only [List.length_nil]; omega, HR.out.ok.room, HR.out.ok.left, HR.out.ok.next, by simp⟩, HR.out.nA, by simp [Value.ownBlock], by simp [Value.ownBlock]⟩, hT, fun k hk' => ?_⟩
    · exact row_blocks8 HR.out.next fun g hg => (hk g fun e => HR.out.nA (by rw [hg, e])).trans (B1.out.block g (HR.out.next.lt g hg).2)
    · rcases fpP_mem.1 hk' with rfl | h' | h'
      · exact .inl (fpP_mem.2 (.inl rfl))
      · exact .inl (fpP_mem.2 (.inr (.inr h')))
      · cases h'
end
end Go.Proofs.Ythopfpfmliookaa
