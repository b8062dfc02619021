/-
  The program's disks: what steps do.
-/
import Derived.Test.YtooljhdfmfkpeaaDkZa
namespace Go.Proofs.Ytooljhdfmfkpeaa
set_option linter.unusedSimpArgs false
set_option linter.unusedVariables false
open Go.RowKit Sha Dsk
/-- Bytes laid behind a row that a cell of an object holds. -/
def LayDone (g i : Nat) (v : Value) (l : Nat) (xs news : List Value) (w : World) (e : Ending) (w' : World) : Prop :=
  e = .returned (.tuple #[]) ∧ ∃ v5 w5, w5.ownsRow 0 5 1 v5 (l + news.length) (xs ++ news) ∧ w.grownBy w5 v.ownBlock ∧ (∀ g, v5.ownBlock = some g → v.ownBlock = some g ∨ w.heap.size ≤ g) ∧ w' = w5.setCell ⟨g, i, none⟩ v5
set_option maxRecDepth 100000 in
set_option maxHeartbeats 1000000 in
theorem play_any (g i : Nat) (cs : List Value) (T : TypeId) (v : Value) (l : Nat) (xs : List Value) (zs : List Int) (n : Nat) (p : Option Addr) (cap : Nat) (bo : Bool) (w : World)
    (hb : Blk w g cs T) (hi : cs[i]? = some v) (ho : w.ownsRow 0 5 1 v l xs) (hl : l ≤ 1000000) (hg : v.ownBlock ≠ some g) (hn : zs.length = n) (hm : n ≤ 1000000000) (hA : At w p (zs.map v8)) (hc : n ≤ cap) (hp : p = none → cap = 0) :
    Calls Try.prog 54 #[.pointer (some ⟨g, i, none⟩), .slice p n cap, .bool bo] w (LayDone g i v l xs (zs.map v8) w) := by
  have HB := Lib.hid hb
  have HO := Lib.hid ho
  have HN := Lib.hid hn
  have HA := Lib.hid hA
  have HP := Lib.hid hp
  have HG := Lib.hid hg
  have HI := Lib.hid hi
  have c1 : w.cell? ⟨g, i, none⟩ = some v := (hb.cell i).trans hi
  have HLT := Lib.hid hb.lt
  obtain ⟨pL, cL, e1, _⟩ := own_at ho
  have HV := Lib.hid e1
  clear hb ho hn hA hp hg hi e1
  go_enter Try.func54, Try.ntmps54
  go_wp2_with (at_builtin; refine wpList_app_at rfl (.tmp 10) (.tmp 11) 32 rfl 0 5 Try.underlying32 kbyte_info rfl v l xs rfl HO.out p n cap (zs.map v8) rfl HA.out (by rw [List.length_map]; exact HN.out) HP.out hc (kone8 _) (by omega) (by unfold maxLen; omega) (Nat.zero_le _) ?_; intro v5 w5 hown5 hg5 hp5; obtain ⟨p5, d5, rfl, _, _, _, _, _⟩ := own_at hown5; have O5 := Lib.hid hown5; have G5 := Lib.hid hg5; have P5 := Lib.hid hp5; have b5 : Blk w5 g cs T := (hg5.block g HLT.out fun e => HG.out e.symm).trans HB.out; have c5 : w5.cell? ⟨g, i, none⟩ = some v := (b5.cell i).trans HI.out; have f5 : w5.frozen? ⟨g, i, none⟩ = false := b5.free i; clear hown5 hg5 hp5 b5)
  go_end0
  exact ⟨rfl, _, _, by rw [List.length_map, HN.out]; exact O5.out, G5.out, P5.out, rfl⟩
/-- Bytes behind the log, in whatever room. -/
theorem PD.growL {w w5 : World} {b : Nat} {vL vA v5 : Value} {s : DState} {zs : List Int} (h : PD w b vL vA s) {m : Nat} (hm : m = s.log.length + zs.length) (ho : w5.ownsRow 0 5 1 v5 m (s.log.map v8 ++ zs.map v8)) (hg : w.grownBy w5 vL.ownBlock) (hp : ∀ g, v5.ownBlock = some g → vL.ownBlock = some g ∨ w.heap.size ≤ g) (hk : Ok { s with log := s.log ++ zs }) :
    PD (w5.setCell ⟨b, 1, none⟩ v5) b v5 vA { s with log := s.log ++ zs } ∧ Touch (fpP b vL vA) w (w5.setCell ⟨b, 1, none⟩ v5) ∧ From (fpP b vL vA) (fpP b v5 vA) w := by
  have hbl := h.blk.lt
  have hb5 : Blk w5 b (pcells b vL vA s) 47 := (hg.block b hbl fun e => h.nL e.symm).trans h.blk
  have n5 : v5.ownBlock ≠ some b := fun e => by
    rcases hp b e with h' | h'
    · exact h.nL h'
    · omega
  refine ⟨⟨hb5.set 1 v5, ?_, ?_, hk, n5, h.nA, ?_⟩, ?_, ?_⟩
  · have h1 : w5.ownsRow 0 5 1 v5 (s.log ++ zs).length ((s.log ++ zs).map v8) := by rw [List.length_append, List.map_append, ← hm]; exact ho
    exact row_blocks8 h1 fun g e => Below.heap_setCell _ _ _ _ fun e' => n5 (by rw [e]; exact congrArg some e')
  · exact row_blocks8 h.next fun g e => (Below.heap_setCell _ _ _ _ (fun e' => h.nA (by rw [e]; exact congrArg some e'))).trans (hg.block g (h.next.lt g e).2 fun e' => h.ap g e'.symm e)
  · intro g e e'
    rcases hp g e with h' | h'
    · exact h.ap g h' e'
    · have := (h.next.lt g e').2; omega
  · have ht : Touch (fpP b vL vA) w w5 := ⟨hg.os, hg.tape, hg.output, hg.size, fun k hk hn => hg.block k hk fun e => hn (fpP_mem.2 (.inr (.inl e.symm)))⟩
    exact ht.setIn (fpP_mem.2 (.inl rfl)) _
  · intro k hk
    rcases fpP_mem.1 hk with rfl | hk | hk
    · exact .inl (fpP_mem.2 (.inl rfl))
    · rcases hp k hk with h' | h'
      · exact .inl (fpP_mem.2 (.inr (.inl h')))
      · exact .inr h'
    · exact .inl (fpP_mem.2 (.inr (.inr hk)))
theorem PD.growN {w w5 : World} {b : Nat} {vL vA v5 : Value} {s : DState} {zs : List Int} (h : PD w b vL vA s) {m : Nat} (hm : m = s.next.length + zs.length) (ho : w5.ownsRow 0 5 1 v5 m (s.next.map v8 ++ zs.map v8)) (hg : w.grownBy w5 vA.ownBlock) (hp : ∀ g, v5.ownBlock = some g → vA.ownBlock = some g ∨ w.heap.size ≤ g) (hk : Ok { s with next := s.next ++ zs }) :
    PD (w5.setCell ⟨b, 3, none⟩ v5) b vL v5 { s with next := s.next ++ zs } ∧ Touch (fpP b vL vA) w (w5.setCell ⟨b, 3, none⟩ v5) ∧ From (fpP b vL vA) (fpP b vL v5) w := by
  have hbl := h.blk.lt
  have hb5 : Blk w5 b (pcells b vL vA s) 47 := (hg.block b hbl fun e => h.nA e.symm).trans h.blk
  have n5 : v5.ownBlock ≠ some b := fun e => by
    rcases hp b e with h' | h'
    · exact h.nA h'
    · omega
  refine ⟨⟨hb5.set 3 v5, ?_, ?_, hk, h.nL, n5, ?_⟩, ?_, ?_⟩
  · exact row_blocks8 h.log fun g e => (Below.heap_setCell _ _ _ _ (fun e' => h.nL (by rw [e]; exact congrArg some e'))).trans (hg.block g (h.log.lt g e).2 fun e' => h.ap g e e'.symm)
  · have h1 : w5.ownsRow 0 5 1 v5 (s.next ++ zs).length ((s.next ++ zs).map v8) := by rw [List.length_append, List.map_append, ← hm]; exact ho
    exact row_blocks8 h1 fun g e => Below.heap_setCell _ _ _ _ fun e' => n5 (by rw [e]; exact congrArg some e')
  · intro g e e'
    rcases hp g e' with h' | h'
    · exact h.ap g e h'
    · have := (h.log.lt g e).2; omega
  · have ht : Touch (fpP b vL vA) w w5 := ⟨hg.os, hg.tape, hg.output, hg.size, fun k hk hn => hg.block k hk fun e => hn (fpP_mem.2 (.inr (.inr e.symm)))⟩
    exact ht.setIn (fpP_mem.2 (.inl rfl)) _
  · intro k hk
    rcases fpP_mem.1 hk with rfl | hk | hk
    · exact .inl (fpP_mem.2 (.inl rfl))
    · exact .inl (fpP_mem.2 (.inr (.inl hk)))
    · rcases hp k hk with h' | h'
      · exact .inl (fpP_mem.2 (.inr (.inr h')))
      · exact .inr h'
/-- What is done in a step, on the disk that the step has counted. -/
def DoDone (b : Nat) (fp : List Nat) (s2 : DState) (w : World) (e : Ending) (w' : World) : Prop := ODone ProgDisk b fp s2 (.tuple #[]) w e w'
theorem told_out {s : DState} (ho : s.out = false) : told s = if (Dsk.step s).out = true then 11 else 0 := by
  unfold told Dsk.step
  by_cases h : s.left = 0 <;> simp [ho, h]
set_option maxRecDepth 100000 in
set_option maxHeartbeats 1000000 in
/-- A step, whatever is handed to it. -/
theorem pstep_any (F : Nat) (eg : ∀ args w, (callFunc F args).run Try.prog w = .ok (.enter F args) w) (rv bv : Value) (b : Nat) (vL vA : Value) (s s2 : DState) (w : World) (h : PD w b vL vA s) (hs : s.steps ≤ 1000000000) (hout : s.out = false) (h2 : s2.out = (Dsk.step s).out)
    (hdo : ∀ w2, PD w2 b vL vA (Dsk.step s) → Touch [b] w w2 → Calls Try.prog F #[rv, bv, .bool (Dsk.step s).out] w2 (DoDone b (fpP b vL vA) s2 w2)) :
    Calls Try.prog 53 #[optr b, .func (.func F) #[rv] #[], bv] w (ODone ProgDisk b (fpP b vL vA) s2 (i64v (told s)) w) := by
  have HR := Lib.hid h
  have c6 : w.cell? ⟨b, 6, none⟩ = some (i64v s.steps) := h.blk.cell 6
  have f6 : w.frozen? ⟨b, 6, none⟩ = false := h.blk.free 6
  have HP1 := Lib.hid (show PD (w.setCell ⟨b, 6, none⟩ (.int .i64 ((s.steps : Int) + 1))) b vL vA { s with steps := s.steps + 1 } from h.turn (h.blk.set 6 _) (fun k hk => Below.heap_setCell _ _ _ _ hk) rfl rfl ⟨h.ok.firm, h.ok.small, h.ok.room, h.ok.left, h.ok.log, h.ok.next⟩)
  have HT1 := Lib.hid (show Touch [b] w (w.setCell ⟨b, 6, none⟩ (.int .i64 ((s.steps : Int) + 1))) from Touch.setCell (by simp))
  have HDO := Lib.hid hdo
  have HH2 := Lib.hid h2
  have HTO := Lib.hid (told_out hout)
  obtain ⟨st, hst⟩ : ∃ st, st = s.steps := ⟨_, rfl⟩
  have HST := Lib.hid hst
  rw [← hst] at c6 hs HP1 HT1
  clear h hout h2 hdo hst
  go_enter Try.func53, Try.ntmps53
  go_wp2_with fail
  refine (pburn_any b vL vA _ _ HP1.out).mono ?_
  rintro e w2 ⟨rfl, hp2, ht2⟩
  have hp2' : PD w2 b vL vA (Dsk.step s) := by rw [HST.out] at hp2; exact hp2
  have HP2 := Lib.hid hp2'
  have HT2 := Lib.hid (HT1.out.trans ht2 (From.refl _ _))
  have d7 : w2.cell? ⟨b, 7, none⟩ = some (.bool (Dsk.step s).out) := hp2'.blk.cell 7
  clear hp2 hp2' ht2
  go_wp2_with fail
  refine (HDO.out w2 HP2.out HT2.out).mono ?_
  rintro e w3 ⟨rfl, fp3, ⟨vL3, vA3, rfl, hp3⟩, ht3, hf3⟩
  have HP3 := Lib.hid hp3
  have e7 : w3.cell? ⟨b, 7, none⟩ = some (.bool s2.out) := hp3.blk.cell 7
  rw [HH2.out] at e7
  have HT3 := Lib.hid ((Touch.of_blockP (vL := vL) (vA := vA) HT2.out).trans ht3 (From.refl _ _))
  have HF3 := Lib.hid (show From (fpP b vL vA) (fpP b vL3 vA3) w from fun k hk => by rcases hf3 k hk with h' | h'; exact .inl h'; exact .inr (Nat.le_trans HT2.out.size h'))
  clear hp3 ht3 hf3
  generalize (Dsk.step s).out = bo at *
  cases bo with
  | true =>
    go_wp2_with fail
    go_ret
    exact ⟨by rw [HTO.out]; rfl, _, ⟨_, _, rfl, HP3.out⟩, HT3.out, HF3.out⟩
  | false =>
    go_wp2_with fail
    go_ret
    exact ⟨by rw [HTO.out]; rfl, _, ⟨_, _, rfl, HP3.out⟩, HT3.out, HF3.out⟩
end Go.Proofs.Ytooljhdfmfkpeaa
