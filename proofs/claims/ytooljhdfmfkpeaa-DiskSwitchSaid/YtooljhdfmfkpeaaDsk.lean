/-
  A disk, plain: its log, what is firm, the next area, what a call does to it. No program is named here.
-/
namespace Go.Proofs.Ytooljhdfmfkpeaa
set_option linter.unusedSimpArgs false
set_option linter.unusedVariables false
namespace Dsk
structure DState where
  log : List Int
  firm : Nat
  next : List Int
  room : Nat
  steps : Nat
  left : Int
  out : Bool
def fresh (room : Nat) : DState := ⟨[], 0, [], room, 0, -1, false⟩
def IsByte (n : Int) : Prop := 0 ≤ n ∧ n ≤ 255
structure Ok (s : DState) : Prop where
  firm : s.firm ≤ s.log.length
  small : s.log.length + s.next.length ≤ 1000000
  room : s.room ≤ 1000000
  left : -1 ≤ s.left ∧ s.left ≤ 9223372036854775807
  log : ∀ n ∈ s.log, IsByte n
  next : ∀ n ∈ s.next, IsByte n
def newE (n : Int) : Int := if 0 ≤ n ∧ n ≤ 1000000 then 0 else 2
theorem newE_in {n : Int} (h : 0 ≤ n ∧ n ≤ 1000000) : newE n = 0 := if_pos h
theorem newE_out {n : Int} (h : n < 0 ∨ 1000000 < n) : newE n = 2 := if_neg (by omega)
/-- Why n bytes are not laid. -/
def bad (s : DState) (n : Nat) : Int := if s.out = true then 11 else if s.room < s.log.length + s.next.length + n then 8 else 0
def told (s : DState) : Int := if s.left = 0 then 11 else 0
def step (s : DState) : DState := { s with steps := s.steps + 1, left := if 0 < s.left then s.left - 1 else s.left, out := s.out || decide (s.left = 0) }
def appE (s : DState) (n : Nat) : Int := if bad s n = 0 then told s else bad s n
def appS (s : DState) (b : List Int) : DState := if bad s b.length = 0 then { step s with log := s.log ++ b } else s
def nextS (s : DState) (b : List Int) : DState := if bad s b.length = 0 then { step s with next := s.next ++ b } else s
def syncE (s : DState) : Int := if s.out = true then 11 else told s
def syncS (s : DState) : DState := if s.out = true then s else if s.left = 0 then step s else { step s with firm := s.log.length }
def swS (s : DState) : DState := if s.out = true then s else if s.left = 0 then step s else { step s with log := s.next, firm := s.next.length, next := [] }
def readE (s : DState) : Int := if s.out = true then 11 else 0
def readV (s : DState) : List Int := if s.out = true then [] else s.log
def roomE (n : Int) : Int := newE n
def roomS (s : DState) (n : Int) : DState := if 0 ≤ n ∧ n ≤ 1000000 then { s with room := n.toNat } else s
def fuseE (n : Int) : Int := if n < 0 then 2 else 0
def fuseS (s : DState) (n : Int) : DState := if n < 0 then s else { s with left := n }
def crashE (n : Int) : Int := if n < 0 then 2 else 0
def cut (s : DState) (n : Nat) : List Int := s.log.take (s.firm + n)
def crashS (s : DState) (n : Int) : DState := if n < 0 then s else { s with log := cut s n.toNat, firm := (cut s n.toNat).length, next := [], left := -1, out := false }
def wipeS (s : DState) : DState := { s with log := [], firm := 0, next := [], left := -1, out := false }
theorem fresh_ok {n : Nat} (h : n ≤ 1000000) : Ok (fresh n) := ⟨by simp [fresh], by simp [fresh], h, by simp [fresh], by simp [fresh], by simp [fresh]⟩
theorem step_ok {s : DState} (h : Ok s) : Ok (step s) := by
  refine ⟨h.firm, h.small, h.room, ?_, h.log, h.next⟩
  have := h.left
  unfold step; simp only
  split <;> omega
theorem bad_zero {s : DState} {n : Nat} : bad s n = 0 ↔ s.out = false ∧ s.log.length + s.next.length + n ≤ s.room := by
  unfold bad
  split
  · rename_i h; simp [h]
  · rename_i h
    split
    · constructor
      · intro e; exact absurd e (by decide)
      · rintro ⟨_, h2⟩; omega
    · refine ⟨fun _ => ⟨by simpa using h, by omega⟩, fun _ => rfl⟩
theorem bad_out {s : DState} {n : Nat} (h : s.out = true) : bad s n = 11 := if_pos h
theorem bad_full {s : DState} {n : Nat} (h : s.out = false) (h2 : s.room < s.log.length + s.next.length + n) : bad s n = 8 := by unfold bad; rw [if_neg (by simp [h]), if_pos h2]
theorem app_in {s : DState} {b : List Int} (h : bad s b.length = 0) : appE s b.length = told s ∧ appS s b = { step s with log := s.log ++ b } ∧ nextS s b = { step s with next := s.next ++ b } := ⟨if_pos h, if_pos h, if_pos h⟩
theorem app_out {s : DState} {b : List Int} (h : bad s b.length ≠ 0) : appE s b.length = bad s b.length ∧ appS s b = s ∧ nextS s b = s := ⟨if_neg h, if_neg h, if_neg h⟩
theorem app_ok {s : DState} {b : List Int} (h : Ok s) (hb : ∀ n ∈ b, IsByte n) : Ok (appS s b) := by
  unfold appS
  split
  · rename_i h0
    obtain ⟨_, h1⟩ := bad_zero.1 h0
    have h2 := h.room
    have h3 := step_ok h
    refine ⟨?_, ?_, h3.room, h3.left, ?_, h3.next⟩
    · have := h.firm
      simp only [List.length_append]; unfold step; simp only; omega
    · simp only [List.length_append]; unfold step; simp only; omega
    · intro n hn
      rcases List.mem_append.1 hn with hn | hn
      · exact h.log n hn
      · exact hb n hn
  · exact h
theorem next_ok {s : DState} {b : List Int} (h : Ok s) (hb : ∀ n ∈ b, IsByte n) : Ok (nextS s b) := by
  unfold nextS
  split
  · rename_i h0
    obtain ⟨_, h1⟩ := bad_zero.1 h0
    have h2 := h.room
    have h3 := step_ok h
    refine ⟨h3.firm, ?_, h3.room, h3.left, h3.log, ?_⟩
    · simp only [List.length_append]; unfold step; simp only; omega
    · intro n hn
      rcases List.mem_append.1 hn with hn | hn
      · exact h.next n hn
      · exact hb n hn
  · exact h
theorem sync_ok {s : DState} (h : Ok s) : Ok (syncS s) := by
  unfold syncS
  split
  · exact h
  split
  · exact step_ok h
  · have h3 := step_ok h
    exact ⟨Nat.le_refl _, h3.small, h3.room, h3.left, h3.log, h3.next⟩
theorem sw_ok {s : DState} (h : Ok s) : Ok (swS s) := by
  unfold swS
  split
  · exact h
  split
  · exact step_ok h
  · have h3 := step_ok h
    have := h.small
    exact ⟨Nat.le_refl _, by simp only [List.length_nil]; omega, h3.room, h3.left, h.next, by simp⟩
theorem room_ok {s : DState} (h : Ok s) (n : Int) : Ok (roomS s n) := by
  unfold roomS
  split
  · exact ⟨h.firm, h.small, by simp only; omega, h.left, h.log, h.next⟩
  · exact h
theorem fuse_ok {s : DState} (h : Ok s) {n : Int} (hn : n ≤ 9223372036854775807) : Ok (fuseS s n) := by
  unfold fuseS
  split
  · exact h
  · exact ⟨h.firm, h.small, h.room, by simp only; omega, h.log, h.next⟩
theorem cut_len (s : DState) (n : Nat) : (cut s n).length = min (s.firm + n) s.log.length := by simp [cut, List.length_take]
theorem cut_mem {s : DState} {n : Nat} {x : Int} (h : x ∈ cut s n) : x ∈ s.log := List.mem_of_mem_take h
theorem cut_all {s : DState} {n : Nat} (h : s.log.length - s.firm ≤ n) (hf : s.firm ≤ s.log.length) : cut s n = s.log := List.take_of_length_le (by omega)
theorem crash_ok {s : DState} (h : Ok s) (n : Int) : Ok (crashS s n) := by
  unfold crashS
  split
  · exact h
  · have := h.small
    exact ⟨Nat.le_refl _, by simp only [List.length_nil]; rw [cut_len]; omega, h.room, by simp only; omega, fun x hx => h.log x (cut_mem hx), by simp⟩
theorem wipe_ok {s : DState} (h : Ok s) : Ok (wipeS s) := ⟨by simp [wipeS], by simp [wipeS], h.room, by simp [wipeS], by simp [wipeS], by simp [wipeS]⟩
theorem readV_mem {s : DState} {x : Int} (h : x ∈ readV s) : x ∈ s.log := by
  unfold readV at h; split at h
  · cases h
  · exact h
/-- How far the steps are counted. -/
theorem steps_app (s : DState) (b : List Int) : (appS s b).steps ≤ s.steps + 1 := by unfold appS; split <;> simp [step]
theorem steps_next (s : DState) (b : List Int) : (nextS s b).steps ≤ s.steps + 1 := by unfold nextS; split <;> simp [step]
theorem steps_sync (s : DState) : (syncS s).steps ≤ s.steps + 1 := by unfold syncS; split; omega; split <;> simp [step]
theorem steps_sw (s : DState) : (swS s).steps ≤ s.steps + 1 := by unfold swS; split; omega; split <;> simp [step]
theorem steps_room (s : DState) (n : Int) : (roomS s n).steps = s.steps := by unfold roomS; split <;> rfl
theorem steps_fuse (s : DState) (n : Int) : (fuseS s n).steps = s.steps := by unfold fuseS; split <;> rfl
theorem steps_crash (s : DState) (n : Int) : (crashS s n).steps = s.steps := by unfold crashS; split <;> rfl
end Dsk
end Go.Proofs.Ytooljhdfmfkpeaa
