/-
  Plain mathematics of fields: a shape taken group by group, behind an error nothing more.
-/
import Derived.Test.YtgakmkglejddeaaFld
namespace Go.Proofs.Ytgakmkglejddeaa
set_option linter.unusedSimpArgs false
set_option linter.unusedVariables false
namespace Fld
def isLet (c : Int) : Prop := c = 110 ∨ c = 98 ∨ c = 100
/-- Within a group: letters up to its end. -/
theorem chkL_in : ∀ (r : List Int) (k : Bool), chkL r true k = true → ∃ cs r' k', r = cs ++ 41 :: r' ∧ (∀ c ∈ cs, isLet c) ∧ chkL r' false k' = true
  | [], k, h => by simp [chkL] at h
  | c :: r, k, h => by
    unfold chkL at h
    split at h
    · rename_i hc
      obtain ⟨cs, r', k', h1, h2, h3⟩ := chkL_in r true h
      exact ⟨c :: cs, r', k', by rw [h1]; rfl, fun d hd => by
        rcases List.mem_cons.1 hd with rfl | hd
        · exact hc
        · exact h2 d hd, h3⟩
    · simp at h
      obtain ⟨⟨h1, h2⟩, h3⟩ := h
      exact ⟨[], r, k, by rw [h1]; rfl, by simp, h3⟩
/-- Outside: a letter, or a group. -/
theorem chkL_out (c : Int) (r : List Int) (k : Bool) (h : chkL (c :: r) false k = true) : (isLet c ∧ chkL r false true = true) ∨ (c = 40 ∧ ∃ cs r' k', r = cs ++ 41 :: r' ∧ (∀ c ∈ cs, isLet c) ∧ chkL r' false k' = true) := by
  unfold chkL at h
  split at h
  · rename_i hc
    exact Or.inl ⟨hc, h⟩
  · split at h
    · rename_i hc
      exact Or.inr ⟨hc.1, chkL_in r false h⟩
    · simp at h
theorem isLet_ne {c : Int} (h : isLet c) : c ≠ 40 ∧ c ≠ 41 := by rcases h with rfl | rfl | rfl <;> omega
section
variable {σ : Type} (f : Int → σ → σ × Int × Int)
theorem walkL_grp : ∀ (cs g : List Int) (t : Int) (r : List Int) (st : σ), (∀ c ∈ cs, isLet c) →
    walkL f (some g) t (cs ++ 41 :: r) st = if (rep f (g ++ cs) t.toNat st).2 = 0 then walkL f none t r (rep f (g ++ cs) t.toNat st).1 else rep f (g ++ cs) t.toNat st
  | [], g, t, r, st, _ => by
    rw [List.append_nil, List.nil_append, walkL, if_pos rfl]
  | c :: cs, g, t, r, st, h => by
    rw [List.cons_append, walkL, if_neg (isLet_ne (h c (List.mem_cons_self ..))).2, walkL_grp cs (g ++ [c]) t r st (fun d hd => h d (List.mem_cons_of_mem _ hd)), List.append_assoc]
    rfl
theorem walkL_open (t : Int) (cs r : List Int) (st : σ) (h : ∀ c ∈ cs, isLet c) :
    walkL f none t (40 :: (cs ++ 41 :: r)) st = if (f 40 st).2.2 = 0 then (if (rep f cs (f 40 st).2.1.toNat (f 40 st).1).2 = 0 then walkL f none (f 40 st).2.1 r (rep f cs (f 40 st).2.1.toNat (f 40 st).1).1 else rep f cs (f 40 st).2.1.toNat (f 40 st).1) else ((f 40 st).1, (f 40 st).2.2) := by
  rw [walkL, if_pos rfl, walkL_grp f cs [] _ r _ h, List.nil_append]
theorem walkL_letter (t : Int) (c : Int) (r : List Int) (st : σ) (h : c ≠ 40) :
    walkL f none t (c :: r) st = if (f c st).2.2 = 0 then walkL f none (f c st).2.1 r (f c st).1 else ((f c st).1, (f c st).2.2) := by
  rw [walkL, if_neg h]
/-- Behind an error nothing more is done. -/
def stick (c : Int) (s : σ × Int) : σ × Int := if s.2 = 0 then ((f c s.1).1, (f c s.1).2.2) else s
def sticks (cs : List Int) (s : σ × Int) : σ × Int := cs.foldl (fun s c => stick f c s) s
theorem stick_err {c : Int} {s : σ × Int} (h : s.2 ≠ 0) : stick f c s = s := by unfold stick; rw [if_neg h]
theorem sticks_err (cs : List Int) {s : σ × Int} (h : s.2 ≠ 0) : sticks f cs s = s := by
  induction cs with
  | nil => rfl
  | cons c cs ih => unfold sticks at *; rw [List.foldl_cons, stick_err f h]; exact ih
theorem sticks_once : ∀ (cs : List Int) (st : σ), sticks f cs (st, 0) = once f cs st
  | [], st => rfl
  | c :: cs, st => by
    have e : sticks f (c :: cs) (st, 0) = sticks f cs (stick f c (st, 0)) := rfl
    rw [e, once]
    unfold stick
    rw [if_pos rfl]
    split
    · rename_i h
      show sticks f cs ((f c st).1, (f c st).2.2) = _
      rw [h]
      exact sticks_once cs _
    · rename_i h
      exact sticks_err f cs h
/-- One round of a group behind another, as long as there is no error. -/
theorem rep_stick (cs : List Int) (n : Nat) (st : σ) : rep f cs (n + 1) st = if (sticks f cs (st, 0)).2 = 0 then rep f cs n (sticks f cs (st, 0)).1 else sticks f cs (st, 0) := by
  rw [sticks_once, rep]
/-- A shape from where a letter or a group begins. -/
theorem walkL_tail (t t' : Int) (r : List Int) (st : σ) (k : Bool) (h : chkL r false k = true) : walkL f none t r st = walkL f none t' r st := by
  cases r with
  | nil => rfl
  | cons c r => rw [walkL, walkL]
end
end Fld
end Go.Proofs.Ytgakmkglejddeaa
