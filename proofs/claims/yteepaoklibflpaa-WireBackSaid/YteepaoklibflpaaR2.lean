/-
  Plain mathematics of fields: whole shapes, there and back.
-/
import Derived.Test.YteepaoklibflpaaR1
namespace Go.Proofs.Yteepaoklibflpaa
section
set_option linter.unusedSimpArgs false
set_option linter.unusedVariables false
namespace Fld
theorem pair_eta {α β : Type} {x : α × β} {a : α} {b : β} (h1 : x.1 = a) (h2 : x.2 = b) : x = (a, b) := by cases x; simp_all
/-- Forth: what a part of a shape puts is got again. -/
def Forth (p : List Int × List Itm → (List Int × List Itm) × Int) (g : List Int → Nat × List Itm → (Nat × List Itm) × Int) : Prop :=
  ∀ out l out' l', (∀ x ∈ l, x.ok) → p (out, l) = ((out', l'), 0) → ∃ xs e, l = xs ++ l' ∧ out' = out ++ e ∧ (∀ n ∈ e, 0 ≤ n ∧ n ≤ 255) ∧ e.length ≤ 4009 * xs.length ∧ ∀ rest acc, g (out' ++ rest) (out.length, acc) = ((out'.length, acc ++ xs), 0)
theorem forth_one {c : Int} (hc : isC c) {out out' : List Int} {l l' : List Itm} {n : Int} (hx : ∀ x ∈ l, x.ok) (h : putS c (out, l) = ((out', l'), n, 0)) :
    ∃ x e, l = [x] ++ l' ∧ out' = out ++ e ∧ (∀ n ∈ e, 0 ≤ n ∧ n ≤ 255) ∧ e.length ≤ 4009 ∧ ∀ rest acc, getS (out' ++ rest) c (out.length, acc) = ((out'.length, acc ++ [x]), n, 0) := by
  obtain ⟨x, rfl, h1, h2, rfl, rfl⟩ := putS_ok h
  have ok := hx x (List.mem_cons_self ..)
  exact ⟨x, enc c x, rfl, rfl, enc_bd c x ok, (enc_len c x ok h1 h2).1, fun rest acc => by rw [getS_put c x out rest acc hc ok h1 h2, List.length_append]⟩
theorem forth_once (g : List Int) (hg : ∀ c ∈ g, isC c) : Forth (once putS g) (fun b => once (getS b) g) := by
  induction g with
  | nil =>
    intro out l out' l' hx h
    simp only [once, Prod.mk.injEq] at h
    obtain ⟨⟨rfl, rfl⟩, _⟩ := h
    exact ⟨[], [], rfl, by simp, by simp, by simp, fun rest acc => by simp [once]⟩
  | cons c g ih =>
    intro out l out' l' hx h
    unfold once at h
    split at h
    · rename_i h0
      obtain ⟨x, e, hl0, ho, he, hl, h1⟩ := forth_one (hg c (List.mem_cons_self ..)) hx (pair_eta (a := ((putS c (out, l)).1.1, (putS c (out, l)).1.2)) rfl (pair_eta rfl h0))
      obtain ⟨xs, e', h2, h3, he', hl', h4⟩ := ih (fun c hc => hg c (List.mem_cons_of_mem _ hc)) _ _ out' l' (fun y hy => hx y (by rw [hl0]; exact List.mem_append_right _ hy)) h
      refine ⟨x :: xs, e ++ e', by rw [hl0, h2]; simp, by rw [h3, ho, List.append_assoc], ?_, by simp; omega, fun rest acc => ?_⟩
      · intro n hn; rcases List.mem_append.1 hn with h | h
        · exact he n h
        · exact he' n h
      · have g1 := h1 (e' ++ rest) acc
        rw [← List.append_assoc, ← h3] at g1
        simp only at h4 ⊢
        unfold once
        rw [g1, if_pos rfl, h4 rest (acc ++ [x])]
        simp
    · rename_i h0
      exact absurd (congrArg Prod.snd h) h0
theorem forth_rep (g : List Int) (hg : ∀ c ∈ g, isC c) (n : Nat) : Forth (rep putS g n) (fun b => rep (getS b) g n) := by
  induction n with
  | zero =>
    intro out l out' l' hx h
    simp only [rep, Prod.mk.injEq] at h
    obtain ⟨⟨rfl, rfl⟩, _⟩ := h
    exact ⟨[], [], rfl, by simp, by simp, by simp, fun rest acc => by simp [rep]⟩
  | succ n ih =>
    intro out l out' l' hx h
    unfold rep at h
    split at h
    · rename_i h0
      obtain ⟨xs, e, hl0, ho, he, hl, h1⟩ := forth_once g hg _ _ _ _ hx (pair_eta (a := ((once putS g (out, l)).1.1, (once putS g (out, l)).1.2)) rfl h0)
      obtain ⟨ys, e', h2, h3, he', hl', h4⟩ := ih _ _ out' l' (fun y hy => hx y (by rw [hl0]; exact List.mem_append_right _ hy)) h
      refine ⟨xs ++ ys, e ++ e', by rw [hl0, h2]; simp, by rw [h3, ho, List.append_assoc], ?_, by simp; omega, fun rest acc => ?_⟩
      · intro n hn; rcases List.mem_append.1 hn with h | h
        · exact he n h
        · exact he' n h
      · have g1 := h1 (e' ++ rest) acc
        rw [← List.append_assoc, ← h3] at g1
        simp only at g1 h4 ⊢
        unfold rep
        rw [g1, if_pos rfl, h4 rest (acc ++ xs)]
        simp
    · rename_i h0
      rw [h] at h0; simp at h0
def grpOk (g : Option (List Int)) : Prop := ∀ cs, g = some cs → ∀ c ∈ cs, isC c
/-- A shape's letters, brackets' ends too. -/
def isL (c : Int) : Prop := isC c ∨ c = 41
theorem forth_walk (s : List Int) : ∀ (g : Option (List Int)) (t : Int) (k : Bool), grpOk g → chkL s g.isSome k = true → Forth (walkL putS g t s) (fun b => walkL (getS b) g t s) := by
  induction s with
  | nil =>
    intro g t k hg hk out l out' l' hx h
    have h' : ((out, l), (0 : Int)) = ((out', l'), 0) := by cases g <;> simpa [walkL] using h
    simp only [Prod.mk.injEq] at h'
    obtain ⟨⟨rfl, rfl⟩, _⟩ := h'
    exact ⟨[], [], rfl, by simp, by simp, by simp, fun rest acc => by cases g <;> simp [walkL]⟩
  | cons c s ih =>
    intro g t k hg hk out l out' l' hx h
    cases g with
    | none =>
      have hc : isC c ∧ (chkL s (if c = 40 then some ([] : List Int) else none).isSome (decide (c ≠ 40)) = true) := by
        unfold chkL at hk
        simp only [Option.isSome_none] at hk
        split at hk
        · rename_i h1
          refine ⟨by unfold isC; omega, ?_⟩
          rw [if_neg (by omega)]
          have : c ≠ 40 := by omega
          simpa [this] using hk
        · split at hk
          · rename_i h1 h2
            refine ⟨Or.inr (Or.inr (Or.inr h2.1)), ?_⟩
            rw [if_pos h2.1]
            simpa [h2.1] using hk
          · simp at hk
      unfold walkL at h
      split at h
      · rename_i h0
        obtain ⟨x, e, hl0, ho, he, hl, h1⟩ := forth_one hc.1 hx (pair_eta (a := ((putS c (out, l)).1.1, (putS c (out, l)).1.2)) rfl (pair_eta rfl h0))
        obtain ⟨xs, e', h2, h3, he', hl', h4⟩ := ih _ _ _ (by intro cs hcs; split at hcs <;> simp at hcs; subst hcs; simp) hc.2 _ _ out' l' (fun y hy => hx y (by rw [hl0]; exact List.mem_append_right _ hy)) h
        refine ⟨x :: xs, e ++ e', by rw [hl0, h2]; simp, by rw [h3, ho, List.append_assoc], ?_, by simp; omega, fun rest acc => ?_⟩
        · intro n hn; rcases List.mem_append.1 hn with h | h
          · exact he n h
          · exact he' n h
        · have g1 := h1 (e' ++ rest) acc
          rw [← List.append_assoc, ← h3] at g1
          simp only at h4 ⊢
          unfold walkL
          rw [g1, if_pos rfl, h4 rest (acc ++ [x])]
          simp
      · rename_i h0
        exact absurd (congrArg Prod.snd h) h0
    | some cs =>
      unfold walkL at h
      split at h
      · rename_i hc
        have hk' : chkL s (none : Option (List Int)).isSome k = true := by
          subst hc
          unfold chkL at hk
          simp at hk
          simpa using hk.2
        split at h
        · rename_i h0
          obtain ⟨xs, e, hl0, ho, he, hl, h1⟩ := forth_rep cs (hg cs rfl) t.toNat _ _ _ _ hx (pair_eta (a := ((rep putS cs t.toNat (out, l)).1.1, (rep putS cs t.toNat (out, l)).1.2)) rfl h0)
          obtain ⟨ys, e', h2, h3, he', hl', h4⟩ := ih _ _ k (by intro cs hcs; simp at hcs) hk' _ _ out' l' (fun y hy => hx y (by rw [hl0]; exact List.mem_append_right _ hy)) h
          refine ⟨xs ++ ys, e ++ e', by rw [hl0, h2]; simp, by rw [h3, ho, List.append_assoc], ?_, by simp; omega, fun rest acc => ?_⟩
          · intro n hn; rcases List.mem_append.1 hn with h | h
            · exact he n h
            · exact he' n h
          · have g1 := h1 (e' ++ rest) acc
            rw [← List.append_assoc, ← h3] at g1
            simp only at g1 h4 ⊢
            unfold walkL
            rw [if_pos hc, g1, if_pos rfl, h4 rest (acc ++ xs)]
            simp
        · rename_i h0
          rw [h] at h0; simp at h0
      · rename_i hc
        have hk' : isC c ∧ chkL s (some (cs ++ [c])).isSome true = true := by
          unfold chkL at hk
          simp only [Option.isSome_some] at hk
          split at hk
          · rename_i h1
            exact ⟨by unfold isC; omega, by simpa using hk⟩
          · simp [hc] at hk
        obtain ⟨xs, e, h2, h3, he, hl, h4⟩ := ih _ _ _ (by intro cs' hcs; simp at hcs; subst hcs; intro c' hc'; rcases List.mem_append.1 hc' with h | h; exact hg cs rfl c' h; simp at h; subst h; exact hk'.1) hk'.2 _ _ out' l' hx h
        exact ⟨xs, e, h2, h3, he, hl, fun rest acc => by simp only at h4 ⊢; unfold walkL; rw [if_neg hc]; exact h4 rest acc⟩
/-- Back: what a part of a shape gets is put as it was. -/
def Back (b : List Int) (p : List Int × List Itm → (List Int × List Itm) × Int) (g : Nat × List Itm → (Nat × List Itm) × Int) : Prop :=
  ∀ at_ acc, at_ ≤ b.length → (g (at_, acc)).1.1 ≤ b.length ∧ ((g (at_, acc)).2 = 0 → ∃ xs, (g (at_, acc)).1.2 = acc ++ xs ∧ (∀ x ∈ xs, x.ok) ∧ at_ + xs.length ≤ (g (at_, acc)).1.1 ∧ ∀ l, p (b.take at_, xs ++ l) = ((b.take (g (at_, acc)).1.1, l), 0))
theorem back_one {b : List Int} (hb : ∀ n ∈ b, 0 ≤ n ∧ n ≤ 255) {c : Int} (hc : isC c) {at_ : Nat} {acc : List Itm} (ha : at_ ≤ b.length) (h : (getS b c (at_, acc)).2.2 = 0) :
    ∃ x, (getS b c (at_, acc)).1.2 = acc ++ [x] ∧ x.ok ∧ at_ + 1 ≤ (getS b c (at_, acc)).1.1 ∧ ∀ l, putS c (b.take at_, x :: l) = ((b.take (getS b c (at_, acc)).1.1, l), (getS b c (at_, acc)).2.1, 0) := by
  obtain ⟨x, h1, ok, h2, h3, h4, h5, h6, h7⟩ := getS_ok hb hc ha (at' := (getS b c (at_, acc)).1.1) (acc' := (getS b c (at_, acc)).1.2) (n := (getS b c (at_, acc)).2.1) (by rw [← h])
  refine ⟨x, h1, ok, h5, fun l => ?_⟩
  unfold putS
  simp only
  rw [if_pos h2, if_pos h3, h7, h4]
theorem back_once {b : List Int} (hb : ∀ n ∈ b, 0 ≤ n ∧ n ≤ 255) (g : List Int) (hg : ∀ c ∈ g, isC c) : Back b (once putS g) (once (getS b) g) := by
  induction g with
  | nil =>
    intro at_ acc ha
    refine ⟨by simpa [once] using ha, fun _ => ⟨[], by simp [once], by simp, by simp [once], fun l => by simp [once]⟩⟩
  | cons c g ih =>
    intro at_ acc ha
    have hc := hg c (List.mem_cons_self ..)
    have hle := getS_le hb hc (acc := acc) ha
    obtain ⟨i1, i2⟩ := ih (fun c hc => hg c (List.mem_cons_of_mem _ hc)) (getS b c (at_, acc)).1.1 (getS b c (at_, acc)).1.2 hle
    unfold once
    split
    · rename_i h0
      obtain ⟨x, e1, ok, e2, e3⟩ := back_one hb hc ha h0
      refine ⟨i1, fun h => ?_⟩
      obtain ⟨xs, f1, f2, f3, f4⟩ := i2 h
      refine ⟨x :: xs, ?_, ?_, ?_, fun l => ?_⟩
      · exact f1.trans (by rw [e1]; simp)
      · intro y hy; rcases List.mem_cons.1 hy with rfl | hy
        · exact ok
        · exact f2 y hy
      · have f3' : (getS b c (at_, acc)).1.1 + xs.length ≤ (once (getS b) g (getS b c (at_, acc)).1).1.1 := f3
        simp only [List.length_cons]; omega
      · rw [List.cons_append, e3 (xs ++ l), if_pos rfl]; exact f4 l
    · rename_i h0
      exact ⟨hle, fun h => absurd h h0⟩
theorem back_rep {b : List Int} (hb : ∀ n ∈ b, 0 ≤ n ∧ n ≤ 255) (g : List Int) (hg : ∀ c ∈ g, isC c) (n : Nat) : Back b (rep putS g n) (rep (getS b) g n) := by
  induction n with
  | zero =>
    intro at_ acc ha
    refine ⟨by simpa [rep] using ha, fun _ => ⟨[], by simp [rep], by simp, by simp [rep], fun l => by simp [rep]⟩⟩
  | succ n ih =>
    intro at_ acc ha
    obtain ⟨o1, o2⟩ := back_once hb g hg at_ acc ha
    obtain ⟨i1, i2⟩ := ih (once (getS b) g (at_, acc)).1.1 (once (getS b) g (at_, acc)).1.2 o1
    unfold rep
    split
    · rename_i h0
      obtain ⟨xs, e1, e2, e3, e4⟩ := o2 h0
      refine ⟨i1, fun h => ?_⟩
      obtain ⟨ys, f1, f2, f3, f4⟩ := i2 h
      refine ⟨xs ++ ys, ?_, ?_, ?_, fun l => ?_⟩
      · exact f1.trans (by rw [e1]; simp)
      · intro y hy; rcases List.mem_append.1 hy with hy | hy
        · exact e2 y hy
        · exact f2 y hy
      · have f3' : (once (getS b) g (at_, acc)).1.1 + ys.length ≤ (rep (getS b) g n (once (getS b) g (at_, acc)).1).1.1 := f3
        simp only [List.length_append]; omega
      · rw [List.append_assoc, e4 (ys ++ l), if_pos rfl]; exact f4 l
    · rename_i h0
      exact ⟨o1, fun h => absurd h h0⟩
theorem back_walk {b : List Int} (hb : ∀ n ∈ b, 0 ≤ n ∧ n ≤ 255) (s : List Int) : ∀ (g : Option (List Int)) (t : Int) (k : Bool), grpOk g → chkL s g.isSome k = true → Back b (walkL putS g t s) (walkL (getS b) g t s) := by
  induction s with
  | nil =>
    intro g t k hg hk at_ acc ha
    have h1 : walkL (getS b) g t [] (at_, acc) = ((at_, acc), 0) := by cases g <;> simp [walkL]
    rw [h1]
    exact ⟨ha, fun _ => ⟨[], by simp, by simp, by simp, fun l => by cases g <;> simp [walkL]⟩⟩
  | cons c s ih =>
    intro g t k hg hk at_ acc ha
    cases g with
    | none =>
      have hc : isC c ∧ (chkL s (if c = 40 then some ([] : List Int) else none).isSome (decide (c ≠ 40)) = true) := by
        unfold chkL at hk
        simp only [Option.isSome_none] at hk
        split at hk
        · rename_i h1
          refine ⟨by unfold isC; omega, ?_⟩
          rw [if_neg (by omega)]
          have : c ≠ 40 := by omega
          simpa [this] using hk
        · split at hk
          · rename_i h1 h2
            refine ⟨Or.inr (Or.inr (Or.inr h2.1)), ?_⟩
            rw [if_pos h2.1]
            simpa [h2.1] using hk
          · simp at hk
      have hle := getS_le hb hc.1 (acc := acc) ha
      obtain ⟨i1, i2⟩ := ih _ (getS b c (at_, acc)).2.1 _ (by intro cs hcs; split at hcs <;> simp at hcs; subst hcs; simp) hc.2 (getS b c (at_, acc)).1.1 (getS b c (at_, acc)).1.2 hle
      unfold walkL
      split
      · rename_i h0
        obtain ⟨x, e1, ok, e2, e3⟩ := back_one hb hc.1 ha h0
        refine ⟨i1, fun h => ?_⟩
        obtain ⟨xs, f1, f2, f3, f4⟩ := i2 h
        refine ⟨x :: xs, ?_, ?_, ?_, fun l => ?_⟩
        · exact f1.trans (by rw [e1]; simp)
        · intro y hy; rcases List.mem_cons.1 hy with rfl | hy
          · exact ok
          · exact f2 y hy
        · have f3' : (getS b c (at_, acc)).1.1 + xs.length ≤ (walkL (getS b) (if c = 40 then some [] else none) (getS b c (at_, acc)).2.1 s (getS b c (at_, acc)).1).1.1 := f3
          simp only [List.length_cons]; omega
        · rw [List.cons_append, e3 (xs ++ l), if_pos rfl]; exact f4 l
      · rename_i h0
        exact ⟨hle, fun h => absurd h h0⟩
    | some cs =>
      unfold walkL
      by_cases hc : c = 41
      · have hk' : chkL s (none : Option (List Int)).isSome k = true := by
          subst hc
          unfold chkL at hk
          simp at hk
          simpa using hk.2
        obtain ⟨o1, o2⟩ := back_rep hb cs (hg cs rfl) t.toNat at_ acc ha
        obtain ⟨i1, i2⟩ := ih none t k (by intro cs hcs; simp at hcs) hk' (rep (getS b) cs t.toNat (at_, acc)).1.1 (rep (getS b) cs t.toNat (at_, acc)).1.2 o1
        rw [if_pos hc]
        split
        · rename_i h0
          obtain ⟨xs, e1, e2, e3, e4⟩ := o2 h0
          refine ⟨i1, fun h => ?_⟩
          obtain ⟨ys, f1, f2, f3, f4⟩ := i2 h
          refine ⟨xs ++ ys, ?_, ?_, ?_, fun l => ?_⟩
          · exact f1.trans (by rw [e1]; simp)
          · intro y hy; rcases List.mem_append.1 hy with hy | hy
            · exact e2 y hy
            · exact f2 y hy
          · have f3' : (rep (getS b) cs t.toNat (at_, acc)).1.1 + ys.length ≤ (walkL (getS b) none t s (rep (getS b) cs t.toNat (at_, acc)).1).1.1 := f3
            simp only [List.length_append]; omega
          · rw [List.append_assoc, e4 (ys ++ l), if_pos rfl]; exact f4 l
        · rename_i h0
          exact ⟨o1, fun h => absurd h h0⟩
      · have hk' : isC c ∧ chkL s (some (cs ++ [c])).isSome true = true := by
          unfold chkL at hk
          simp only [Option.isSome_some] at hk
          split at hk
          · rename_i h1
            exact ⟨by unfold isC; omega, by simpa using hk⟩
          · simp [hc] at hk
        rw [if_neg hc]
        obtain ⟨i1, i2⟩ := ih _ t _ (by intro cs' hcs; simp at hcs; subst hcs; intro c' hc'; rcases List.mem_append.1 hc' with h | h; exact hg cs rfl c' h; simp at h; subst h; exact hk'.1) hk'.2 at_ acc ha
        refine ⟨i1, fun h => ?_⟩
        obtain ⟨xs, f1, f2, f3, f4⟩ := i2 h
        exact ⟨xs, f1, f2, f3, fun l => by rw [if_neg hc]; exact f4 l⟩

/-! ### The whole -/
theorem chk_walk {s : List Int} (h : chk s = true) : chkL s (none : Option (List Int)).isSome false = true := by
  unfold chk at h; simp at h; simpa using h.2
theorem put_fst {s : List Int} {l : List Itm} {out : List Int} (h : put s l = (out, 0)) : chk s = true ∧ walkL putS none 0 s ([], l) = ((out, []), 0) := by
  unfold put at h
  split at h
  · rename_i hc
    simp only at h
    split at h
    · rename_i h0
      split at h
      · rename_i h1
        simp only [Prod.mk.injEq] at h
        exact ⟨hc, pair_eta (pair_eta h.1 h1) h0⟩
      · simp at h
    · rename_i h0
      simp only [Prod.mk.injEq] at h
      exact absurd h.2 h0
  · simp at h
theorem put_walk {s : List Int} {l : List Itm} {out : List Int} (hx : ∀ x ∈ l, x.ok) (h : put s l = (out, 0)) :
    chk s = true ∧ (∀ n ∈ out, 0 ≤ n ∧ n ≤ 255) ∧ out.length ≤ 4009 * l.length ∧ ∀ rest, walkL (getS (out ++ rest)) none 0 s (0, []) = ((out.length, l), 0) := by
  obtain ⟨hc, hw⟩ := put_fst h
  obtain ⟨xs, e, h1, h2, h3, h4, h5⟩ := forth_walk s none 0 false (by intro cs hcs; simp at hcs) (chk_walk hc) [] l out [] hx hw
  simp only [List.append_nil, List.nil_append] at h1 h2
  subst h1 h2
  exact ⟨hc, h3, h4, fun rest => by simpa using h5 rest []⟩
theorem put_err {s : List Int} {l : List Itm} (h : (put s l).2 ≠ 0) : (put s l).1 = [] := by
  unfold put at *
  simp only at *
  repeat' split
  all_goals first | rfl | (simp_all)
theorem get_put {s : List Int} {l : List Itm} {out : List Int} (hx : ∀ x ∈ l, x.ok) (h : put s l = (out, 0)) : get s out = (l, 0, 0) := by
  obtain ⟨hc, _, _, hw⟩ := put_walk hx h
  have := hw []
  rw [List.append_nil] at this
  unfold get
  rw [if_pos hc]
  simp only [this]
  simp
theorem get_more {s : List Int} {l : List Itm} {out : List Int} (m : Int) (r : List Int) (hx : ∀ x ∈ l, x.ok) (h : put s l = (out, 0)) : get s (out ++ m :: r) = ([], 4, out.length) := by
  obtain ⟨hc, _, _, hw⟩ := put_walk hx h
  have := hw (m :: r)
  unfold get
  rw [if_pos hc]
  simp only [this]
  simp
theorem get_ok {s b : List Int} {l : List Itm} {k : Nat} (hb : ∀ n ∈ b, 0 ≤ n ∧ n ≤ 255) (h : get s b = (l, 0, k)) : put s l = (b, 0) ∧ (∀ x ∈ l, x.ok) ∧ k = 0 ∧ l.length ≤ b.length := by
  unfold get at h
  split at h
  · rename_i hc
    obtain ⟨h1, h2⟩ := back_walk hb s none 0 false (by intro cs hcs; simp at hcs) (chk_walk hc) 0 [] (by omega)
    simp only at h
    split at h
    · rename_i h0
      split at h
      · simp at h
      · rename_i h3
        simp only [Prod.mk.injEq, true_and] at h
        obtain ⟨rfl, rfl⟩ := h
        obtain ⟨xs, e1, e2, e3, e4⟩ := h2 h0
        have e5 := e4 []
        rw [List.append_nil, List.take_of_length_le (show b.length ≤ (walkL (getS b) none 0 s (0, [])).1.1 by omega)] at e5
        rw [List.nil_append] at e1
        rw [e1]
        refine ⟨?_, e2, rfl, by omega⟩
        unfold put
        rw [if_pos hc]
        simp only [List.take_zero] at e5
        simp only [e5]
        simp
    · rename_i h0
      simp only [Prod.mk.injEq] at h
      exact absurd h.2.1 h0
  · simp at h
theorem get_err {s b : List Int} (hb : ∀ n ∈ b, 0 ≤ n ∧ n ≤ 255) (h : (get s b).2.1 ≠ 0) : (get s b).1 = [] ∧ (get s b).2.2 ≤ b.length := by
  unfold get at *
  split
  · rename_i hc
    obtain ⟨h1, h2⟩ := back_walk hb s none 0 false (by intro cs hcs; simp at hcs) (chk_walk hc) 0 [] (by omega)
    simp only
    split
    · rename_i h0
      split
      · exact ⟨rfl, h1⟩
      · rename_i h3
        rw [if_pos hc] at h
        simp only [h0, if_true, if_neg h3] at h
        simp at h
    · exact ⟨rfl, h1⟩
  · simp
/-- Bytes that are a list's of items are no other list's, and none begin with them. -/
theorem put_apart {s : List Int} {l k : List Itm} {a b : List Int} (hl : ∀ x ∈ l, x.ok) (hk : ∀ x ∈ k, x.ok) (ha : put s l = (a, 0)) (hb : put s k = (b, 0)) (n : Nat) (hn : n = min a.length b.length) :
    (a.take n = b.take n) ↔ l = k := by
  have main : ∀ (l k : List Itm) (a b : List Int), (∀ x ∈ l, x.ok) → (∀ x ∈ k, x.ok) → put s l = (a, 0) → put s k = (b, 0) → a.length ≤ b.length → a = b.take a.length → l = k := by
    intro l k a b hl hk ha hb hle h
    have hbb : b = a ++ b.drop a.length := by
      have := (List.take_append_drop a.length b).symm
      rwa [← h] at this
    have g1 := get_put hk hb
    cases hd : b.drop a.length with
    | nil =>
      rw [hd, List.append_nil] at hbb
      subst hbb
      have := get_put hl ha
      rw [g1] at this
      simp at this
      exact this.symm
    | cons m r =>
      rw [hd] at hbb
      have := get_more m r hl ha
      rw [← hbb, g1] at this
      simp at this
  constructor
  · intro h
    rcases Nat.le_total a.length b.length with hle | hle
    · have : n = a.length := by omega
      subst this
      rw [List.take_length] at h
      exact main l k a b hl hk ha hb hle h
    · have : n = b.length := by omega
      subst this
      rw [List.take_length] at h
      exact (main k l b a hk hl hb ha hle h.symm).symm
  · intro h
    subst h
    rw [ha] at hb
    simp at hb
    rw [hb]
/-- With its last byte gone what was items of a shape is none any more. -/
theorem get_less {s b : List Int} {l : List Itm} {x : Int} (hb : ∀ n ∈ b ++ [x], 0 ≤ n ∧ n ≤ 255) {k : Nat} (h : get s (b ++ [x]) = (l, 0, k)) : (get s b).2.1 ≠ 0 := by
  intro h0
  obtain ⟨h1, h2, _⟩ := get_ok (s := s) (b := b) (l := (get s b).1) (k := (get s b).2.2) (fun n hn => hb n (List.mem_append_left _ hn)) (by rw [← h0])
  have := get_more x [] h2 h1
  rw [h] at this
  simp at this
end Fld
end
end Go.Proofs.Yteepaoklibflpaa
