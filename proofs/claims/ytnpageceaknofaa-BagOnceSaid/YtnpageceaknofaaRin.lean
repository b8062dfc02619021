/-
  A ring of places, plain: where its things stand, what a put and a take leave.
-/
namespace Go.Proofs.Ytnpageceaknofaa.Rin
variable {α : Type}
/-- The things l stand in the ring cs from the place f on. -/
structure Is (cs : List α) (f : Nat) (l : List α) : Prop where
  le : l.length ≤ cs.length
  first : f < cs.length ∨ (cs.length = 0 ∧ f = 0)
  at_ : ∀ j x, l[j]? = some x → cs[(f + j) % cs.length]? = some x
theorem Is.nil : Is ([] : List α) 0 [] := ⟨by simp, .inr ⟨rfl, rfl⟩, fun j x h => by simp at h⟩
theorem place_ne {c f j k : Nat} (hf : f < c) (hj : j < c) (hk : k < c) (h : j ≠ k) : (f + j) % c ≠ (f + k) % c := by
  intro e
  have h1 : (f + j) % c = if f + j < c then f + j else f + j - c := by
    split
    · exact Nat.mod_eq_of_lt (by assumption)
    · rw [Nat.mod_eq_sub_mod (by omega), Nat.mod_eq_of_lt (by omega)]
  have h2 : (f + k) % c = if f + k < c then f + k else f + k - c := by
    split
    · exact Nat.mod_eq_of_lt (by assumption)
    · rw [Nat.mod_eq_sub_mod (by omega), Nat.mod_eq_of_lt (by omega)]
  rw [h1, h2] at e
  split at e <;> split at e <;> omega
theorem Is.front {cs : List α} {f : Nat} {l : List α} (h : Is cs f l) {j : Nat} (hj : j < l.length) (h2 : f + j < cs.length) : cs[f + j]? = some l[j] := by
  have := h.at_ j l[j] (by simp [hj])
  rwa [Nat.mod_eq_of_lt h2] at this
theorem Is.back {cs : List α} {f : Nat} {l : List α} (h : Is cs f l) {i : Nat} (hi : cs.length - f + i < l.length) : cs[i]? = some l[cs.length - f + i] := by
  have hf : f < cs.length := by have := h.le; rcases h.first with h | h <;> omega
  have := h.at_ (cs.length - f + i) l[cs.length - f + i] (by simp [hi])
  have hl := h.le
  rw [show f + (cs.length - f + i) = cs.length + i by omega, Nat.add_mod_left, Nat.mod_eq_of_lt (by omega)] at this
  exact this
/-- A put into a free place. -/
theorem Is.put {cs : List α} {f : Nat} {l : List α} (h : Is cs f l) (hl : l.length < cs.length) (x : α) : Is (cs.set ((f + l.length) % cs.length) x) f (l ++ [x]) := by
  have hf : f < cs.length := by rcases h.first with h | h <;> omega
  refine ⟨by simp; omega, .inl (by simpa using hf), fun j y hy => ?_⟩
  rw [List.length_set]
  by_cases hj : j < l.length
  · rw [List.getElem?_append_left hj] at hy
    rw [List.getElem?_set_ne (place_ne hf (by omega) (by omega) (by omega))]
    exact h.at_ j y hy
  · have hjl : j = l.length := by
      have := (List.getElem?_eq_some_iff.1 hy).1
      simp at this; omega
    subst hjl
    rw [List.getElem?_append_right (Nat.le_refl _), Nat.sub_self] at hy
    simp at hy
    subst hy
    rw [List.getElem?_set_self (Nat.mod_lt _ (by omega))]
/-- A ring laid anew. -/
theorem Is.laid (l r : List α) : Is (l ++ r) 0 l := by
  refine ⟨by simp, ?_, fun j x hx => ?_⟩
  · by_cases h : 0 < (l ++ r).length
    · exact .inl h
    · exact .inr ⟨by omega, rfl⟩
  · have hj := (List.getElem?_eq_some_iff.1 hx).1
    rw [Nat.zero_add, Nat.mod_eq_of_lt (by simp; omega), List.getElem?_append_left hj]
    exact hx
/-- The places when k things have gone on by one, z standing for what comes ahead of the first. -/
def gone (z : α) (cs : List α) (f : Nat) (l : List α) : Nat → List α
  | 0 => cs
  | k + 1 => (gone z cs f l k).set ((f + k) % cs.length) ((z :: l).getD k z)
theorem gone_length (z : α) (cs : List α) (f : Nat) (l : List α) (k : Nat) : (gone z cs f l k).length = cs.length := by
  induction k with
  | zero => rfl
  | succ k ih => rw [gone, List.length_set, ih]
theorem gone_ahead {z : α} {cs : List α} {f : Nat} {l : List α} (h : Is cs f l) {k : Nat} (hk : k ≤ l.length) (j : Nat) (hj : k ≤ j) (hl : j < l.length) : (gone z cs f l k)[(f + j) % cs.length]? = some l[j] := by
  have hle := h.le
  have hf : f < cs.length := by rcases h.first with h | h <;> omega
  induction k with
  | zero => exact h.at_ j l[j] (by simp [hl])
  | succ k ih =>
    rw [gone, List.getElem?_set_ne (place_ne hf (by omega) (by omega) (by omega))]
    exact ih (by omega) (by omega)
theorem gone_behind {z : α} {cs : List α} {f : Nat} {l : List α} (h : Is cs f l) {k : Nat} (hk : k ≤ l.length) (j : Nat) (hj : j < k) : (gone z cs f l k)[(f + j) % cs.length]? = some ((z :: l).getD j z) := by
  have hle := h.le
  have hf : f < cs.length := by rcases h.first with h | h <;> omega
  induction k with
  | zero => omega
  | succ k ih =>
    rw [gone]
    by_cases e : j = k
    · subst e
      rw [List.getElem?_set_self (by rw [gone_length]; exact Nat.mod_lt _ (by omega))]
    · rw [List.getElem?_set_ne (place_ne hf (by omega) (by omega) (by omega))]
      exact ih (by omega) (by omega)
theorem Is.take {z : α} {cs : List α} {f : Nat} {l : List α} (h : Is cs f l) {i : Nat} (hi : i < l.length) : Is (gone z cs f l (i + 1)) ((f + 1) % cs.length) (l.take i ++ l.drop (i + 1)) := by
  have hle := h.le
  have hf : f < cs.length := by rcases h.first with h | h <;> omega
  refine ⟨by rw [gone_length]; simp; omega, .inl (by rw [gone_length]; exact Nat.mod_lt _ (by omega)), fun j x hx => ?_⟩
  rw [gone_length, Nat.mod_add_mod, Nat.add_assoc, Nat.add_comm 1 j]
  have hlt : (l.take i).length = i := by rw [List.length_take]; omega
  by_cases hj : j < i
  · rw [List.getElem?_append_left (by omega), List.getElem?_take_of_lt hj] at hx
    rw [gone_behind h (by omega) (j + 1) (by omega)]
    simp [List.getD_eq_getElem?_getD, hx]
  · rw [List.getElem?_append_right (by omega), hlt, List.getElem?_drop, show i + 1 + (j - i) = j + 1 by omega] at hx
    obtain ⟨hj1, hx1⟩ := List.getElem?_eq_some_iff.1 hx
    rw [gone_ahead h (by omega) (j + 1) (by omega) hj1, hx1]
theorem laid_set (l : List α) (z : α) (N k : Nat) (hk : k < l.length) (hN : l.length ≤ N) : (l.take k ++ List.replicate (N - k) z).set k (l.getD k z) = l.take (k + 1) ++ List.replicate (N - (k + 1)) z := by
  have h1 : (l.take k).length = k := by rw [List.length_take]; omega
  rw [List.set_append_right _ _ (by omega), h1, Nat.sub_self, show N - k = (N - (k + 1)) + 1 by omega, List.replicate_succ, List.set_cons_zero, List.take_succ_eq_append_getElem hk, List.getD_eq_getElem?_getD, List.getElem?_eq_getElem hk, List.append_assoc]
  rfl
theorem laid_at (l : List α) (z : α) (N k : Nat) (hk : k < l.length) (hN : l.length ≤ N) : (l.take k ++ List.replicate (N - k) z)[k]? = some z := by
  have h1 : (l.take k).length = k := by rw [List.length_take]; omega
  rw [List.getElem?_append_right (by omega), h1, Nat.sub_self, List.getElem?_replicate, if_pos (by omega)]
end Go.Proofs.Ytnpageceaknofaa.Rin
