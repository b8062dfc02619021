/-
  Plain mathematics of lots: drawn, picked, an order shuffled. No program is named here.
-/
namespace Go.Proofs.Ytfoomffbjjcjjaa
set_option linter.unusedSimpArgs false
set_option linter.unusedVariables false
namespace Lot
/-- The lot of that number; behind the end 0. -/
def lotAt (L : List Int) (N : Nat) : Int := L.getD N 0
theorem lotAt_pos {L : List Int} (h : ∀ n ∈ L, 0 ≤ n) (N : Nat) : 0 ≤ lotAt L N := by
  unfold lotAt
  rw [List.getD_eq_getElem?_getD]
  cases hq : L[N]? with
  | none => simp
  | some v => simp only [Option.getD_some]; exact h v (List.mem_of_getElem? hq)
theorem lotAt_le {L : List Int} (h : ∀ n ∈ L, n ≤ 9223372036854775807) (N : Nat) : lotAt L N ≤ 9223372036854775807 := by
  unfold lotAt
  rw [List.getD_eq_getElem?_getD]
  cases hq : L[N]? with
  | none => simp
  | some v => simp only [Option.getD_some]; exact h v (List.mem_of_getElem? hq)
theorem lotAt_out {L : List Int} {N : Nat} (h : L.length ≤ N) : lotAt L N = 0 := by unfold lotAt; rw [List.getD_eq_getElem?_getD, List.getElem?_eq_none h]; rfl
theorem lotAt_in {L : List Int} {N : Nat} (h : N < L.length) : lotAt L N = L[N] := by unfold lotAt; rw [List.getD_eq_getElem?_getD, List.getElem?_eq_getElem h]; rfl
theorem lotAt_drop (L : List Int) (k N : Nat) : lotAt (L.drop k) N = lotAt L (k + N) := by unfold lotAt; rw [List.getD_eq_getElem?_getD, List.getD_eq_getElem?_getD, List.getElem?_drop]
/-- What New answers an error. -/
def newErr (L : List Int) : Int := if 1000 < L.length then 3 else if L.any (· < 0) then 2 else 0
theorem newErr_ok {L : List Int} (h : newErr L = 0) : L.length ≤ 1000 ∧ ∀ n ∈ L, 0 ≤ n := by
  unfold newErr at h
  split at h
  · cases h
  · split at h
    · cases h
    · rename_i h1 h2
      refine ⟨by omega, fun n hn => ?_⟩
      rw [List.any_eq_true] at h2
      by_cases h0 : 0 ≤ n
      · exact h0
      · exact absurd ⟨n, hn, by simpa using (by omega : n < 0)⟩ h2
theorem newErr_long {L : List Int} (h : 1000 < L.length) : newErr L = 3 := by unfold newErr; rw [if_pos h]
theorem newErr_arg {L : List Int} (h : L.length ≤ 1000) (k : Nat) (hk : k < L.length) (hn : L[k] < 0) : newErr L = 2 := by
  unfold newErr; rw [if_neg (by omega), if_pos (List.any_eq_true.2 ⟨L[k], List.getElem_mem hk, by simpa using hn⟩)]
theorem newErr_zero {L : List Int} (h : L.length ≤ 1000) (h0 : ∀ n ∈ L, 0 ≤ n) : newErr L = 0 := by
  unfold newErr; rw [if_neg (by omega), if_neg ?_]
  rw [List.any_eq_true]
  rintro ⟨n, hn, h1⟩
  have := h0 n hn
  simp at h1; omega
/-- What Pick tells, and how many lots it uses. -/
def pickV (L : List Int) (N : Nat) (n : Int) : Int := if n < 2 then 0 else lotAt L N % n
def pickN (n : Int) : Nat := if n < 2 then 0 else 1
/-- Two places exchanged. -/
def exch (l : List Int) (i k : Nat) : List Int := (l.set i (l.getD k 0)).set k (l.getD i 0)
theorem exch_length (l : List Int) (i k : Nat) : (exch l i k).length = l.length := by simp [exch]
def rising (m : Nat) : List Int := (List.range m).map fun (i : Nat) => (i : Int)
theorem rising_length (m : Nat) : (rising m).length = m := by simp [rising]
theorem rising_succ (m : Nat) : rising (m + 1) = rising m ++ [(m : Int)] := by simp [rising, List.range_succ]
/-- Behind so many exchanges. -/
def place (L : List Int) (N m t : Nat) : Nat := (lotAt L (N + t) % ((m - t : Nat) : Int)).toNat
def shufTo (L : List Int) (N m : Nat) : Nat → List Int
  | 0 => rising m
  | t + 1 => exch (shufTo L N m t) (m - 1 - t) (place L N m t)
theorem shufTo_length (L : List Int) (N m t : Nat) : (shufTo L N m t).length = m := by
  induction t with
  | zero => exact rising_length m
  | succ t ih => simp [shufTo, exch_length, ih]
theorem place_lt (L : List Int) (N m t : Nat) (h : t < m) : place L N m t < m - t := by
  unfold place
  have h1 := Int.emod_lt_of_pos (lotAt L (N + t)) (show (0 : Int) < ((m - t : Nat) : Int) by omega)
  have h2 := Int.emod_nonneg (lotAt L (N + t)) (show ((m - t : Nat) : Int) ≠ 0 by omega)
  omega
def shuf (L : List Int) (N : Nat) (n : Int) : List Int := if n < 1 ∨ 64 < n then [] else shufTo L N n.toNat (n.toNat - 1)
def shufN (n : Int) : Nat := if n < 1 ∨ 64 < n then 0 else n.toNat - 1
theorem pick_place (L : List Int) (N m t : Nat) (h : t + 2 ≤ m) : pickV L (N + t) ((m - t : Nat) : Int) = (place L N m t : Nat) := by
  unfold pickV place
  rw [if_neg (by omega)]
  have h2 := Int.emod_nonneg (lotAt L (N + t)) (show ((m - t : Nat) : Int) ≠ 0 by omega)
  omega
/-- Each value of an order is a number below m. -/
def Order (m : Nat) (l : List Int) : Prop := l.length = m ∧ (∀ n ∈ l, 0 ≤ n ∧ n < m) ∧ l.Nodup
theorem exch_get (l : List Int) (i k j : Nat) (hi : i < l.length) (hk : k < l.length) (hj : j < l.length) : (exch l i k)[j]? = some (if j = k then l[i] else if j = i then l[k] else l[j]) := by
  unfold exch
  have e1 : l.getD i 0 = l[i] := by simp [List.getD_eq_getElem?_getD, List.getElem?_eq_getElem hi]
  have e2 : l.getD k 0 = l[k] := by simp [List.getD_eq_getElem?_getD, List.getElem?_eq_getElem hk]
  rw [e1, e2, List.getElem?_set, List.getElem?_set]
  by_cases h1 : j = k
  · rw [if_pos h1.symm, if_pos (by rw [List.length_set]; exact hk), if_pos h1]
  · rw [if_neg (fun e => h1 e.symm), if_neg h1]
    by_cases h2 : j = i
    · rw [if_pos h2.symm, if_pos hi, if_pos h2]
    · rw [if_neg (fun e => h2 e.symm), if_neg h2, List.getElem?_eq_getElem hj]
theorem exch_el (l : List Int) (i k j : Nat) (hi : i < l.length) (hk : k < l.length) (hj : j < (exch l i k).length) : (exch l i k)[j] = if j = k then l[i] else if j = i then l[k] else l[j]'(by rw [exch_length] at hj; exact hj) := by
  have h := exch_get l i k j hi hk (by rw [exch_length] at hj; exact hj)
  rw [List.getElem?_eq_getElem hj] at h
  exact Option.some.inj h
theorem exch_order {m : Nat} {l : List Int} (h : Order m l) (i k : Nat) (hi : i < m) (hk : k < m) : Order m (exch l i k) := by
  obtain ⟨h1, h2, h3⟩ := h
  refine ⟨by rw [exch_length, h1], ?_, ?_⟩
  · intro n hn
    unfold exch at hn
    have e1 : l.getD i 0 = l[i]'(by omega) := by simp [List.getD_eq_getElem?_getD, List.getElem?_eq_getElem (show i < l.length by omega)]
    have e2 : l.getD k 0 = l[k]'(by omega) := by simp [List.getD_eq_getElem?_getD, List.getElem?_eq_getElem (show k < l.length by omega)]
    rcases List.mem_or_eq_of_mem_set hn with hn | rfl
    · rcases List.mem_or_eq_of_mem_set hn with hn | rfl
      · exact h2 n hn
      · rw [e2]; exact h2 _ (List.getElem_mem _)
    · rw [e1]; exact h2 _ (List.getElem_mem _)
  · rw [List.nodup_iff_pairwise_ne, List.pairwise_iff_getElem] at h3 ⊢
    intro a b ha hb hab
    rw [exch_el l i k a (by omega) (by omega) ha, exch_el l i k b (by omega) (by omega) hb]
    rw [exch_length] at ha hb
    have ne : ∀ x y (hx : x < l.length) (hy : y < l.length), x ≠ y → l[x] ≠ l[y] := fun x y hx hy hne => by
      rcases Nat.lt_or_gt_of_ne hne with h | h
      · exact h3 x y hx hy h
      · exact fun e => h3 y x hy hx h e.symm
    split <;> split <;> (try split) <;> (try split) <;> (try apply ne) <;> (try omega)
theorem rising_order (m : Nat) : Order m (rising m) := by
  refine ⟨rising_length m, fun n hn => ?_, ?_⟩
  · obtain ⟨i, hi, rfl⟩ := List.mem_map.1 hn
    have := List.mem_range.1 hi
    omega
  · unfold rising
    rw [List.nodup_iff_pairwise_ne, List.pairwise_map]
    exact (List.nodup_iff_pairwise_ne.1 List.nodup_range).imp fun h e => h (by exact_mod_cast e)
theorem shufTo_order (L : List Int) (N m : Nat) : ∀ t, t + 1 ≤ m → Order m (shufTo L N m t)
  | 0, _ => rising_order m
  | t + 1, h => exch_order (shufTo_order L N m t (by omega)) _ _ (by omega) (by have := place_lt L N m t (by omega); omega)
theorem place_nil (N m t : Nat) : place [] N m t = 0 := by simp [place, lotAt]
/-- Without lots: what lies where behind so many exchanges. -/
def plainAt (m t j : Nat) : Int := if j = 0 then (if t = 0 then 0 else ((m - t : Nat) : Int)) else if j < m - t then (j : Int) else (((j + 1) % m : Nat) : Int)
theorem plain_get (N m : Nat) : ∀ t, t + 1 ≤ m → ∀ j, j < m → (shufTo [] N m t)[j]? = some (plainAt m t j)
  | 0, _, j, hj => by
    unfold shufTo rising plainAt
    rw [List.getElem?_map, List.getElem?_range hj]
    simp only [Option.map_some]
    split
    · rename_i h; rw [h]; rfl
    · rw [if_pos (by omega)]
  | t + 1, h, j, hj => by
    have ih := plain_get N m t (by omega)
    have hl := shufTo_length [] N m t
    unfold shufTo
    rw [place_nil, exch_get _ _ _ _ (by omega) (by omega) (by omega)]
    have g : ∀ i (hi : i < (shufTo [] N m t).length), (shufTo [] N m t)[i] = plainAt m t i := fun i hi => by
      have := ih i (by omega)
      rw [List.getElem?_eq_getElem hi] at this
      exact Option.some.inj this
    rw [g, g, g]
    have p0 : ∀ t, plainAt m t 0 = if t = 0 then 0 else ((m - t : Nat) : Int) := fun t => by unfold plainAt; rw [if_pos rfl]
    have pj : ∀ t j, j ≠ 0 → plainAt m t j = if j < m - t then (j : Int) else (((j + 1) % m : Nat) : Int) := fun t j h => by unfold plainAt; rw [if_neg h]
    by_cases h0 : j = 0
    · rw [if_pos h0, h0, p0, if_neg (by omega), pj _ _ (by omega), if_pos (by omega)]
      congr 2; omega
    · rw [if_neg h0, pj (t + 1) j h0]
      by_cases h1 : j = m - 1 - t
      · rw [if_pos h1, if_neg (by omega), p0]
        by_cases ht : t = 0
        · rw [if_pos ht, h1, ht, show m - 1 - 0 + 1 = m by omega, Nat.mod_self]; rfl
        · rw [if_neg ht, Nat.mod_eq_of_lt (by omega)]; congr 2; omega
      · rw [if_neg h1, pj t j h0]
        by_cases h2 : j < m - t
        · rw [if_pos h2, if_pos (by omega)]
        · rw [if_neg h2, if_neg (by omega)]
theorem plain_end (N m : Nat) (hm : 1 ≤ m) (j : Nat) (hj : j < m) : (shufTo [] N m (m - 1))[j]? = some (((j + 1) % m : Nat) : Int) := by
  rw [plain_get N m (m - 1) (by omega) j hj]
  unfold plainAt
  by_cases h0 : j = 0
  · rw [if_pos h0, h0]
    by_cases h1 : m = 1
    · rw [if_pos (by omega), h1]; rfl
    · rw [if_neg (by omega), Nat.mod_eq_of_lt (by omega)]; congr 2; omega
  · rw [if_neg h0, if_neg (by omega)]
theorem shuf_nums (L : List Int) (N : Nat) (n : Int) : ∀ x ∈ shuf L N n, 0 ≤ x ∧ x ≤ 64 := by
  unfold shuf
  split
  · simp
  · intro x hx
    have h := (shufTo_order L N n.toNat (n.toNat - 1) (by omega)).2.1 x hx
    omega
theorem shufN_le (n : Int) : shufN n ≤ 63 := by unfold shufN; split <;> omega
theorem pickN_le (n : Int) : pickN n ≤ 1 := by unfold pickN; split <;> omega
end Lot
end Go.Proofs.Ytfoomffbjjcjjaa
