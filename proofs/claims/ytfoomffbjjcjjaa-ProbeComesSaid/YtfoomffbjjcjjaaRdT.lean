/-
  Rounds, as plain mathematics: whose turn it is; when each was told last.
-/
import Derived.Test.YtfoomffbjjcjjaaRd
namespace Go.Proofs.Ytfoomffbjjcjjaa
set_option linter.unusedSimpArgs false
set_option linter.unusedVariables false
open Lot
namespace Rd
/-- When a node was told last. -/
abbrev lastOf (la : List Int) (x : Int) : Int := la.getD x.toNat 0
/-- Behind j turns of m nodes. -/
structure Turn (m j : Nat) (s : St) (la : List Int) : Prop where
  ok : OK s
  len : s.L.length = m
  top : ∀ x ∈ s.L, x ≤ m
  lal : la.length = m + 1
  old : ∃ q, j = q * m + s.t ∧ ∀ k (hk : k < s.L.length), (k < s.t → lastOf la s.L[k] = q * m + k + 1) ∧ (s.t ≤ k → (q = 0 ∧ lastOf la s.L[k] = 0) ∨ (0 < q ∧ ((q - 1 : Nat) : Int) * m < lastOf la s.L[k] ∧ lastOf la s.L[k] ≤ q * m))
theorem Turn.start {m : Nat} {L : List Int} (hok : OK ⟨L, 0⟩) (hl : L.length = m) (ht : ∀ x ∈ L, x ≤ m) : Turn m 0 ⟨L, 0⟩ (List.replicate (m + 1) 0) where
  ok := hok
  len := hl
  top := ht
  lal := by simp
  old := ⟨0, by simp, fun k hk => ⟨fun h => by simp at h, fun _ => Or.inl ⟨rfl, by
    unfold lastOf
    rw [List.getD_eq_getElem?_getD, List.getElem?_replicate]
    split <;> rfl⟩⟩⟩
theorem Turn.again {m j : Nat} {s : St} {la : List Int} (h : Turn m j s la) (Ls : List Int) (N : Nat) : Turn m j (Rd.again s Ls N) la := by
  unfold Rd.again
  split
  · rename_i ht
    obtain ⟨q, hj, hq⟩ := h.old
    refine ⟨h.ok.order Ls N, ?_, fun x hx => h.top x (ordered_mem h.ok.len hx), h.lal, q + 1, ?_, fun k hk => ⟨fun h0 => by simp at h0, fun _ => Or.inr ⟨by omega, ?_⟩⟩⟩
    · show (ordered s.L Ls N).length = m
      rw [ordered_len h.ok.len, h.len]
    · show j = (q + 1) * m + 0
      rw [Nat.succ_mul, hj, ht, h.len]; omega
    · have hm : (ordered s.L Ls N)[k] ∈ s.L := ordered_mem h.ok.len (List.getElem_mem _)
      obtain ⟨k', hk', he⟩ := List.mem_iff_getElem.1 hm
      have h1 := (hq k' hk').1 (by omega)
      show (((q + 1 - 1 : Nat) : Int) * m < lastOf la (ordered s.L Ls N)[k] ∧ lastOf la (ordered s.L Ls N)[k] ≤ ((q + 1 : Nat) : Int) * m)
      rw [← he, h1]
      have h2 := h.len
      rw [Nat.add_sub_cancel]
      have h3 : ((q + 1 : Nat) : Int) * (m : Int) = (q : Int) * m + m := by rw [Int.natCast_add, Int.add_mul]; simp
      rw [h3]
      generalize (q : Int) * (m : Int) = z
      omega
  · exact h
/-- What is told of the one whose turn it is. -/
structure Told (m j : Nat) (s : St) (la : List Int) (x : Int) : Prop where
  low : 1 ≤ x
  top : x ≤ m
  mod : j % m = s.t
  div : 0 < lastOf la x → ((j : Int) + 1) - lastOf la x ≤ 2 * m - 1
  apart : 0 < lastOf la x → (lastOf la x - 1) / m ≠ (j : Int) / m
  least : 0 ≤ lastOf la x
  most : lastOf la x ≤ j
  next : Turn m (j + 1) ⟨s.L, s.t + 1⟩ (la.set x.toNat ((j : Int) + 1))
theorem Turn.told {m j : Nat} {s : St} {la : List Int} (h : Turn m j s la) (ht : s.t < m) : Told m j s la (s.L.getD s.t 0) := by
  obtain ⟨q, hj, hq⟩ := h.old
  have hl : s.t < s.L.length := by rw [h.len]; exact ht
  have hx : s.L.getD s.t 0 = s.L[s.t] := by rw [List.getD_eq_getElem?_getD, List.getElem?_eq_getElem hl]; rfl
  rw [hx]
  have hmem : s.L[s.t] ∈ s.L := List.getElem_mem hl
  have h1 := (h.ok.may _ hmem).1
  have h2 := h.top _ hmem
  have hv := (hq s.t hl).2 (Nat.le_refl _)
  have hm : 0 < m := by omega
  have hmod : j % m = s.t := by rw [hj, Nat.mul_comm, Nat.mul_add_mod, Nat.mod_eq_of_lt ht]
  have hdiv : (j : Int) / (m : Int) = q := by
    rw [hj]
    rw [show ((q * m + s.t : Nat) : Int) = (s.t : Int) + (m : Int) * (q : Int) by rw [Int.natCast_add, Int.natCast_mul, Int.mul_comm (m : Int)]; omega, Int.add_mul_ediv_left _ _ (by omega), Int.ediv_eq_zero_of_lt (by omega) (by omega)]
    omega
  have hj2 : (j : Int) = (q : Int) * m + s.t := by rw [hj]; simp
  refine ⟨h1, h2, hmod, fun h0 => ?_, fun h0 => ?_, ?_, ?_, ?_⟩
  · rcases hv with ⟨_, hv⟩ | ⟨hq0, hv1, hv2⟩
    · omega
    · have h3 : ((q - 1 : Nat) : Int) * (m : Int) = (q : Int) * m - m := by rw [show ((q - 1 : Nat) : Int) = (q : Int) - 1 by omega, Int.sub_mul]; simp
      rw [h3] at hv1
      rw [hj2]
      generalize (q : Int) * (m : Int) = z at *
      omega
  · rcases hv with ⟨_, hv⟩ | ⟨hq0, hv1, hv2⟩
    · omega
    · rw [hdiv]
      intro e
      have h4 := Int.mul_ediv_add_emod (lastOf la s.L[s.t] - 1) m
      have h5 := Int.emod_nonneg (lastOf la s.L[s.t] - 1) (show (m : Int) ≠ 0 by omega)
      rw [e, Int.mul_comm] at h4
      generalize (q : Int) * (m : Int) = z at *
      omega
  · rcases hv with ⟨_, hv⟩ | ⟨hq0, hv1, hv2⟩
    · omega
    · have : (0 : Int) ≤ ((q - 1 : Nat) : Int) * (m : Int) := Int.mul_nonneg (by omega) (by omega)
      omega
  · rcases hv with ⟨_, hv⟩ | ⟨hq0, hv1, hv2⟩
    · omega
    · rw [hj2]; omega
  · refine ⟨⟨h.ok.nd, h.ok.may, hl⟩, h.len, h.top, by rw [List.length_set]; exact h.lal, q, by rw [hj]; show _ = _ + (s.t + 1); omega, fun k hk => ?_⟩
    have hk' : k < s.L.length := hk
    show (k < s.t + 1 → lastOf (la.set s.L[s.t].toNat ((j : Int) + 1)) s.L[k] = q * m + k + 1) ∧ (s.t + 1 ≤ k → (q = 0 ∧ lastOf (la.set s.L[s.t].toNat ((j : Int) + 1)) s.L[k] = 0) ∨ (0 < q ∧ ((q - 1 : Nat) : Int) * m < lastOf (la.set s.L[s.t].toNat ((j : Int) + 1)) s.L[k] ∧ lastOf (la.set s.L[s.t].toNat ((j : Int) + 1)) s.L[k] ≤ q * m))
    by_cases hkt : k = s.t
    · subst hkt
      refine ⟨fun _ => ?_, fun h0 => by omega⟩
      unfold lastOf
      rw [List.getD_eq_getElem?_getD, List.getElem?_set_self (by rw [h.lal]; omega)]
      show (j : Int) + 1 = _
      omega
    · have hne : s.L[k] ≠ s.L[s.t] := by
        have hp := List.pairwise_iff_getElem.1 h.ok.nd
        rcases Nat.lt_trichotomy k s.t with h6 | h6 | h6
        · exact hp _ _ hk' hl h6
        · exact absurd h6 hkt
        · exact (hp _ _ hl hk' h6).symm
      have hk1 := (h.ok.may _ (List.getElem_mem hk')).1
      have he : lastOf (la.set s.L[s.t].toNat ((j : Int) + 1)) s.L[k] = lastOf la s.L[k] := by
        unfold lastOf
        rw [List.getD_eq_getElem?_getD, List.getD_eq_getElem?_getD, List.getElem?_set_ne (by omega)]
      rw [he]
      exact ⟨fun h0 => (hq k hk').1 (by omega), fun h0 => (hq k hk').2 (by omega)⟩
end Rd
end Go.Proofs.Ytfoomffbjjcjjaa
