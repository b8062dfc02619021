/-
  Rounds, as plain mathematics: nodes in an order, how many were told; ordered anew by lots, one told, one put in, one taken out.
-/
import Derived.Test.YtfoomffbjjcjjaaLot
namespace Go.Proofs.Ytfoomffbjjcjjaa
set_option linter.unusedSimpArgs false
set_option linter.unusedVariables false
open Lot
namespace Rd
structure St where
  L : List Int
  t : Nat
structure OK (s : St) : Prop where
  nd : s.L.Nodup
  may : ∀ n ∈ s.L, 1 ≤ n ∧ n ≤ 64
  told : s.t ≤ s.L.length
theorem few : ∀ (N : Nat) (l : List Int), l.Nodup → (∀ x ∈ l, 1 ≤ x ∧ x ≤ N) → l.length ≤ N
  | 0, l, _, h => by
    cases l with
    | nil => simp
    | cons a l => have := h a (by simp); omega
  | N + 1, l, hn, h => by
    by_cases hm : ((N + 1 : Nat) : Int) ∈ l
    · have h1 := few N (l.erase ((N + 1 : Nat) : Int)) (hn.sublist List.erase_sublist) (fun x hx => by
        have h2 := (hn.mem_erase_iff).1 hx
        have h3 := h x h2.2
        have := h2.1
        omega)
      have h2 := List.length_erase_of_mem hm
      omega
    · have := few N l hn (fun x hx => by
        have h3 := h x hx
        have : x ≠ ((N + 1 : Nat) : Int) := fun e => hm (e ▸ hx)
        omega)
      omega
theorem OK.len {s : St} (h : OK s) : s.L.length ≤ 64 := few 64 s.L h.nd h.may
theorem OK.nil : OK ⟨[], 0⟩ := ⟨List.nodup_nil, by simp, Nat.le_refl _⟩
/-- An order that lots say. -/
def ordered (L : List Int) (Ls : List Int) (N : Nat) : List Int := (shuf Ls N L.length).map fun i => L.getD i.toNat 0
theorem shuf_order {Ls : List Int} {N m : Nat} (hm : m ≤ 64) : Order m (shuf Ls N m) := by
  unfold shuf
  by_cases h : 1 ≤ m
  · rw [if_neg (by omega)]
    have := shufTo_order Ls N m (m - 1) (by omega)
    rwa [show ((m : Nat) : Int).toNat = m by omega]
  · obtain rfl : m = 0 := by omega
    rw [if_pos (by omega)]
    exact ⟨rfl, by simp, List.nodup_nil⟩
theorem ordered_len {L Ls : List Int} {N : Nat} (h : L.length ≤ 64) : (ordered L Ls N).length = L.length := by
  unfold ordered; rw [List.length_map]; exact (shuf_order h).1
theorem ordered_mem {L Ls : List Int} {N : Nat} (h : L.length ≤ 64) {x : Int} (hx : x ∈ ordered L Ls N) : x ∈ L := by
  obtain ⟨i, hi, rfl⟩ := List.mem_map.1 hx
  have hb := (shuf_order h).2.1 i hi
  rw [List.getD_eq_getElem?_getD, List.getElem?_eq_getElem (by omega)]
  exact List.getElem_mem _
theorem ordered_nodup {L Ls : List Int} {N : Nat} (h : L.length ≤ 64) (hn : L.Nodup) : (ordered L Ls N).Nodup := by
  obtain ⟨hl, hb, hnd⟩ := shuf_order (Ls := Ls) (N := N) h
  unfold ordered
  rw [List.Nodup, List.pairwise_iff_getElem] at hnd ⊢
  intro i j hi hj hij
  rw [List.length_map] at hi hj
  rw [List.getElem_map, List.getElem_map]
  have h1 := hnd i j hi hj hij
  have b1 := hb _ (List.getElem_mem hi)
  have b2 := hb _ (List.getElem_mem hj)
  generalize (shuf Ls N L.length)[i] = x at *
  generalize (shuf Ls N L.length)[j] = y at *
  rw [List.getD_eq_getElem?_getD, List.getD_eq_getElem?_getD, List.getElem?_eq_getElem (by omega), List.getElem?_eq_getElem (by omega)]
  simp only [Option.getD_some]
  intro e
  have hp := List.pairwise_iff_getElem.1 hn
  rcases Nat.lt_trichotomy x.toNat y.toNat with h2 | h2 | h2
  · exact hp _ _ (by omega) (by omega) h2 e
  · omega
  · exact hp _ _ (by omega) (by omega) h2 e.symm
theorem OK.order {s : St} (h : OK s) (Ls : List Int) (N : Nat) : OK ⟨ordered s.L Ls N, 0⟩ :=
  ⟨ordered_nodup h.len h.nd, fun n hn => h.may n (ordered_mem h.len hn), Nat.zero_le _⟩
/-- Ordered anew, if all were told. -/
def again (s : St) (Ls : List Int) (N : Nat) : St := if s.t = s.L.length then ⟨ordered s.L Ls N, 0⟩ else s
def againN (s : St) (N : Nat) : Nat := if s.t = s.L.length then N + shufN s.L.length else N
theorem again_len {s : St} (h : OK s) (Ls : List Int) (N : Nat) : (again s Ls N).L.length = s.L.length := by
  unfold again; split
  · exact ordered_len h.len
  · rfl
theorem again_OK {s : St} (h : OK s) (Ls : List Int) (N : Nat) : OK (again s Ls N) := by
  unfold again; split
  · exact h.order Ls N
  · exact h
theorem again_lt {s : St} (h : OK s) (hn : s.L ≠ []) (Ls : List Int) (N : Nat) : (again s Ls N).t < (again s Ls N).L.length := by
  have h0 : 0 < s.L.length := List.length_pos_iff.2 hn
  have := h.told
  rw [again_len h]
  unfold again
  split
  · exact h0
  · omega
/-- One told: the round, how many lots were used, the answer. -/
def nextS (s : St) (Ls : List Int) (N : Nat) : St := if s.L = [] then s else ⟨(again s Ls N).L, (again s Ls N).t + 1⟩
def nextN (s : St) (N : Nat) : Nat := if s.L = [] then N else againN s N
def nextV (s : St) (Ls : List Int) (N : Nat) : Int := if s.L = [] then 0 else (again s Ls N).L.getD (again s Ls N).t 0
theorem next_OK {s : St} (h : OK s) (Ls : List Int) (N : Nat) : OK (nextS s Ls N) := by
  unfold nextS; split
  · exact h
  · have h1 := again_OK h Ls N
    exact ⟨h1.nd, h1.may, again_lt h (by assumption) Ls N⟩
/-- Where a node stands. -/
def at_ (L : List Int) (n : Int) : Nat := L.findIdx fun y => decide (y = n)
def idx (L : List Int) (n : Int) : Int := if at_ L n < L.length then at_ L n else -1
theorem at_here {L : List Int} {n : Int} (h : at_ L n < L.length) : L[at_ L n] = n := by
  have h1 := List.findIdx_getElem (p := fun y : Int => decide (y = n)) (xs := L) (w := h)
  exact of_decide_eq_true h1
theorem at_before {L : List Int} {n : Int} (k : Nat) (h : k < at_ L n) (hk : k < L.length) : L[k] ≠ n := by
  have := List.not_of_lt_findIdx (p := fun y : Int => decide (y = n)) (xs := L) (i := k) h
  simpa using this
theorem at_of {L : List Int} {n : Int} {k : Nat} (hk : k < L.length) (he : L[k] = n) (hb : ∀ j (hj : j < k), L[j] ≠ n) : at_ L n = k := by
  have h1 : at_ L n < L.length := List.findIdx_lt_length_of_exists ⟨_, List.getElem_mem hk, by simpa using he⟩
  rcases Nat.lt_trichotomy (at_ L n) k with h | h | h
  · exact absurd (at_here h1) (hb _ h)
  · exact h
  · exact absurd he (at_before k h hk)
theorem at_none {L : List Int} {n : Int} (hb : ∀ j (hj : j < L.length), L[j] ≠ n) : ¬ at_ L n < L.length := fun h => hb _ h (at_here h)
theorem at_mem {L : List Int} {n : Int} : at_ L n < L.length ↔ n ∈ L := by
  constructor
  · intro h; rw [← at_here h]; exact List.getElem_mem h
  · intro h; exact List.findIdx_lt_length_of_exists ⟨n, h, by simp⟩
/-- One put in: the error, where, the round, how many lots. -/
def addE (L : List Int) (n : Int) : Int := if 1 ≤ n ∧ n ≤ 64 then (if n ∈ L then 7 else 0) else 2
def addK (s : St) (Ls : List Int) (N : Nat) : Nat := s.t + (pickV Ls N ((s.L.length : Int) - s.t + 1)).toNat
def addS (s : St) (n : Int) (Ls : List Int) (N : Nat) : St := if addE s.L n = 0 then ⟨s.L.take (addK s Ls N) ++ n :: s.L.drop (addK s Ls N), s.t⟩ else s
def addN (s : St) (n : Int) (N : Nat) : Nat := if addE s.L n = 0 then N + pickN ((s.L.length : Int) - s.t + 1) else N
theorem add_OK {s : St} (h : OK s) (n : Int) (Ls : List Int) (N : Nat) : OK (addS s n Ls N) := by
  unfold addS
  split
  · rename_i he
    unfold addE at he
    split at he
    · split at he
      · cases he
      · rename_i h1 h2
        have hp : (s.L.take (addK s Ls N) ++ n :: s.L.drop (addK s Ls N)).Perm (n :: s.L) := by
          refine List.perm_middle.trans ?_
          rw [List.take_append_drop]
        refine ⟨hp.nodup_iff.2 (List.nodup_cons.2 ⟨h2, h.nd⟩), fun x hx => ?_, ?_⟩
        · rcases List.mem_cons.1 (hp.mem_iff.1 hx) with rfl | hx
          · exact h1
          · exact h.may x hx
        · have := h.told
          rw [show (⟨s.L.take (addK s Ls N) ++ n :: s.L.drop (addK s Ls N), s.t⟩ : St).L.length = s.L.length + 1 from hp.length_eq]
          show s.t ≤ _
          omega
    · cases he
  · exact h
/-- One taken out. -/
def remS (s : St) (n : Int) : St := if at_ s.L n < s.L.length then ⟨s.L.eraseIdx (at_ s.L n), if at_ s.L n < s.t then s.t - 1 else s.t⟩ else s
def remE (s : St) (n : Int) : Int := if at_ s.L n < s.L.length then 0 else 6
theorem rem_OK {s : St} (h : OK s) (n : Int) : OK (remS s n) := by
  unfold remS
  split
  · rename_i hl
    have hs := List.eraseIdx_sublist s.L (at_ s.L n)
    refine ⟨h.nd.sublist hs, fun x hx => h.may x (hs.subset hx), ?_⟩
    have := h.told
    show (if at_ s.L n < s.t then s.t - 1 else s.t) ≤ (s.L.eraseIdx (at_ s.L n)).length
    rw [List.length_eraseIdx, if_pos hl]
    split <;> omega
  · exact h
end Rd
end Go.Proofs.Ytfoomffbjjcjjaa
