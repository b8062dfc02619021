/-
  Rounds, as plain mathematics: one that comes, one that goes.
-/
import Derived.Test.YtfoomffbjjcjjaaRd
namespace Go.Proofs.Ytfoomffbjjcjjaa
set_option linter.unusedSimpArgs false
set_option linter.unusedVariables false
open Lot
namespace Rd
/-- An order of m nodes, so many told. -/
structure Sixty (m t : Nat) (L : List Int) : Prop where
  ok : OK ⟨L, t⟩
  len : L.length = m
  top : ∀ x ∈ L, x ≤ m
  few : m ≤ 60
theorem Sixty.has {m t : Nat} {L : List Int} (h : Sixty m t L) {x : Int} (h1 : 1 ≤ x) (h2 : x ≤ m) : x ∈ L := by
  apply Classical.byContradiction
  intro hx
  have := Rd.few m (x :: L) (List.nodup_cons.2 ⟨hx, h.ok.nd⟩) (fun y hy => by
    rcases List.mem_cons.1 hy with rfl | hy
    · exact ⟨h1, h2⟩
    · exact ⟨(h.ok.may y hy).1, h.top y hy⟩)
  rw [List.length_cons, h.len] at this
  omega
theorem Sixty.not64 {m t : Nat} {L : List Int} (h : Sixty m t L) : (64 : Int) ∉ L := fun e => by have h1 := h.top 64 e; have h2 := h.few; omega
theorem Sixty.again {m t : Nat} {L Ls : List Int} {N : Nat} (h : Sixty m t L) (ht : t < m) : Rd.again ⟨L, t⟩ Ls N = ⟨L, t⟩ ∧ againN ⟨L, t⟩ N = N :=
  ⟨if_neg (by show ¬ t = L.length; rw [h.len]; omega), if_neg (by show ¬ t = L.length; rw [h.len]; omega)⟩
theorem Sixty.next {m t : Nat} {L Ls : List Int} {N : Nat} (h : Sixty m t L) (ht : t < m) : nextS ⟨L, t⟩ Ls N = ⟨L, t + 1⟩ ∧ nextV ⟨L, t⟩ Ls N = L.getD t 0 ∧ nextN ⟨L, t⟩ N = N ∧ Sixty m (t + 1) L := by
  have hn : L ≠ [] := fun e => by have := h.len; rw [e] at this; simp at this; omega
  obtain ⟨h1, h2⟩ := h.again (Ls := Ls) (N := N) ht
  refine ⟨?_, ?_, ?_, ⟨⟨h.ok.nd, h.ok.may, by show t + 1 ≤ L.length; rw [h.len]; exact ht⟩, h.len, h.top, h.few⟩⟩
  · unfold nextS; rw [if_neg hn, h1]
  · unfold nextV; rw [if_neg hn, h1]
  · unfold nextN; rw [if_neg hn, h2]
/-- With one put in behind k of them. -/
abbrev putIn (L : List Int) (k : Nat) : List Int := L.take k ++ 64 :: L.drop k
theorem putIn_lt {L : List Int} {k i : Nat} (hk : k ≤ L.length) (h : i < k) : (putIn L k)[i]? = L[i]? := by
  unfold putIn
  rw [List.getElem?_append_left (by rw [List.length_take]; omega), List.getElem?_take_of_lt h]
theorem putIn_eq {L : List Int} {k : Nat} (hk : k ≤ L.length) : (putIn L k)[k]? = some 64 := by
  unfold putIn
  rw [List.getElem?_append_right (by rw [List.length_take]; omega), List.length_take, show k - min k L.length = 0 by omega]
  rfl
theorem putIn_gt {L : List Int} {k i : Nat} (hk : k ≤ L.length) (h : k ≤ i) : (putIn L k)[i + 1]? = L[i]? := by
  unfold putIn
  rw [List.getElem?_append_right (by rw [List.length_take]; omega), List.length_take, show i + 1 - min k L.length = (i - k) + 1 by omega, List.getElem?_cons_succ, List.getElem?_drop]
  congr 1; omega
theorem putIn_len {L : List Int} {k : Nat} (hk : k ≤ L.length) : (putIn L k).length = L.length + 1 := by
  unfold putIn; rw [List.length_append, List.length_cons, List.length_take, List.length_drop]; omega
/-- Behind one that went: where the one that came stands. -/
structure Gone (m t k : Nat) (Q : List Int) (g : Int) : Prop where
  ok : OK ⟨Q, t⟩
  len : Q.length = m
  lo : t ≤ k
  hi : k < m
  at64 : Q[k]? = some 64
  out : g ∉ Q
theorem gone_of {m t k : Nat} {L : List Int} {g : Int} (h : Sixty m t L) (htk : t ≤ k) (hkm : k ≤ m) (h1 : 1 ≤ g) (h2 : g ≤ m) (hok : OK ⟨putIn L k, t⟩) :
    ∃ Q t' k', remS ⟨putIn L k, t⟩ g = ⟨Q, t'⟩ ∧ remE ⟨putIn L k, t⟩ g = 0 ∧ Gone m t' k' Q g ∧ remS ⟨Q, t'⟩ g = ⟨Q, t'⟩ ∧ remE ⟨Q, t'⟩ g = 6 := by
  have hkL : k ≤ L.length := by rw [h.len]; exact hkm
  have hlen := putIn_len hkL
  rw [h.len] at hlen
  have hg : g ∈ putIn L k := by
    have := h.has h1 h2
    rw [← List.take_append_drop k L] at this
    rcases List.mem_append.1 this with h3 | h3
    · exact List.mem_append.2 (.inl h3)
    · exact List.mem_append.2 (.inr (List.mem_cons_of_mem _ h3))
  have hat := at_mem.2 hg
  have h64 := putIn_eq hkL
  have hag := at_here hat
  have hre := rem_OK hok g
  obtain ⟨a, ha⟩ : ∃ a, a = at_ (putIn L k) g := ⟨_, rfl⟩
  have hS : remS ⟨putIn L k, t⟩ g = ⟨(putIn L k).eraseIdx a, if a < t then t - 1 else t⟩ := by rw [ha]; exact if_pos hat
  have hE : remE ⟨putIn L k, t⟩ g = 0 := if_pos hat
  rw [hS] at hre
  have hnd := hok.nd
  dsimp only at hnd
  rw [← ha] at hat
  have hag' : (putIn L k)[a]? = some g := by rw [List.getElem?_eq_getElem hat]; subst ha; rw [hag]
  have hf := h.few
  have hak : a ≠ k := by
    rintro rfl
    rw [h64] at hag'
    have : (64 : Int) = g := Option.some.inj hag'
    omega
  generalize putIn L k = P at *
  have hgo : g ∉ P.eraseIdx a := by
    intro hin
    obtain ⟨i, hi, hie⟩ := List.mem_iff_getElem.1 hin
    have hp := List.pairwise_iff_getElem.1 hnd
    rw [List.length_eraseIdx, if_pos hat] at hi
    rw [List.getElem_eraseIdx] at hie
    rw [List.getElem?_eq_getElem hat] at hag'
    have hag2 : P[a] = g := Option.some.inj hag'
    split at hie
    · exact hp i a (by omega) hat (by omega) (by rw [hie, hag2])
    · exact hp a (i + 1) hat (by omega) (by omega) (by rw [hie, hag2])
  have hnot : ¬ at_ (P.eraseIdx a) g < (P.eraseIdx a).length := fun e => hgo (at_mem.1 e)
  refine ⟨P.eraseIdx a, if a < t then t - 1 else t, if a < k then k - 1 else k, hS, hE, ⟨hre, by rw [List.length_eraseIdx, if_pos hat, hlen]; rfl, ?_, ?_, ?_, hgo⟩, if_neg hnot, if_neg hnot⟩
  · split <;> split <;> omega
  · split <;> omega
  · rw [List.getElem?_eraseIdx]
    split
    · rename_i hlt
      rw [if_neg (by omega), show k - 1 + 1 = k by omega]; exact h64
    · rw [if_pos (by omega)]; exact h64
theorem Gone.ne64 {m t k i : Nat} {Q : List Int} {g : Int} (h : Gone m t k Q g) (hi : i < m) (hne : i ≠ k) : Q.getD i 0 ≠ 64 := by
  have hp := List.pairwise_iff_getElem.1 h.ok.nd
  have hl := h.len
  have hk := h.hi
  have h64 := h.at64
  rw [List.getElem?_eq_getElem (by omega)] at h64
  have h64 : Q[k] = 64 := Option.some.inj h64
  rw [List.getD_eq_getElem?_getD, List.getElem?_eq_getElem (by omega)]
  intro e
  have e : Q[i] = 64 := e
  rcases Nat.lt_trichotomy i k with h1 | h1 | h1
  · exact hp i k (by show i < Q.length; omega) (by show k < Q.length; omega) h1 (by show Q[i] = Q[k]; rw [e, h64])
  · exact hne h1
  · exact hp k i (by show k < Q.length; omega) (by show i < Q.length; omega) h1 (by show Q[k] = Q[i]; rw [e, h64])
theorem Gone.el {m t k i : Nat} {Q : List Int} {g : Int} (h : Gone m t k Q g) (hi : i < m) : Q.getD i 0 ≠ g ∧ Q.getD i 0 ≠ 0 := by
  have hl := h.len
  rw [List.getD_eq_getElem?_getD, List.getElem?_eq_getElem (by omega)]
  have hm : Q[i]'(by omega) ∈ Q := List.getElem_mem _
  exact ⟨fun e => h.out (by rw [← show Q[i]'(by omega) = g from e]; exact hm), fun e => by have := (h.ok.may _ hm).1; have e : Q[i]'(by omega) = 0 := e; omega⟩
theorem Gone.next {m t k i : Nat} {Q Ls : List Int} {N : Nat} {g : Int} (h : Gone m t k Q g) (ht : i < m) : nextS ⟨Q, i⟩ Ls N = ⟨Q, i + 1⟩ ∧ nextV ⟨Q, i⟩ Ls N = Q.getD i 0 ∧ nextN ⟨Q, i⟩ N = N := by
  have hl := h.len
  have hn : Q ≠ [] := fun e => by rw [e] at hl; simp at hl; omega
  have h1 : Rd.again ⟨Q, i⟩ Ls N = ⟨Q, i⟩ := if_neg (by show ¬ i = Q.length; omega)
  have h2 : againN ⟨Q, i⟩ N = N := if_neg (by show ¬ i = Q.length; omega)
  refine ⟨?_, ?_, ?_⟩
  · unfold nextS; rw [if_neg hn, h1]
  · unfold nextV; rw [if_neg hn, h1]
  · unfold nextN; rw [if_neg hn, h2]
end Rd
end Go.Proofs.Ytfoomffbjjcjjaa
