/-
  Plain mathematics of the reference's digest: words by words, blocks by blocks of the filled message.
-/
import Derived.Test.YtpbdajgbahnbjaaSha2
namespace Go.Proofs.Ytpbdajgbahnbjaa
set_option linter.unusedSimpArgs false
set_option linter.unusedVariables false
namespace Sha
theorem getD_set_ne' {α : Type} (l : List α) (i j : Nat) (x d : α) (h : i ≠ j) : (l.set i x).getD j d = l.getD j d := by
  rw [List.getD_eq_getElem?_getD, List.getD_eq_getElem?_getD, List.getElem?_set_ne h]
theorem getD_set_eq' {α : Type} (l : List α) (i : Nat) (x d : α) (h : i < l.length) : (l.set i x).getD i d = x := by
  rw [List.getD_eq_getElem?_getD, List.getElem?_set_self h]; rfl
/-! ### A block's words -/
theorem fill_other (zs : List Int) (i t : Nat) (h : i / 4 ≠ t) : (fill zs (i + 1)).getD t 0 = (fill zs i).getD t 0 := by
  rw [fill, fillStep, getD_set_ne' _ _ _ _ _ h]
theorem fill_early (zs : List Int) (t : Nat) (ht : t < 64) : ∀ i, i ≤ 4 * t → (fill zs i).getD t 0 = 0#32
  | 0, _ => by rw [fill, List.getD_eq_getElem?_getD, List.getElem?_replicate, if_pos ht]; rfl
  | i + 1, h => by rw [fill_other zs i t (by omega)]; exact fill_early zs t ht i (by omega)
theorem fill_late (zs : List Int) (t : Nat) : ∀ j, (fill zs (4 * t + 4 + j)).getD t 0 = (fill zs (4 * t + 4)).getD t 0
  | 0 => rfl
  | j + 1 => by rw [show 4 * t + 4 + (j + 1) = (4 * t + 4 + j) + 1 by omega, fill_other zs _ t (by omega)]; exact fill_late zs t j
def shin (x : W) (c : Int) : W := x <<< 8 ||| BitVec.ofInt 32 c
theorem fill_own (zs : List Int) (i t : Nat) (ht : t < 64) (h : i / 4 = t) : (fill zs (i + 1)).getD t 0 = shin ((fill zs i).getD t 0) (zs.getD i 0) := by
  subst h
  rw [fill, fillStep, getD_set_eq' _ _ _ _ (by rw [fill_length]; exact ht)]; rfl
theorem fill_four (zs : List Int) (t : Nat) (ht : t < 16) : (fill zs 64).getD t 0 = shin (shin (shin (shin 0#32 (zs.getD (4 * t) 0)) (zs.getD (4 * t + 1) 0)) (zs.getD (4 * t + 2) 0)) (zs.getD (4 * t + 3) 0) := by
  have h := fill_late zs t (60 - 4 * t)
  rw [show 4 * t + 4 + (60 - 4 * t) = 64 by omega] at h
  rw [h, fill_own zs (4 * t + 3) t (by omega) (by omega), fill_own zs (4 * t + 2) t (by omega) (by omega), fill_own zs (4 * t + 1) t (by omega) (by omega), fill_own zs (4 * t) t (by omega) (by omega), fill_early zs t (by omega) _ (Nat.le_refl _)]
theorem shin_U (x : W) (c : Int) (hx : U x < 16777216) (hc : 0 ≤ c ∧ c ≤ 255) : U (shin x c) = U x * 256 + c := by
  obtain ⟨k, rfl⟩ := Int.eq_ofNat_of_zero_le hc.1
  unfold shin U at *
  have hk : (BitVec.ofInt 32 (k : Int)).toNat = k := by simp; omega
  rw [BitVec.toNat_or, BitVec.toNat_shiftLeft, hk, Nat.mod_eq_of_lt (by rw [Nat.shiftLeft_eq]; omega), ← Nat.shiftLeft_add_eq_or_of_lt (by omega), Nat.shiftLeft_eq]
  omega
theorem four_U (a b c d : Int) (ha : 0 ≤ a ∧ a ≤ 255) (hb : 0 ≤ b ∧ b ≤ 255) (hc : 0 ≤ c ∧ c ≤ 255) (hd : 0 ≤ d ∧ d ≤ 255) :
    U (shin (shin (shin (shin 0#32 a) b) c) d) = ((a * 256 + b) * 256 + c) * 256 + d := by
  have h0 : U 0#32 = 0 := by decide
  have h1 := shin_U 0#32 a (by omega) ha
  have h2 := shin_U (shin 0#32 a) b (by omega) hb
  have h3 := shin_U (shin (shin 0#32 a) b) c (by omega) hc
  have h4 := shin_U (shin (shin (shin 0#32 a) b) c) d (by omega) hd
  omega
theorem ext_other (l : List W) (k j : Nat) (h : k + 16 ≠ j) : (ext l (k + 1)).getD j 0 = (ext l k).getD j 0 := by
  rw [ext, extStep, getD_set_ne' _ _ _ _ _ h]
theorem ext_late (l : List W) (k j : Nat) (h : j < k + 16) : ∀ n, (ext l (k + n)).getD j 0 = (ext l k).getD j 0
  | 0 => rfl
  | n + 1 => by rw [show k + (n + 1) = (k + n) + 1 by omega, ext_other l _ j (by omega)]; exact ext_late l k j h n
theorem ext_own (l : List W) (k : Nat) (h : k + 16 < l.length) : (ext l (k + 1)).getD (k + 16) 0 = (ext l k).getD k 0 + small0 ((ext l k).getD (k + 1) 0) + (ext l k).getD (k + 9) 0 + small1 ((ext l k).getD (k + 14) 0) := by
  rw [ext, extStep, getD_set_eq' _ _ _ _ (by rw [ext_length]; exact h)]
theorem words_low (zs : List Int) (t : Nat) (ht : t < 16) : (wordsOf zs).getD t 0 = shin (shin (shin (shin 0#32 (zs.getD (4 * t) 0)) (zs.getD (4 * t + 1) 0)) (zs.getD (4 * t + 2) 0)) (zs.getD (4 * t + 3) 0) := by
  rw [wordsOf_eq, ← fill_four zs t ht]
  have := ext_late (fill zs 64) 0 t (by omega) 48
  rw [Nat.zero_add] at this
  rw [this, ext]
theorem words_high (zs : List Int) (k : Nat) (hk : k < 48) : (wordsOf zs).getD (k + 16) 0 = (wordsOf zs).getD k 0 + small0 ((wordsOf zs).getD (k + 1) 0) + (wordsOf zs).getD (k + 9) 0 + small1 ((wordsOf zs).getD (k + 14) 0) := by
  rw [wordsOf_eq]
  have e : ∀ j, j < k + 16 → (ext (fill zs 64) 48).getD j 0 = (ext (fill zs 64) k).getD j 0 := fun j hj => by
    have := ext_late (fill zs 64) k j hj (48 - k)
    rwa [show k + (48 - k) = 48 by omega] at this
  have e2 : (ext (fill zs 64) 48).getD (k + 16) 0 = (ext (fill zs 64) (k + 1)).getD (k + 16) 0 := by
    have := ext_late (fill zs 64) (k + 1) (k + 16) (by omega) (48 - (k + 1))
    rwa [show k + 1 + (48 - (k + 1)) = 48 by omega] at this
  rw [e2, ext_own _ _ (by rw [fill_length]; omega), e k (by omega), e (k + 1) (by omega), e (k + 9) (by omega), e (k + 14) (by omega)]
theorem take_next {α : Type} (l : List α) (k : Nat) (d : α) (x : α) (hk : k < l.length) (hx : x = l.getD k d) : l.take (k + 1) = l.take k ++ [x] := by
  rw [List.take_succ_eq_append_getElem hk, hx, List.getD_eq_getElem?_getD, List.getElem?_eq_getElem hk]; rfl
/-! ### A block's sums -/
theorem add_other (l r : List W) (i j : Nat) (h : i ≠ j) : (addUpto l r (i + 1)).getD j 0 = (addUpto l r i).getD j 0 := by
  rw [addUpto, addStep, getD_set_ne' _ _ _ _ _ h]
theorem add_early (l r : List W) (j : Nat) : ∀ i, i ≤ j → (addUpto l r i).getD j 0 = l.getD j 0
  | 0, _ => by rw [addUpto_zero]
  | i + 1, h => by rw [add_other l r i j (by omega)]; exact add_early l r j i (by omega)
theorem add_late (l r : List W) (j : Nat) : ∀ n, (addUpto l r (j + 1 + n)).getD j 0 = (addUpto l r (j + 1)).getD j 0
  | 0 => rfl
  | n + 1 => by rw [show j + 1 + (n + 1) = (j + 1 + n) + 1 by omega, add_other l r _ j (by omega)]; exact add_late l r j n
theorem add_get (l r : List W) (j : Nat) (hj : j < 8) (hl : l.length = 8) : (addUpto l r 8).getD j 0 = l.getD j 0 + r.getD j 0 := by
  have := add_late l r j (7 - j)
  rw [show j + 1 + (7 - j) = 8 by omega] at this
  rw [this, addUpto, addStep, getD_set_eq' _ _ _ _ (by rw [addUpto_length, hl]; exact hj), add_early l r j j (Nat.le_refl _)]
/-! ### The filled message -/
def filled (zs : List Int) : List Int := zs ++ [128] ++ List.replicate (noughts (zs.length % 64)) 0 ++ lenUpto zs.length 8
theorem filled_eq (zs : List Int) : filled zs = zs ++ [128] ++ List.replicate (noughts (zs.length % 64)) 0 ++ lenUpto zs.length 8 := rfl
theorem filled_split (zs : List Int) : filled zs = zs.take (wholeOf zs) ++ ending (zs.drop (wholeOf zs)) zs.length := by
  have hl : (zs.drop (wholeOf zs)).length = zs.length % 64 := by rw [List.length_drop]; unfold wholeOf; omega
  rw [filled_eq, ending_eq, hl, ← List.append_assoc, ← List.append_assoc, ← List.append_assoc, List.take_append_drop]
theorem part_left (a b : List Int) (k : Nat) (h : (k + 1) * 64 ≤ a.length) : part (a ++ b) k = part a k := by
  unfold part
  rw [List.take_append_of_le_length h]
theorem part_right (a b : List Int) (m k : Nat) (h : a.length = m * 64) : part (a ++ b) (m + k) = part b k := by
  unfold part
  rw [List.take_append, List.drop_append, List.take_of_length_le (by omega), List.drop_eq_nil_of_le (by omega), List.nil_append, h, show (m + k + 1) * 64 - m * 64 = (k + 1) * 64 by omega, show (m + k) * 64 - m * 64 = k * 64 by omega]
theorem thru_left (s ks : List W) (a b : List Int) : ∀ k, k * 64 ≤ a.length → thru s ks (a ++ b) k = thru s ks a k
  | 0, _ => by rw [thru_zero, thru_zero]
  | k + 1, h => by rw [thru_succ, thru_succ, thru_left s ks a b k (by omega), part_left a b k h]
theorem thru_right (s ks : List W) (a b : List Int) (m : Nat) (h : a.length = m * 64) : ∀ k, thru s ks (a ++ b) (m + k) = thru (thru s ks a m) ks b k
  | 0 => by rw [Nat.add_zero, thru_left s ks a b m (by omega), thru_zero]
  | k + 1 => by rw [← Nat.add_assoc, thru_succ, thru_right s ks a b m h k, part_right a b m k h, thru_succ]
theorem filled_length (zs : List Int) : (filled zs).length % 64 = 0 ∧ (filled zs).length ≤ zs.length + 72 := by
  rw [filled_eq]
  simp only [List.length_append, List.length_replicate, lenUpto_length, List.length_singleton]
  have h1 : zs.length % 64 < 64 := Nat.mod_lt _ (by omega)
  unfold noughts
  split <;> omega
theorem sum_filled (zs : List Int) : sum zs = tellUpto (thru first8 kList (filled zs) ((filled zs).length / 64)) 32 := by
  have hw : (zs.take (wholeOf zs)).length = wholeOf zs := by rw [List.length_take]; unfold wholeOf; omega
  have hd : wholeOf zs = wholeOf zs / 64 * 64 := by unfold wholeOf; omega
  have hlen : (filled zs).length / 64 = wholeOf zs / 64 + (ending (zs.drop (wholeOf zs)) zs.length).length / 64 := by
    rw [filled_split, List.length_append, hw]; omega
  rw [sum_eq, hlen, filled_split, thru_right _ _ _ _ _ (by rw [hw]; exact hd), hw]
theorem filled_bd (zs : List Int) (h : ∀ n ∈ zs, 0 ≤ n ∧ n ≤ 255) : ∀ n ∈ filled zs, 0 ≤ n ∧ n ≤ 255 := by
  intro n hn
  rw [filled_split, List.mem_append] at hn
  rcases hn with hn | hn
  · exact h n (List.mem_of_mem_take hn)
  · exact ending_bd _ _ (fun m hm => h m (List.mem_of_mem_drop hm)) n hn
theorem noughts_mod (n k : Nat) (h : k < noughts (n % 64)) : (n + 1 + k) % 64 ≠ 56 := by
  have := noughts_lt (n % 64) k (Nat.mod_lt _ (by omega)) h
  omega
theorem noughts_end (n : Nat) : (n + 1 + noughts (n % 64)) % 64 = 56 := by
  have := noughts_eq (n % 64) (Nat.mod_lt _ (by omega))
  omega
theorem noughts_bd (n : Nat) : noughts (n % 64) ≤ 120 := by
  have := noughts_le (n % 64) (Nat.mod_lt _ (by omega))
  omega
end Sha
end Go.Proofs.Ytpbdajgbahnbjaa
