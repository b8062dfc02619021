/-
  Digests are in one order; weights and texts follow it. Plain mathematics.
-/
import Derived.Test.YtpbdajgbahnbjaaOrd
import Derived.Laws.BytesArg
import Derived.Laws.StructEq
namespace Go.Proofs.Ytpbdajgbahnbjaa
set_option linter.unusedSimpArgs false
set_option linter.unusedVariables false
namespace Sha
abbrev Bytes (zs : List Int) : Prop := ∀ n ∈ zs, 0 ≤ n ∧ n ≤ 255
theorem less_asymm : ∀ (xs ys : List Int), less xs ys = true → less ys xs = false
  | [], _, h => by simp [less] at h
  | _ :: _, [], h => by simp [less] at h
  | x :: xs, y :: ys, h => by
    unfold less at h ⊢
    by_cases e : x = y
    · rw [if_pos e] at h; rw [if_pos e.symm]; exact less_asymm xs ys h
    · rw [if_neg e] at h; rw [if_neg (fun e2 => e e2.symm)]; simp at h ⊢; omega
theorem less_total : ∀ (xs ys : List Int), xs.length = ys.length → xs ≠ ys → less xs ys = true ∨ less ys xs = true
  | [], [], _, h => absurd rfl h
  | x :: xs, y :: ys, hl, h => by
    unfold less
    by_cases e : x = y
    · rw [if_pos e, if_pos e.symm]; exact less_total xs ys (by simpa using hl) (fun e2 => h (by rw [e, e2]))
    · rw [if_neg e, if_neg (fun e2 => e e2.symm)]; simp; omega
theorem less_trans : ∀ (xs ys zs : List Int), less xs ys = true → less ys zs = true → less xs zs = true
  | [], _, _, h, _ => by simp [less] at h
  | _ :: _, [], _, h, _ => by simp [less] at h
  | _ :: _, _ :: _, [], _, h => by simp [less] at h
  | x :: xs, y :: ys, z :: zs, h1, h2 => by
    unfold less at h1 h2 ⊢
    by_cases e1 : x = y
    · rw [if_pos e1] at h1
      by_cases e2 : y = z
      · rw [if_pos e2] at h2; rw [if_pos (e1.trans e2)]; exact less_trans xs ys zs h1 h2
      · rw [if_neg e2] at h2; rw [if_neg (by rw [e1]; exact e2)]; simp at h2 ⊢; omega
    · rw [if_neg e1] at h1
      by_cases e2 : y = z
      · rw [if_pos e2] at h2; rw [if_neg (by rw [← e2]; exact e1)]; simp at h1 ⊢; omega
      · rw [if_neg e2] at h2; simp at h1 h2; rw [if_neg (by omega)]; simp; omega
theorem getD_bd (zs : List Int) (hz : Bytes zs) (k : Nat) : 0 ≤ zs.getD k 0 ∧ zs.getD k 0 ≤ 255 := by
  rw [List.getD_eq_getElem?_getD]
  by_cases h : k < zs.length
  · rw [List.getElem?_eq_getElem h]; exact hz _ (List.getElem_mem h)
  · rw [List.getElem?_eq_none (by omega)]; simp
theorem weighUpto_alike (xs ys : List Int) (m : Nat) (h : ∀ i, i < m → xs.getD i 0 = ys.getD i 0) : ∀ k, k ≤ m → weighUpto xs k = weighUpto ys k
  | 0, _ => by rw [weighUpto_zero, weighUpto_zero]
  | k + 1, hk => by rw [weighUpto_succ, weighUpto_succ, weighUpto_alike xs ys m h k (by omega), h k (by omega)]
theorem weighUpto_less (xs ys : List Int) (hx : Bytes xs) (hy : Bytes ys) (m : Nat) (h : ∀ i, i < m → xs.getD i 0 = ys.getD i 0) (hm : xs.getD m 0 < ys.getD m 0) : ∀ j, weighUpto xs (m + 1 + j) < weighUpto ys (m + 1 + j)
  | 0 => by
    rw [Nat.add_zero, weighUpto_succ, weighUpto_succ, weighUpto_alike xs ys m h m (by omega)]; omega
  | j + 1 => by
    have ih := weighUpto_less xs ys hx hy m h hm j
    have b1 := getD_bd xs hx (m + 1 + j)
    have b2 := getD_bd ys hy (m + 1 + j)
    rw [← Nat.add_assoc, weighUpto_succ, weighUpto_succ]; omega
theorem weigh_le (xs ys : List Int) (hl : xs.length = ys.length) (hx : Bytes xs) (hy : Bytes ys) (h : less xs ys = true) : weigh xs ≤ weigh ys := by
  have hne : xs ≠ ys := by intro e; rw [e, less_irrefl] at h; cases h
  rw [less_same xs ys hl hne] at h
  have ha := same_alike xs ys
  have hm : xs.getD (same xs ys) 0 < ys.getD (same xs ys) 0 := by simpa using h
  rw [weigh_eq, weigh_eq]
  by_cases h8 : same xs ys < 8
  · have := weighUpto_less xs ys hx hy (same xs ys) ha hm (8 - (same xs ys + 1))
    rw [show same xs ys + 1 + (8 - (same xs ys + 1)) = 8 by omega] at this
    omega
  · rw [weighUpto_alike xs ys (same xs ys) ha 8 (by omega)]; exact Int.le_refl _
/-! ### Texts -/
def textOf : List Int → List Int
  | [] => []
  | x :: xs => digit (x / 16) :: digit (x % 16) :: textOf xs
theorem textOf_append : ∀ (xs ys : List Int), textOf (xs ++ ys) = textOf xs ++ textOf ys
  | [], _ => rfl
  | x :: xs, ys => by simp [textOf, textOf_append xs ys]
theorem textOf_length : ∀ (xs : List Int), (textOf xs).length = 2 * xs.length
  | [] => rfl
  | x :: xs => by simp [textOf, textOf_length xs]; omega
theorem set_two (l r : List Int) (a b p q : Int) : ((l ++ p :: q :: r).set l.length a).set (l.length + 1) b = l ++ a :: b :: r := by
  induction l with
  | nil => rfl
  | cons x l _ => simp
theorem textUpto_of (zs : List Int) (hl : zs.length = 32) : ∀ i, i ≤ 32 → textUpto zs i = textOf (zs.take i) ++ List.replicate (64 - 2 * i) 0
  | 0, _ => by rw [textUpto_zero]; unfold zero64; simp [textOf]
  | i + 1, hi => by
    have ih := textUpto_of zs hl i (by omega)
    have hlt : i < zs.length := by omega
    unfold textUpto
    rw [ih, show 64 - 2 * i = (64 - 2 * (i + 1)) + 1 + 1 by omega, List.replicate_succ, List.replicate_succ]
    have hlen : (textOf (zs.take i)).length = 2 * i := by rw [textOf_length, List.length_take]; omega
    have h2 := set_two (textOf (zs.take i)) (List.replicate (64 - 2 * (i + 1)) 0) (digit (zs.getD i 0 / 16)) (digit (zs.getD i 0 % 16)) 0 0
    rw [hlen] at h2
    rw [h2, List.take_succ_eq_append_getElem hlt, textOf_append]
    simp [textOf, hlt]
theorem text_of (zs : List Int) (hl : zs.length = 32) : text zs = textOf zs := by
  rw [text_eq, textUpto_of zs hl 32 (by omega)]
  simp [List.take_of_length_le (by omega : zs.length ≤ 32)]
def b8 (n : Int) : UInt8 := UInt8.ofNat n.toNat
theorem digit_lt (p q : Int) (hp : 0 ≤ p ∧ p ≤ 15) (hq : 0 ≤ q ∧ q ≤ 15) : (decide (b8 (digit p) < b8 (digit q)) = decide (p < q)) ∧ ((b8 (digit p) == b8 (digit q)) = decide (p = q)) := by
  obtain ⟨a, rfl⟩ := Int.eq_ofNat_of_zero_le hp.1
  obtain ⟨b, rfl⟩ := Int.eq_ofNat_of_zero_le hq.1
  have : ∀ a b : Fin 16, (decide (b8 (digit ((a.val : Nat) : Int)) < b8 (digit ((b.val : Nat) : Int))) = decide (((a.val : Nat) : Int) < ((b.val : Nat) : Int))) ∧ ((b8 (digit ((a.val : Nat) : Int)) == b8 (digit ((b.val : Nat) : Int))) = decide (((a.val : Nat) : Int) = ((b.val : Nat) : Int))) := by decide +kernel
  exact this ⟨a, by omega⟩ ⟨b, by omega⟩
theorem textOf_less : ∀ (xs ys : List Int), xs.length = ys.length → Bytes xs → Bytes ys → Op.bytesLess ((textOf xs).map b8) ((textOf ys).map b8) = less xs ys
  | [], [], _, _, _ => by simp [textOf, Op.bytesLess, less]
  | x :: xs, y :: ys, hl, hx, hy => by
    have ih := textOf_less xs ys (by simpa using hl) (fun n hn => hx n (List.mem_cons_of_mem _ hn)) (fun n hn => hy n (List.mem_cons_of_mem _ hn))
    have bx := hx x List.mem_cons_self
    have by_ := hy y List.mem_cons_self
    have d1 := digit_lt (x / 16) (y / 16) (by omega) (by omega)
    have d2 := digit_lt (x % 16) (y % 16) (by omega) (by omega)
    unfold less
    simp only [textOf, List.map_cons, Op.bytesLess, ih, d1.1, d1.2, d2.1, d2.2]
    by_cases e : x = y
    · subst e; simp
    · rw [if_neg e, Bool.eq_iff_iff]
      simp
      constructor
      · rintro (h | ⟨h1, h2 | ⟨h2, _⟩⟩) <;> omega
      · intro h; omega
theorem text_less (xs ys : List Int) (hx : xs.length = 32) (hy : ys.length = 32) (bx : Bytes xs) (by_ : Bytes ys) : Op.bytesLess (strOfNums (text xs)).toList (strOfNums (text ys)).toList = less xs ys := by
  rw [ByteArray.toList_eq, ByteArray.toList_eq, strOfNums_data, strOfNums_data, text_of xs hx, text_of ys hy]
  exact textOf_less xs ys (by rw [hx, hy]) bx by_
end Sha
end Go.Proofs.Ytpbdajgbahnbjaa
