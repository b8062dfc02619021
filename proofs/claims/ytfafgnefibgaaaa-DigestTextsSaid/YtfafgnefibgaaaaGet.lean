/-
  Plain mathematics of the reading of a digest's text.
-/
import Derived.Test.YtfafgnefibgaaaaOrd2
import Derived.Test.YtfafgnefibgaaaaStr
import Derived.Maps.OwnOps
import Derived.Maps.OwnSet
import Derived.OpenShut
namespace Go.Proofs.Ytfafgnefibgaaaa
set_option linter.unusedSimpArgs false
set_option linter.unusedVariables false
namespace Sha
/-- The map of digits, filled up to the i-th. -/
def digMap : Nat → DataW Unit
  | 0 => .map []
  | i + 1 => (digMap i).put (.int .u8 (digit (i : Int))) (.lit (.int .u8 (i : Int)))
theorem digMap_zero : digMap 0 = .map [] := rfl
theorem digMap_succ (i : Nat) : digMap (i + 1) = (digMap i).put (.int .u8 (digit (i : Int))) (.lit (.int .u8 (i : Int))) := rfl
def isDig (c : Int) : Bool := Maps.has (digMap 16) (.int .u8 c)
def numOf (c : Int) : Int := if c < 58 then c - 48 else c - 87
def litNum : DataW Unit → Int
  | .lit (.int .u8 n) => n
  | _ => -1
theorem dig_facts : ∀ c : Fin 256, isDig ((c.val : Nat) : Int) = (decide (48 ≤ c.val ∧ c.val ≤ 57) || decide (97 ≤ c.val ∧ c.val ≤ 102)) ∧
    (isDig ((c.val : Nat) : Int) = true → litNum ((digMap 16).atKey (.int .u8 ((c.val : Nat) : Int)) (.lit (.int .u8 0))) = numOf ((c.val : Nat) : Int)) := by decide +kernel
theorem isDig_iff (c : Int) (h : 0 ≤ c ∧ c ≤ 255) : isDig c = true ↔ (48 ≤ c ∧ c ≤ 57) ∨ (97 ≤ c ∧ c ≤ 102) := by
  obtain ⟨k, rfl⟩ := Int.eq_ofNat_of_zero_le h.1
  have := (dig_facts ⟨k, by omega⟩).1
  simp only at this
  rw [this]; simp; omega
theorem numOf_at (c n : Int) (h : 0 ≤ c ∧ c ≤ 255) (hd : isDig c = true) (hn : (digMap 16).atKey (.int .u8 c) (.lit (.int .u8 0)) = .lit (.int .u8 n)) : n = numOf c := by
  obtain ⟨k, rfl⟩ := Int.eq_ofNat_of_zero_le h.1
  have := (dig_facts ⟨k, by omega⟩).2 hd
  simp only at this
  rw [hn] at this
  exact this
theorem numOf_bd (c : Int) (h : 0 ≤ c ∧ c ≤ 255) (hd : isDig c = true) : 0 ≤ numOf c ∧ numOf c ≤ 15 := by
  rcases (isDig_iff c h).1 hd with h1 | h1 <;> unfold numOf <;> split <;> omega
/-- A digit laid behind what a byte has so far. -/
def orv (x n : Int) : Int := bits .or .u8 (x * 16 % 256) n
def idUpto (bs : List Int) : Nat → List Int
  | 0 => zero32
  | i + 1 => (idUpto bs i).set (i / 2) (orv ((idUpto bs i).getD (i / 2) 0) (numOf (bs.getD i 0)))
theorem idUpto_step (bs : List Int) (i : Nat) : idUpto bs (i + 1) = (idUpto bs i).set (i / 2) (orv ((idUpto bs i).getD (i / 2) 0) (numOf (bs.getD i 0))) := rfl
theorem idUpto_zero (bs : List Int) : idUpto bs 0 = zero32 := rfl
theorem idUpto_length (bs : List Int) (i : Nat) : (idUpto bs i).length = 32 := by
  induction i with
  | zero => unfold idUpto zero32; rfl
  | succ i ih => simp [idUpto, ih]
theorem idUpto_succ (bs : List Int) (i : Nat) (x n : Int) (hx : x = (idUpto bs i).getD (i / 2) 0) (hn : n = numOf (bs.getD i 0)) :
    (idUpto bs (i + 1)).map v8 = ((idUpto bs i).map v8).set (i / 2) (v8 (orv x n)) := by
  subst hx hn; simp [idUpto, List.map_set]
/-- The digest of a text, if it is one. -/
def allDig (bs : List Int) : Bool := (List.range 64).all fun i => isDig (bs.getD i 0)
def getOf (bs : List Int) : Option (List Int) := if bs.length = 64 ∧ allDig bs = true then some (idUpto bs 64) else none
theorem allDig_iff (bs : List Int) : allDig bs = true ↔ ∀ i, i < 64 → isDig (bs.getD i 0) = true := by
  unfold allDig; rw [List.all_eq_true]; simp only [List.mem_range]
theorem orv_zero (n : Int) (h : 0 ≤ n ∧ n ≤ 15) : orv 0 n = n := by
  have : ∀ k : Fin 16, orv 0 ((k.val : Nat) : Int) = ((k.val : Nat) : Int) := by decide +kernel
  obtain ⟨k, rfl⟩ := Int.eq_ofNat_of_zero_le h.1
  exact this ⟨k, by omega⟩
theorem orv_two (m n : Int) (hm : 0 ≤ m ∧ m ≤ 15) (hn : 0 ≤ n ∧ n ≤ 15) : orv m n = 16 * m + n := by
  have : ∀ a b : Fin 16, orv ((a.val : Nat) : Int) ((b.val : Nat) : Int) = 16 * ((a.val : Nat) : Int) + ((b.val : Nat) : Int) := by decide +kernel
  obtain ⟨k, rfl⟩ := Int.eq_ofNat_of_zero_le hm.1
  obtain ⟨l, rfl⟩ := Int.eq_ofNat_of_zero_le hn.1
  exact this ⟨k, by omega⟩ ⟨l, by omega⟩
/-- Two digits a byte. -/
def pairs : List Int → List Int
  | a :: b :: r => (16 * numOf a + numOf b) :: pairs r
  | _ => []
theorem digit_num (n : Int) (h : 0 ≤ n ∧ n ≤ 15) : numOf (digit n) = n ∧ isDig (digit n) = true ∧ 0 ≤ digit n ∧ digit n ≤ 255 := by
  have : ∀ k : Fin 16, numOf (digit ((k.val : Nat) : Int)) = ((k.val : Nat) : Int) ∧ isDig (digit ((k.val : Nat) : Int)) = true ∧ 0 ≤ digit ((k.val : Nat) : Int) ∧ digit ((k.val : Nat) : Int) ≤ 255 := by decide +kernel
  obtain ⟨k, rfl⟩ := Int.eq_ofNat_of_zero_le h.1
  exact this ⟨k, by omega⟩
theorem num_digit (c : Int) (h : 0 ≤ c ∧ c ≤ 255) (hd : isDig c = true) : digit (numOf c) = c := by
  have : ∀ k : Fin 256, isDig ((k.val : Nat) : Int) = true → digit (numOf ((k.val : Nat) : Int)) = ((k.val : Nat) : Int) := by decide +kernel
  obtain ⟨k, rfl⟩ := Int.eq_ofNat_of_zero_le h.1
  exact this ⟨k, by omega⟩ hd
theorem pairs_append (a b : Int) : ∀ (l : List Int) (j : Nat), l.length = 2 * j → pairs (l ++ [a, b]) = pairs l ++ [16 * numOf a + numOf b]
  | [], _, _ => rfl
  | [_], j, h => by simp at h; omega
  | x :: y :: r, j, h => by simp [pairs, pairs_append a b r (j - 1) (by simp at h; omega)]
theorem pairs_length : ∀ (l : List Int) (j : Nat), l.length = 2 * j → (pairs l).length = j
  | [], j, h => by
    have : j = 0 := by simp at h; omega
    subst this; rfl
  | [_], j, h => by simp at h; omega
  | x :: y :: r, j, h => by
    have := pairs_length r (j - 1) (by simp at h; omega)
    simp at h
    simp [pairs, this]; omega
theorem set_at (l r : List Int) (p a : Int) : (l ++ p :: r).set l.length a = l ++ a :: r := by
  induction l with
  | nil => rfl
  | cons x l ih => simp
theorem getD_at (l r : List Int) (p : Int) : (l ++ p :: r).getD l.length 0 = p := by simp
theorem idUpto_of (bs : List Int) (hl : bs.length = 64) (hb : Bytes bs) (hd : ∀ i, i < 64 → isDig (bs.getD i 0) = true) : ∀ j, j ≤ 32 → idUpto bs (2 * j) = pairs (bs.take (2 * j)) ++ List.replicate (32 - j) 0
  | 0, _ => by rw [Nat.mul_zero, idUpto_zero]; unfold zero32; simp [pairs]
  | j + 1, hj => by
    have ih := idUpto_of bs hl hb hd j (by omega)
    have hplen : (pairs (bs.take (2 * j))).length = j := pairs_length _ j (by rw [List.length_take]; omega)
    have b1 := getD_bd bs hb (2 * j)
    have b2 := getD_bd bs hb (2 * j + 1)
    have n1 := numOf_bd _ b1 (hd (2 * j) (by omega))
    have n2 := numOf_bd _ b2 (hd (2 * j + 1) (by omega))
    have e1 : idUpto bs (2 * j + 1) = pairs (bs.take (2 * j)) ++ numOf (bs.getD (2 * j) 0) :: List.replicate (32 - (j + 1)) 0 := by
      show (idUpto bs (2 * j)).set (2 * j / 2) (orv ((idUpto bs (2 * j)).getD (2 * j / 2) 0) (numOf (bs.getD (2 * j) 0))) = _
      rw [ih, show 2 * j / 2 = j by omega, show 32 - j = (32 - (j + 1)) + 1 by omega, List.replicate_succ]
      have g := getD_at (pairs (bs.take (2 * j))) (List.replicate (32 - (j + 1)) 0) 0
      have t := set_at (pairs (bs.take (2 * j))) (List.replicate (32 - (j + 1)) 0) 0 (numOf (bs.getD (2 * j) 0))
      rw [hplen] at g t
      rw [g, orv_zero _ n1, t]
    show (idUpto bs (2 * j + 1)).set ((2 * j + 1) / 2) (orv ((idUpto bs (2 * j + 1)).getD ((2 * j + 1) / 2) 0) (numOf (bs.getD (2 * j + 1) 0))) = _
    rw [e1, show (2 * j + 1) / 2 = j by omega]
    have g := getD_at (pairs (bs.take (2 * j))) (List.replicate (32 - (j + 1)) 0) (numOf (bs.getD (2 * j) 0))
    have t := set_at (pairs (bs.take (2 * j))) (List.replicate (32 - (j + 1)) 0) (numOf (bs.getD (2 * j) 0)) (16 * numOf (bs.getD (2 * j) 0) + numOf (bs.getD (2 * j + 1) 0))
    rw [hplen] at g t
    rw [g, orv_two _ _ n1 n2, t]
    have h1 : 2 * j < bs.length := by omega
    have h2 : 2 * j + 1 < bs.length := by omega
    have et : bs.take (2 * (j + 1)) = bs.take (2 * j) ++ [bs.getD (2 * j) 0, bs.getD (2 * j + 1) 0] := by
      have g1 : bs.getD (2 * j) 0 = bs[2 * j] := by simp [h1]
      have g2 : bs.getD (2 * j + 1) 0 = bs[2 * j + 1] := by simp [h2]
      rw [show 2 * (j + 1) = 2 * j + 1 + 1 by omega, List.take_succ_eq_append_getElem h2, List.take_succ_eq_append_getElem h1, List.append_assoc, g1, g2]
      rfl
    rw [et, pairs_append _ _ _ j (by rw [List.length_take]; omega)]
    simp
theorem idUpto_pairs (bs : List Int) (hl : bs.length = 64) (hb : Bytes bs) (hd : ∀ i, i < 64 → isDig (bs.getD i 0) = true) : idUpto bs 64 = pairs bs := by
  have := idUpto_of bs hl hb hd 32 (by omega)
  simpa [List.take_of_length_le (by omega : bs.length ≤ 64)] using this
theorem pairs_textOf : ∀ (zs : List Int), Bytes zs → pairs (textOf zs) = zs
  | [], _ => rfl
  | x :: xs, h => by
    have bx := h x List.mem_cons_self
    have d1 := digit_num (x / 16) (by omega)
    have d2 := digit_num (x % 16) (by omega)
    rw [textOf, pairs, d1.1, d2.1, pairs_textOf xs (fun n hn => h n (List.mem_cons_of_mem _ hn))]
    congr 1; omega
theorem textOf_pairs : ∀ (bs : List Int) (j : Nat), bs.length = 2 * j → Bytes bs → (∀ c ∈ bs, isDig c = true) → textOf (pairs bs) = bs
  | [], _, _, _, _ => rfl
  | [_], j, h, _, _ => by simp at h; omega
  | a :: b :: r, j, h, hb, hd => by
    have ba := hb a (by simp)
    have bb := hb b (by simp)
    have na := numOf_bd a ba (hd a (by simp))
    have nb := numOf_bd b bb (hd b (by simp))
    rw [pairs, textOf, textOf_pairs r (j - 1) (by simp at h; omega) (fun n hn => hb n (by simp [hn])) (fun n hn => hd n (by simp [hn]))]
    rw [show (16 * numOf a + numOf b) / 16 = numOf a by omega, show (16 * numOf a + numOf b) % 16 = numOf b by omega, num_digit a ba (hd a (by simp)), num_digit b bb (hd b (by simp))]
theorem textOf_dig : ∀ (zs : List Int), Bytes zs → ∀ c ∈ textOf zs, isDig c = true ∧ 0 ≤ c ∧ c ≤ 255
  | [], _, c, hc => by simp [textOf] at hc
  | x :: xs, h, c, hc => by
    have bx := h x List.mem_cons_self
    have d1 := digit_num (x / 16) (by omega)
    have d2 := digit_num (x % 16) (by omega)
    rw [textOf] at hc
    rcases List.mem_cons.1 hc with rfl | hc
    · exact d1.2
    · rcases List.mem_cons.1 hc with rfl | hc
      · exact d2.2
      · exact textOf_dig xs (fun n hn => h n (List.mem_cons_of_mem _ hn)) c hc
theorem getD_mem (bs : List Int) (i : Nat) (h : i < bs.length) : bs.getD i 0 ∈ bs := by
  rw [List.getD_eq_getElem?_getD, List.getElem?_eq_getElem h]; exact List.getElem_mem h
theorem get_text (zs : List Int) (hl : zs.length = 32) (hb : Bytes zs) : getOf (text zs) = some zs := by
  have ht : (text zs).length = 64 := by rw [text_of zs hl, textOf_length]; omega
  have hd : ∀ i, i < 64 → isDig ((text zs).getD i 0) = true := by
    intro i hi
    have := getD_mem (text zs) i (by omega)
    rw [text_of zs hl] at this ⊢
    exact (textOf_dig zs hb _ this).1
  have hB : Bytes (text zs) := by
    intro n hn
    rw [text_of zs hl] at hn
    exact (textOf_dig zs hb n hn).2
  unfold getOf
  rw [if_pos ⟨ht, (allDig_iff _).2 hd⟩, idUpto_pairs _ ht hB hd, text_of zs hl, pairs_textOf zs hb]
theorem text_get (bs zs : List Int) (hb : Bytes bs) (h : getOf bs = some zs) : text zs = bs := by
  unfold getOf at h
  split at h
  · rename_i hc
    obtain ⟨hl, hd⟩ := hc
    rw [allDig_iff] at hd
    have hlen := idUpto_length bs 64
    rw [← Option.some.inj h, text_of _ hlen, idUpto_pairs bs hl hb hd]
    refine textOf_pairs bs 32 (by omega) hb (fun c hc => ?_)
    obtain ⟨i, hi, rfl⟩ := List.mem_iff_getElem.1 hc
    have := hd i (by omega)
    rwa [List.getD_eq_getElem?_getD, List.getElem?_eq_getElem hi] at this
  · cases h
theorem getOf_length (bs zs : List Int) (h : getOf bs = some zs) : zs.length = 32 := by
  unfold getOf at h
  split at h
  · rw [← Option.some.inj h]; exact idUpto_length bs 64
  · cases h
theorem orv_bd (x n : Int) : 0 ≤ orv x n ∧ orv x n ≤ 255 := by
  unfold orv
  exact bounds_u8 (wf_bits _ _ _ _)
theorem idUpto_bd (bs : List Int) (i : Nat) : Bytes (idUpto bs i) := by
  induction i with
  | zero => intro n hn; rw [idUpto_zero] at hn; unfold zero32 at hn; simp at hn; omega
  | succ i ih =>
    intro n hn
    unfold idUpto at hn
    rcases List.mem_or_eq_of_mem_set hn with h | h
    · exact ih n h
    · subst h; exact orv_bd _ _
theorem getOf_bd (bs zs : List Int) (h : getOf bs = some zs) : Bytes zs := by
  unfold getOf at h
  split at h
  · rw [← Option.some.inj h]; exact idUpto_bd bs 64
  · cases h
attribute [irreducible] digMap isDig numOf orv idUpto
end Sha
end Go.Proofs.Ytfafgnefibgaaaa
