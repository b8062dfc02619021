/-
  Plain mathematics of fields: shapes, numbers, items as bytes and back. No program is named here.
  Plain mathematics of fields: what is put is got, what is got is put as it was.
-/
import Derived.WalkKit
namespace Go.Proofs.Yteepaoklibflpaa
section
set_option linter.unusedSimpArgs false
set_option linter.unusedVariables false
namespace Fld
/-- A field: a number, bytes, an id's bytes. -/
structure Itm where
  N : Int
  B : List Int
  D : List Int
deriving DecidableEq
def zero32 : List Int := List.replicate 32 0
theorem zero32_length : zero32.length = 32 := by simp [zero32]
def isByte (n : Int) : Prop := 0 ≤ n ∧ n ≤ 255
/-- What any item in memory is. -/
structure Itm.ok (x : Itm) : Prop where
  N0 : -9223372036854775808 ≤ x.N
  N1 : x.N ≤ 9223372036854775807
  B : ∀ n ∈ x.B, 0 ≤ n ∧ n ≤ 255
  D : ∀ n ∈ x.D, 0 ≤ n ∧ n ≤ 255
  len : x.D.length = 32

/-! ### Shapes -/
/-- What is left of a shape, within a group or not, a letter seen or not. -/
def chkL : List Int → Bool → Bool → Bool
  | [], o, _ => !o
  | c :: r, o, k => if c = 110 ∨ c = 98 ∨ c = 100 then chkL r o true else if c = 40 ∧ o = false then chkL r true false else if c = 41 ∧ o = true ∧ k = true then chkL r false k else false
def chk (s : List Int) : Bool := decide (s.length ≤ 40) && chkL s false false

/-- What Check answers. -/
def chkE (s : List Int) : Int := if chk s = true then 0 else 2
theorem chkE_ok {s : List Int} (h : chk s = true) : chkE s = 0 := by simp [chkE, h]
theorem chkE_no {s : List Int} (h : chk s = false) : chkE s = 2 := by simp [chkE, h]
attribute [irreducible] chkE

/-! ### Going through a shape -/
section
variable {σ : Type} (f : Int → σ → σ × Int × Int)
/-- The letters of a group, once. -/
def once : List Int → σ → σ × Int
  | [], st => (st, 0)
  | c :: r, st => if (f c st).2.2 = 0 then once r (f c st).1 else ((f c st).1, (f c st).2.2)
/-- .. so many times. -/
def rep (g : List Int) : Nat → σ → σ × Int
  | 0, st => (st, 0)
  | n + 1, st => if (once f g st).2 = 0 then rep g n (once f g st).1 else once f g st
def walkL : Option (List Int) → Int → List Int → σ → σ × Int
  | _, _, [], st => (st, 0)
  | none, _, c :: r, st => if (f c st).2.2 = 0 then walkL (if c = 40 then some [] else none) (f c st).2.1 r (f c st).1 else ((f c st).1, (f c st).2.2)
  | some g, t, c :: r, st => if c = 41 then (if (rep f g t.toNat st).2 = 0 then walkL none t r (rep f g t.toNat st).1 else rep f g t.toNat st) else walkL (some (g ++ [c])) t r st
end

/-! ### Numbers -/
def num (n : Nat) : List Int := if h : n < 128 then [(n : Int)] else ((n % 128 + 128 : Nat) : Int) :: num (n / 128)
termination_by n
decreasing_by omega
theorem num_lt {n : Nat} (h : n < 128) : num n = [(n : Int)] := by rw [num]; simp [h]
theorem num_ge {n : Nat} (h : 128 ≤ n) : num n = ((n % 128 + 128 : Nat) : Int) :: num (n / 128) := by rw [num]; simp [show ¬ n < 128 by omega]
/-- Reading a number: i bytes are read, they come to acc. What comes: an error, the number, how many bytes are gone. -/
def rd : Nat → Nat → List Int → Int × Int × Nat
  | i, _, [] => (4, 0, i)
  | i, acc, x :: r => if i = 9 then (10, 0, 0) else if 128 ≤ x then rd (i + 1) (acc + (x % 128).toNat * 128 ^ i) r else
      if (x = 0 ∧ 0 < i) ∨ 4611686018427387903 < acc + (x % 128).toNat * 128 ^ i then (10, 0, 0) else (0, ((acc + (x % 128).toNat * 128 ^ i : Nat) : Int), i + 1)
/-- How many there are: at most so many. -/
def rdTop (bs : List Int) : Int × Int × Nat := if 4000 < (rd 0 0 bs).2.1 then (3, 0, 0) else rd 0 0 bs

/-! ### An item -/
/-- Has an item nothing but what its letter names? -/
def okFor (c : Int) (x : Itm) : Bool := if c = 98 then decide (x.N = 0) && decide (x.D = zero32) else if c = 100 then decide (x.N = 0) && decide (x.B = []) else decide (x.B = []) && decide (x.D = zero32)
/-- The error of an item beyond its letter's bounds. -/
def bound (c : Int) (x : Itm) : Int := if x.N < 0 ∨ 4611686018427387903 < x.N then 5 else if 4000 < x.B.length ∨ (c = 40 ∧ 4000 < x.N) then 3 else 0
/-- Its bytes. -/
def enc (c : Int) (x : Itm) : List Int := if c = 98 then num x.B.length ++ x.B else if c = 100 then x.D else num x.N.toNat
/-- The next item is written. -/
def putS (c : Int) (st : List Int × List Itm) : (List Int × List Itm) × Int × Int :=
  match st.2 with
  | [] => (st, 0, 2)
  | x :: l => if okFor c x = true then (if bound c x = 0 then ((st.1 ++ enc c x, l), x.N, 0) else (st, 0, bound c x)) else (st, 0, 2)
def put (s : List Int) (l : List Itm) : List Int × Int :=
  if chk s = true then
    let r := walkL putS none 0 s ([], l)
    if r.2 = 0 then (if r.1.2 = [] then (r.1.1, 0) else ([], 2)) else ([], r.2)
  else ([], 2)
/-- The next item is read: from a place on. -/
def getS (b : List Int) (c : Int) (st : Nat × List Itm) : (Nat × List Itm) × Int × Int :=
  if c = 98 then
    let r := rdTop (b.drop st.1)
    if r.1 = 0 then (if b.length - (st.1 + r.2.2) < r.2.1 then ((b.length, st.2), 0, 4) else
      ((st.1 + r.2.2 + r.2.1.toNat, st.2 ++ [⟨0, (b.drop (st.1 + r.2.2)).take r.2.1.toNat, zero32⟩]), 0, 0))
    else ((if r.1 = 4 then b.length else st.1, st.2), 0, r.1)
  else if c = 100 then
    if b.length - st.1 < 32 then ((b.length, st.2), 0, 4) else ((st.1 + 32, st.2 ++ [⟨0, [], (b.drop st.1).take 32⟩]), 0, 0)
  else
    let r := if c = 40 then rdTop (b.drop st.1) else rd 0 0 (b.drop st.1)
    if r.1 = 0 then ((st.1 + r.2.2, st.2 ++ [⟨r.2.1, [], zero32⟩]), r.2.1, 0) else ((if r.1 = 4 then b.length else st.1, st.2), 0, r.1)
def get (s : List Int) (b : List Int) : List Itm × Int × Nat :=
  if chk s = true then
    let r := walkL (getS b) none 0 s (0, [])
    if r.2 = 0 then (if r.1.1 < b.length then ([], 4, r.1.1) else (r.1.2, 0, 0)) else ([], r.2, r.1.1)
  else ([], 2, 0)
end Fld
end
section
set_option linter.unusedSimpArgs false
set_option linter.unusedVariables false
namespace Fld
theorem pow_le (i : Nat) (h : 9 ≤ i) : 9223372036854775808 ≤ 128 ^ i := by
  calc 9223372036854775808 = 128 ^ 9 := by decide
    _ ≤ 128 ^ i := Nat.pow_le_pow_right (by omega) h
theorem num_pos (n : Nat) : 0 < (num n).length := by
  by_cases h : n < 128
  · rw [num_lt h]; simp
  · rw [num_ge (by omega)]; simp
theorem num_bd (n : Nat) : ∀ x ∈ num n, 0 ≤ x ∧ x ≤ 255 := by
  induction n using Nat.strongRecOn with
  | _ n ih =>
    by_cases h : n < 128
    · rw [num_lt h]; simp; omega
    · rw [num_ge (by omega)]
      intro x hx
      rcases List.mem_cons.1 hx with rfl | hx
      · omega
      · exact ih (n / 128) (by omega) x hx
theorem num_len (n : Nat) : n < 128 ^ 9 → (num n).length ≤ 9 := by
  have : ∀ k n, n < 128 ^ (k + 1) → (num n).length ≤ k + 1 := by
    intro k
    induction k with
    | zero => intro n h; rw [num_lt (by simpa using h)]; simp
    | succ k ih =>
      intro n h
      by_cases h1 : n < 128
      · rw [num_lt h1]; simp
      · rw [num_ge (by omega), List.length_cons]
        have := ih (n / 128) (by rw [Nat.pow_succ] at h; omega)
        omega
  exact this 8 n
theorem rd_num (m : Nat) : ∀ (i acc : Nat) (rest : List Int), acc + m * 128 ^ i ≤ 4611686018427387903 → (0 < i → 0 < m) → rd i acc (num m ++ rest) = (0, ((acc + m * 128 ^ i : Nat) : Int), i + (num m).length) := by
  induction m using Nat.strongRecOn with
  | _ m ih =>
    intro i acc rest h hm
    have hi : i ≠ 9 := by
      rintro rfl
      have := hm (by omega)
      omega
    by_cases h1 : m < 128
    · rw [num_lt h1]
      have e1 : ((m : Int) % 128).toNat = m := by omega
      simp only [List.cons_append, List.nil_append, rd, if_neg hi, if_neg (show ¬ (128 : Int) ≤ (m : Int) by omega), e1]
      rw [if_neg]
      · simp
      · rintro (⟨h2, h3⟩ | h2)
        · have := hm h3; omega
        · omega
    · rw [num_ge (by omega)]
      have e1 : (((m % 128 + 128 : Nat) : Int) % 128).toNat = m % 128 := by omega
      have e2 : acc + m % 128 * 128 ^ i + m / 128 * 128 ^ (i + 1) = acc + m * 128 ^ i := by
        rw [Nat.pow_succ, Nat.mul_comm (128 ^ i) 128, ← Nat.mul_assoc, Nat.add_assoc, ← Nat.add_mul]
        congr 2
        omega
      simp only [List.cons_append, rd, if_neg hi, if_pos (show (128 : Int) ≤ ((m % 128 + 128 : Nat) : Int) by omega), e1]
      rw [ih (m / 128) (by omega) (i + 1) (acc + m % 128 * 128 ^ i) rest (by rw [e2]; exact h) (fun _ => by omega), e2]
      simp [List.length_cons]; omega
theorem rd_back (bs : List Int) : ∀ (i acc : Nat) (N : Int) (k : Nat), (∀ n ∈ bs, 0 ≤ n ∧ n ≤ 255) → rd i acc bs = (0, N, k) →
    ∃ m : Nat, N = ((acc + m * 128 ^ i : Nat) : Int) ∧ (0 < i → 0 < m) ∧ acc + m * 128 ^ i ≤ 4611686018427387903 ∧ k = i + (num m).length ∧ (num m).length ≤ bs.length ∧ bs.take (num m).length = num m := by
  induction bs with
  | nil => intro i acc N k _ h; simp [rd] at h
  | cons x r ih =>
    intro i acc N k hb h
    have hx := hb x (List.mem_cons_self ..)
    have hr : ∀ n ∈ r, 0 ≤ n ∧ n ≤ 255 := fun n hn => hb n (List.mem_cons_of_mem _ hn)
    unfold rd at h
    by_cases h1 : i = 9
    · rw [if_pos h1] at h; simp at h
    · rw [if_neg h1] at h
      by_cases h2 : (128 : Int) ≤ x
      · rw [if_pos h2] at h
        obtain ⟨m, e1, e2, e3, e4, e5, e6⟩ := ih _ _ _ _ hr h
        have hm : 0 < m := e2 (by omega)
        have g1 : ((x % 128).toNat + 128 * m) / 128 = m := by omega
        have g2 : (((x % 128).toNat + 128 * m) % 128 + 128 : Nat) = x.toNat := by omega
        have hn : num ((x % 128).toNat + 128 * m) = x :: num m := by
          rw [num_ge (by omega), g1, g2]
          congr 1
          omega
        have g3 : acc + (x % 128).toNat * 128 ^ i + m * 128 ^ (i + 1) = acc + ((x % 128).toNat + 128 * m) * 128 ^ i := by
          rw [Nat.pow_succ, Nat.mul_comm (128 ^ i) 128, ← Nat.mul_assoc, Nat.add_assoc, ← Nat.add_mul, Nat.mul_comm 128 m]
        refine ⟨(x % 128).toNat + 128 * m, by rw [e1, g3], fun _ => by omega, by rw [← g3]; exact e3, ?_, ?_, ?_⟩
        · rw [hn, List.length_cons]; omega
        · rw [hn, List.length_cons, List.length_cons]; omega
        · rw [hn, List.length_cons, List.take_succ_cons, e6]
      · rw [if_neg h2] at h
        split at h
        · simp at h
        · rename_i h3
          simp only [Prod.mk.injEq, true_and] at h
          obtain ⟨h4, h5⟩ := h
          have g1 : (x % 128).toNat = x.toNat := by omega
          have hn : num x.toNat = [x] := by rw [num_lt (by omega)]; congr 1; omega
          rw [g1] at h3 h4
          refine ⟨x.toNat, h4.symm, fun hi => ?_, by omega, by rw [hn]; simp; omega, by rw [hn]; simp, by rw [hn]; simp⟩
          by_cases hx0 : x = 0
          · exact absurd (Or.inl ⟨hx0, hi⟩) h3
          · omega
theorem rd_err (bs : List Int) : ∀ i acc, (rd i acc bs).1 = 0 ∨ ((rd i acc bs).1 = 4 ∨ (rd i acc bs).1 = 10) ∧ (rd i acc bs).2.1 = 0 := by
  induction bs with
  | nil => intro i acc; right; simp [rd]
  | cons x r ih =>
    intro i acc
    unfold rd
    split
    · right; simp
    · split
      · exact ih _ _
      · split
        · right; simp
        · left; rfl
theorem rdTop_num (m : Nat) (rest : List Int) (h : m ≤ 4000) : rdTop (num m ++ rest) = (0, (m : Int), (num m).length) := by
  have h1 := rd_num m 0 0 rest (by omega) (by omega)
  simp only [Nat.pow_zero, Nat.mul_one, Nat.zero_add] at h1
  unfold rdTop
  rw [h1, if_neg (by simp; omega)]
theorem rdTop_back (bs : List Int) (N : Int) (k : Nat) (hb : ∀ n ∈ bs, 0 ≤ n ∧ n ≤ 255) (h : rdTop bs = (0, N, k)) :
    ∃ m : Nat, N = (m : Int) ∧ m ≤ 4000 ∧ k = (num m).length ∧ (num m).length ≤ bs.length ∧ bs.take (num m).length = num m := by
  unfold rdTop at h
  split at h
  · simp at h
  · rename_i h1
    obtain ⟨m, e1, e2, e3, e4, e5, e6⟩ := rd_back bs 0 0 N k hb h
    simp only [Nat.pow_zero, Nat.mul_one, Nat.zero_add] at e1 e4
    rw [h] at h1
    exact ⟨m, e1, by simp at h1; omega, e4, e5, e6⟩
theorem rd_back0 (bs : List Int) (N : Int) (k : Nat) (hb : ∀ n ∈ bs, 0 ≤ n ∧ n ≤ 255) (h : rd 0 0 bs = (0, N, k)) :
    ∃ m : Nat, N = (m : Int) ∧ m ≤ 4611686018427387903 ∧ k = (num m).length ∧ (num m).length ≤ bs.length ∧ bs.take (num m).length = num m := by
  obtain ⟨m, e1, e2, e3, e4, e5, e6⟩ := rd_back bs 0 0 N k hb h
  simp only [Nat.pow_zero, Nat.mul_one, Nat.zero_add] at e1 e3 e4
  exact ⟨m, e1, e3, e4, e5, e6⟩
theorem okFor_b {x : Itm} (h : okFor 98 x = true) : x.N = 0 ∧ x.D = zero32 := by simpa [okFor] using h
theorem okFor_d {x : Itm} (h : okFor 100 x = true) : x.N = 0 ∧ x.B = [] := by simpa [okFor] using h
theorem okFor_n {c : Int} {x : Itm} (h1 : c ≠ 98) (h2 : c ≠ 100) (h : okFor c x = true) : x.B = [] ∧ x.D = zero32 := by simpa [okFor, h1, h2] using h
theorem bound_zero {c : Int} {x : Itm} (h : bound c x = 0) : 0 ≤ x.N ∧ (c = 110 → x.N ≤ 4611686018427387903) ∧ x.B.length ≤ 4000 ∧ (c = 40 → x.N ≤ 4000) := by
  unfold bound at h
  split at h
  · simp at h
  · rename_i h1
    split at h
    · simp at h
    · rename_i h2
      refine ⟨by omega, fun hc => ?_, by omega, fun hc => ?_⟩
      · by_cases h3 : 4611686018427387903 < x.N
        · exact absurd (Or.inr h3) h1
        · omega
      · by_cases h3 : 4000 < x.N
        · exact absurd (Or.inr ⟨hc, h3⟩) h2
        · omega
theorem bound_of {c : Int} {x : Itm} (h0 : 0 ≤ x.N) (h1 : x.N ≤ 4611686018427387903) (h2 : x.B.length ≤ 4000) (h3 : c = 40 → x.N ≤ 4000) : bound c x = 0 := by
  unfold bound
  rw [if_neg (by omega), if_neg (by rintro (h | ⟨h, h'⟩); omega; have := h3 h; omega)]
/-- The letters that items are of. -/
def isC (c : Int) : Prop := c = 110 ∨ c = 98 ∨ c = 100 ∨ c = 40
theorem drop_len (out rest : List Int) : (out ++ rest).drop out.length = rest := by simp
theorem getS_put (c : Int) (x : Itm) (out rest : List Int) (acc : List Itm) (hc : isC c) (hx : x.ok) (ho : okFor c x = true) (hb : bound c x = 0) :
    getS (out ++ enc c x ++ rest) c (out.length, acc) = ((out.length + (enc c x).length, acc ++ [x]), x.N, 0) := by
  obtain ⟨b0, b1, b2, b3⟩ := bound_zero hb
  have hd : (out ++ enc c x ++ rest).drop out.length = enc c x ++ rest := by rw [List.append_assoc]; simp
  by_cases h1 : c = 98
  · subst h1
    obtain ⟨n0, d0⟩ := okFor_b ho
    have he : enc 98 x = num x.B.length ++ x.B := by simp [enc]
    have hr := rdTop_num x.B.length (x.B ++ rest) b2
    unfold getS
    rw [if_pos rfl]
    simp only [hd]
    rw [he, List.append_assoc, hr]
    simp only [if_true, ite_true]
    rw [if_neg]
    · have e2 : (out ++ (num x.B.length ++ x.B) ++ rest).drop (out.length + (num x.B.length).length) = x.B ++ rest := by
        have : out ++ (num x.B.length ++ x.B) ++ rest = (out ++ num x.B.length) ++ (x.B ++ rest) := by simp
        rw [this, ← List.length_append, drop_len]
      simp only [Int.toNat_natCast, e2, List.take_left', List.length_append, n0]
      have : x = ⟨0, x.B, zero32⟩ := by cases x; simp_all
      rw [← this]; simp; omega
    · simp; omega
  · by_cases h2 : c = 100
    · subst h2
      obtain ⟨n0, d0⟩ := okFor_d ho
      have he : enc 100 x = x.D := by simp [enc]
      unfold getS
      rw [if_neg h1, if_pos rfl]
      simp only [hd]
      rw [he, if_neg (by simp [hx.len])]
      have e3 : (x.D ++ rest).take 32 = x.D := by rw [← hx.len]; simp
      have : x = ⟨0, [], x.D⟩ := by cases x; simp_all
      rw [e3, ← this, hx.len, n0]
    · obtain ⟨n0, d0⟩ := okFor_n h1 h2 ho
      have he : enc c x = num x.N.toNat := by simp [enc, h1, h2]
      have hr : (if c = 40 then rdTop (num x.N.toNat ++ rest) else rd 0 0 (num x.N.toNat ++ rest)) = (0, x.N, (num x.N.toNat).length) := by
        by_cases h3 : c = 40
        · rw [if_pos h3, rdTop_num _ _ (by have := b3 h3; omega)]
          simp; omega
        · rw [if_neg h3]
          have hc1 : c = 110 := by rcases hc with h | h | h | h <;> simp_all
          have := rd_num x.N.toNat 0 0 rest (by have := b1 hc1; simp; omega) (by omega)
          rw [this]; simp; omega
      unfold getS
      rw [if_neg h1, if_neg h2]
      simp only [hd]
      rw [he, hr]
      simp only [if_true, ite_true]
      have : x = ⟨x.N, [], zero32⟩ := by cases x; simp_all
      rw [← this]
theorem enc_len (c : Int) (x : Itm) (hx : x.ok) (ho : okFor c x = true) (hb : bound c x = 0) : (enc c x).length ≤ 4009 ∧ 0 < (enc c x).length := by
  obtain ⟨b0, b1, b2, b3⟩ := bound_zero hb
  have h9 : (128 : Nat) ^ 9 = 9223372036854775808 := by decide
  by_cases h1 : c = 98
  · subst h1
    have he : enc 98 x = num x.B.length ++ x.B := by simp [enc]
    have := num_len x.B.length (by rw [h9]; omega)
    have := num_pos x.B.length
    rw [he, List.length_append]; omega
  · by_cases h2 : c = 100
    · subst h2
      have he : enc 100 x = x.D := by simp [enc]
      rw [he, hx.len]; omega
    · have he : enc c x = num x.N.toNat := by simp [enc, h1, h2]
      have := num_len x.N.toNat (by rw [h9]; have := hx.N1; omega)
      have := num_pos x.N.toNat
      rw [he]; omega
theorem enc_bd (c : Int) (x : Itm) (hx : x.ok) : ∀ n ∈ enc c x, 0 ≤ n ∧ n ≤ 255 := by
  unfold enc
  split
  · intro n hn; rcases List.mem_append.1 hn with h | h
    · exact num_bd _ n h
    · exact hx.B n h
  · split
    · exact hx.D
    · exact num_bd _
theorem putS_ok {c : Int} {out out' : List Int} {l l' : List Itm} {n : Int} (h : putS c (out, l) = ((out', l'), n, 0)) :
    ∃ x, l = x :: l' ∧ okFor c x = true ∧ bound c x = 0 ∧ out' = out ++ enc c x ∧ n = x.N := by
  unfold putS at h
  cases l with
  | nil => simp at h
  | cons x l =>
    simp only at h
    split at h
    · rename_i h1
      split at h
      · rename_i h2
        simp only [Prod.mk.injEq] at h
        obtain ⟨⟨rfl, rfl⟩, rfl, _⟩ := h
        exact ⟨x, rfl, h1, h2, rfl, rfl⟩
      · rename_i h2
        simp only [Prod.mk.injEq] at h
        exact absurd h.2.2 h2
    · simp at h
theorem getS_ok {b : List Int} (hb : ∀ n ∈ b, 0 ≤ n ∧ n ≤ 255) {c : Int} (hc : isC c) {at_ at' : Nat} {acc acc' : List Itm} {n : Int} (ha : at_ ≤ b.length) (h : getS b c (at_, acc) = ((at', acc'), n, 0)) :
    ∃ x : Itm, acc' = acc ++ [x] ∧ x.ok ∧ okFor c x = true ∧ bound c x = 0 ∧ n = x.N ∧ at_ < at' ∧ at' ≤ b.length ∧ b.take at' = b.take at_ ++ enc c x := by
  have hd : ∀ n ∈ b.drop at_, 0 ≤ n ∧ n ≤ 255 := fun n hn => hb n (List.mem_of_mem_drop hn)
  have htk : ∀ k, b.take (at_ + k) = b.take at_ ++ (b.drop at_).take k := fun k => List.take_add
  have z32 : ∀ n ∈ zero32, (0 : Int) ≤ n ∧ n ≤ 255 := by unfold zero32; intro n hn; have := List.eq_of_mem_replicate hn; omega
  unfold getS at h
  by_cases h1 : c = 98
  · subst h1
    rw [if_pos rfl] at h
    simp only at h
    obtain ⟨r, hr⟩ : ∃ r, r = rdTop (b.drop at_) := ⟨_, rfl⟩
    rw [← hr] at h
    obtain ⟨e, N, k⟩ := r
    simp only at h
    by_cases h2 : e = 0
    · subst h2
      obtain ⟨m, rfl, m1, rfl, m2, m3⟩ := rdTop_back _ _ _ hd hr.symm
      rw [if_pos rfl] at h
      split at h
      · simp at h
      · rename_i h3
        simp only [Prod.mk.injEq] at h
        obtain ⟨⟨rfl, rfl⟩, rfl, _⟩ := h
        simp only [Int.toNat_natCast] at *
        have hl : ((b.drop (at_ + (num m).length)).take m).length = m := by
          rw [List.length_take, List.length_drop]; omega
        refine ⟨_, rfl, ⟨by simp, by simp, fun n hn => hb n (List.mem_of_mem_drop (List.mem_of_mem_take hn)), z32, zero32_length⟩, by simp [okFor], ?_, rfl, by have := num_pos m; omega, by omega, ?_⟩
        · exact bound_of (by simp) (by simp) (by rw [hl]; exact m1) (by simp)
        · simp only [enc, if_pos, hl]
          rw [Nat.add_assoc, htk, List.take_add, m3, List.drop_drop]
    · rw [if_neg h2] at h
      simp only [Prod.mk.injEq] at h
      exact absurd h.2.2 h2
  · by_cases h2 : c = 100
    · subst h2
      rw [if_neg h1, if_pos rfl] at h
      split at h
      · simp at h
      · rename_i h3
        simp only [Prod.mk.injEq] at h
        obtain ⟨⟨rfl, rfl⟩, rfl, _⟩ := h
        have hl : ((b.drop at_).take 32).length = 32 := by rw [List.length_take, List.length_drop]; omega
        refine ⟨_, rfl, ⟨by simp, by simp, by simp, fun n hn => hd n (List.mem_of_mem_take hn), hl⟩, by simp [okFor], bound_of (by simp) (by simp) (by simp) (by simp), rfl, by omega, by omega, ?_⟩
        simp only [enc, if_neg h1, if_pos]
        rw [htk]
    · rw [if_neg h1, if_neg h2] at h
      simp only at h
      obtain ⟨r, hr⟩ : ∃ r, r = (if c = 40 then rdTop (b.drop at_) else rd 0 0 (b.drop at_)) := ⟨_, rfl⟩
      rw [← hr] at h
      obtain ⟨e, N, k⟩ := r
      simp only at h
      by_cases h3 : e = 0
      · subst h3
        rw [if_pos rfl] at h
        simp only [Prod.mk.injEq] at h
        obtain ⟨⟨rfl, rfl⟩, rfl, _⟩ := h
        have : ∃ m : Nat, N = (m : Int) ∧ m ≤ 4611686018427387903 ∧ (c = 40 → m ≤ 4000) ∧ k = (num m).length ∧ (num m).length ≤ (b.drop at_).length ∧ (b.drop at_).take (num m).length = num m := by
          by_cases h4 : c = 40
          · rw [if_pos h4] at hr
            obtain ⟨m, m1, m2, m3, m4, m5⟩ := rdTop_back _ _ _ hd hr.symm
            exact ⟨m, m1, by omega, fun _ => m2, m3, m4, m5⟩
          · rw [if_neg h4] at hr
            obtain ⟨m, m1, m2, m3, m4, m5⟩ := rd_back0 _ _ _ hd hr.symm
            exact ⟨m, m1, m2, fun h => absurd h h4, m3, m4, m5⟩
        obtain ⟨m, rfl, m1, m2, rfl, m3, m4⟩ := this
        rw [List.length_drop] at m3
        refine ⟨_, rfl, ⟨by simp only []; omega, by simp only []; omega, by simp, z32, zero32_length⟩, by simp [okFor, h1, h2], bound_of (by simp) (by simp; omega) (by simp) (fun h => by simp; have := m2 h; omega), rfl, by have := num_pos m; omega, by omega, ?_⟩
        simp only [enc, if_neg h1, if_neg h2, Int.toNat_natCast]
        rw [htk, m4]
      · rw [if_neg h3] at h
        simp only [Prod.mk.injEq] at h
        exact absurd h.2.2 h3
theorem getS_le {b : List Int} (hb : ∀ n ∈ b, 0 ≤ n ∧ n ≤ 255) {c : Int} (hc : isC c) {at_ : Nat} {acc : List Itm} (ha : at_ ≤ b.length) : (getS b c (at_, acc)).1.1 ≤ b.length := by

  by_cases h0 : (getS b c (at_, acc)).2.2 = 0
  · obtain ⟨x, _, _, _, _, _, _, h, _⟩ := getS_ok hb hc ha (at' := (getS b c (at_, acc)).1.1) (acc' := (getS b c (at_, acc)).1.2) (n := (getS b c (at_, acc)).2.1) (by rw [← h0])
    exact h
  · revert h0
    unfold getS
    simp only
    repeat' split
    all_goals (simp; try omega)
end Fld
end
end Go.Proofs.Yteepaoklibflpaa
