/-
  Plain mathematics of fields: what is put is got, what is got is put as it was.
  Plain mathematics of fields: whole shapes, there and back.
-/
import Derived.Test.YtokpabkcaofahaaGreatPb1
namespace Go.Proofs.YtokpabkcaofahaaGreat
section
set_option linter.unusedSimpArgs false
set_option linter.unusedVariables false
namespace Fld
theorem num_pos (n : Nat) : 0 < (num n).length := by
  by_cases h : n < 128
  · rw [num_lt h]; simp
  · rw [num_ge (by omega)]; simp
theorem num_bd (n : Nat) : ∀ x ∈ num n, 0 ≤ x ∧ x ≤ 255 := by
  induction n using Nat.strongRecOn with
  | _ n ih =>
    by_cases h : n < 128
    · rw [num_lt h]; simp; omega
    · rw [num_ge (by omega)]
      intro x hx
      rcases List.mem_cons.1 hx with rfl | hx
      · omega
      · exact ih (n / 128) (by omega) x hx
theorem num_len (n : Nat) : n < 128 ^ 9 → (num n).length ≤ 9 := by
  have : ∀ k n, n < 128 ^ (k + 1) → (num n).length ≤ k + 1 := by
    intro k
    induction k with
    | zero => intro n h; rw [num_lt (by simpa using h)]; simp
    | succ k ih =>
      intro n h
      by_cases h1 : n < 128
      · rw [num_lt h1]; simp
      · rw [num_ge (by omega), List.length_cons]
        have := ih (n / 128) (by rw [Nat.pow_succ] at h; omega)
        omega
  exact this 8 n
theorem rd_num (m : Nat) : ∀ (i acc : Nat) (rest : List Int), acc + m * 128 ^ i ≤ 4611686018427387903 → (0 < i → 0 < m) → rd i acc (num m ++ rest) = (0, ((acc + m * 128 ^ i : Nat) : Int), i + (num m).length) := by
  induction m using Nat.strongRecOn with
  | _ m ih =>
    intro i acc rest h hm
    have hi : i ≠ 9 := by
      rintro rfl
      have := hm (by omega)
      omega
    by_cases h1 : m < 128
    · rw [num_lt h1]
      have e1 : ((m : Int) % 128).toNat = m := by omega
      simp only [List.cons_append, List.nil_append, rd, if_neg hi, if_neg (show ¬ (128 : Int) ≤ (m : Int) by omega), e1]
      rw [if_neg]
      · simp
      · rintro (⟨h2, h3⟩ | h2)
        · have := hm h3; omega
        · omega
    · rw [num_ge (by omega)]
      have e1 : (((m % 128 + 128 : Nat) : Int) % 128).toNat = m % 128 := by omega
      have e2 : acc + m % 128 * 128 ^ i + m / 128 * 128 ^ (i + 1) = acc + m * 128 ^ i := by
        rw [Nat.pow_succ, Nat.mul_comm (128 ^ i) 128, ← Nat.mul_assoc, Nat.add_assoc, ← Nat.add_mul]
        congr 2
        omega
      simp only [List.cons_append, rd, if_neg hi, if_pos (show (128 : Int) ≤ ((m % 128 + 128 : Nat) : Int) by omega), e1]
      rw [ih (m / 128) (by omega) (i + 1) (acc + m % 128 * 128 ^ i) rest (by rw [e2]; exact h) (fun _ => by omega), e2]
      simp [List.length_cons]; omega
theorem rd_back (bs : List Int) : ∀ (i acc : Nat) (N : Int) (k : Nat), (∀ n ∈ bs, 0 ≤ n ∧ n ≤ 255) → rd i acc bs = (0, N, k) →
    ∃ m : Nat, N = ((acc + m * 128 ^ i : Nat) : Int) ∧ (0 < i → 0 < m) ∧ acc + m * 128 ^ i ≤ 4611686018427387903 ∧ k = i + (num m).length ∧ (num m).length ≤ bs.length ∧ bs.take (num m).length = num m := by
  induction bs with
  | nil => intro i acc N k _ h; simp [rd] at h
  | cons x r ih =>
    intro i acc N k hb h
    have hx := hb x (List.mem_cons_self ..)
    have hr : ∀ n ∈ r, 0 ≤ n ∧ n ≤ 255 := fun n hn => hb n (List.mem_cons_of_mem _ hn)
    unfold rd at h
    by_cases h1 : i = 9
    · rw [if_pos h1] at h; simp at h
    · rw [if_neg h1] at h
      by_cases h2 : (128 : Int) ≤ x
      · rw [if_pos h2] at h
        obtain ⟨m, e1, e2, e3, e4, e5, e6⟩ := ih _ _ _ _ hr h
        have hm : 0 < m := e2 (by omega)
        have g1 : ((x % 128).toNat + 128 * m) / 128 = m := by omega
        have g2 : (((x % 128).toNat + 128 * m) % 128 + 128 : Nat) = x.toNat := by omega
        have hn : num ((x % 128).toNat + 128 * m) = x :: num m := by
          rw [num_ge (by omega), g1, g2]
          congr 1
          omega
        have g3 : acc + (x % 128).toNat * 128 ^ i + m * 128 ^ (i + 1) = acc + ((x % 128).toNat + 128 * m) * 128 ^ i := by
          rw [Nat.pow_succ, Nat.mul_comm (128 ^ i) 128, ← Nat.mul_assoc, Nat.add_assoc, ← Nat.add_mul, Nat.mul_comm 128 m]
        refine ⟨(x % 128).toNat + 128 * m, by rw [e1, g3], fun _ => by omega, by rw [← g3]; exact e3, ?_, ?_, ?_⟩
        · rw [hn, List.length_cons]; omega
        · rw [hn, List.length_cons, List.length_cons]; omega
        · rw [hn, List.length_cons, List.take_succ_cons, e6]
      · rw [if_neg h2] at h
        split at h
        · simp at h
        · rename_i h3
          simp only [Prod.mk.injEq, true_and] at h
          obtain ⟨h4, h5⟩ := h
          have g1 : (x % 128).toNat = x.toNat := by omega
          have hn : num x.toNat = [x] := by rw [num_lt (by omega)]; congr 1; omega
          rw [g1] at h3 h4
          refine ⟨x.toNat, h4.symm, fun hi => ?_, by omega, by rw [hn]; simp; omega, by rw [hn]; simp, by rw [hn]; simp⟩
          by_cases hx0 : x = 0
          · exact absurd (Or.inl ⟨hx0, hi⟩) h3
          · omega
theorem rd_err (bs : List Int) : ∀ i acc, (rd i acc bs).1 = 0 ∨ ((rd i acc bs).1 = 4 ∨ (rd i acc bs).1 = 10) ∧ (rd i acc bs).2.1 = 0 := by
  induction bs with
  | nil => intro i acc; right; simp [rd]
  | cons x r ih =>
    intro i acc
    unfold rd
    split
    · right; simp
    · split
      · exact ih _ _
      · split
        · right; simp
        · left; rfl
theorem rdTop_num (m : Nat) (rest : List Int) (h : m ≤ 4000) : rdTop (num m ++ rest) = (0, (m : Int), (num m).length) := by
  have h1 := rd_num m 0 0 rest (by omega) (by omega)
  simp only [Nat.pow_zero, Nat.mul_one, Nat.zero_add] at h1
  unfold rdTop
  rw [h1, if_neg (by simp; omega)]
theorem rdTop_back (bs : List Int) (N : Int) (k : Nat) (hb : ∀ n ∈ bs, 0 ≤ n ∧ n ≤ 255) (h : rdTop bs = (0, N, k)) :
    ∃ m : Nat, N = (m : Int) ∧ m ≤ 4000 ∧ k = (num m).length ∧ (num m).length ≤ bs.length ∧ bs.take (num m).length = num m := by
  unfold rdTop at h
  split at h
  · simp at h
  · rename_i h1
    obtain ⟨m, e1, e2, e3, e4, e5, e6⟩ := rd_back bs 0 0 N k hb h
    simp only [Nat.pow_zero, Nat.mul_one, Nat.zero_add] at e1 e4
    rw [h] at h1
    exact ⟨m, e1, by simp at h1; omega, e4, e5, e6⟩
theorem rd_back0 (bs : List Int) (N : Int) (k : Nat) (hb : ∀ n ∈ bs, 0 ≤ n ∧ n ≤ 255) (h : rd 0 0 bs = (0, N, k)) :
    ∃ m : Nat, N = (m : Int) ∧ m ≤ 4611686018427387903 ∧ k = (num m).length ∧ (num m).length ≤ bs.length ∧ bs.take (num m).length = num m := by
  obtain ⟨m, e1, e2, e3, e4, e5, e6⟩ := rd_back bs 0 0 N k hb h
  simp only [Nat.pow_zero, Nat.mul_one, Nat.zero_add] at e1 e3 e4
  exact ⟨m, e1, e3, e4, e5, e6⟩
theorem okFor_b {x : Itm} (h : okFor 98 x = true) : x.N = 0 ∧ x.D = zero32 := by simpa [okFor] using h
theorem okFor_d {x : Itm} (h : okFor 100 x = true) : x.N = 0 ∧ x.B = [] := by simpa [okFor] using h
theorem okFor_n {c : Int} {x : Itm} (h1 : c ≠ 98) (h2 : c ≠ 100) (h : okFor c x = true) : x.B = [] ∧ x.D = zero32 := by simpa [okFor, h1, h2] using h
theorem bound_zero {c : Int} {x : Itm} (h : bound c x = 0) : 0 ≤ x.N ∧ (c = 110 → x.N ≤ 4611686018427387903) ∧ x.B.length ≤ 4000 ∧ (c = 40 → x.N ≤ 4000) := by
  unfold bound at h
  split at h
  · simp at h
  · rename_i h1
    split at h
    · simp at h
    · rename_i h2
      refine ⟨by omega, fun hc => ?_, by omega, fun hc => ?_⟩
      · by_cases h3 : 4611686018427387903 < x.N
        · exact absurd (Or.inr h3) h1
        · omega
      · by_cases h3 : 4000 < x.N
        · exact absurd (Or.inr ⟨hc, h3⟩) h2
        · omega
theorem bound_of {c : Int} {x : Itm} (h0 : 0 ≤ x.N) (h1 : x.N ≤ 4611686018427387903) (h2 : x.B.length ≤ 4000) (h3 : c = 40 → x.N ≤ 4000) : bound c x = 0 := by
  unfold bound
  rw [if_neg (by omega), if_neg (by rintro (h | ⟨h, h'⟩); omega; have := h3 h; omega)]
/-- The letters that items are of. -/
def isC (c : Int) : Prop := c = 110 ∨ c = 98 ∨ c = 100 ∨ c = 40
theorem drop_len (out rest : List Int) : (out ++ rest).drop out.length = rest := by simp
theorem getS_put (c : Int) (x : Itm) (out rest : List Int) (acc : List Itm) (hc : isC c) (hx : x.ok) (ho : okFor c x = true) (hb : bound c x = 0) :
    getS (out ++ enc c x ++ rest) c (out.length, acc) = ((out.length + (enc c x).length, acc ++ [x]), x.N, 0) := by
  obtain ⟨b0, b1, b2, b3⟩ := bound_zero hb
  have hd : (out ++ enc c x ++ rest).drop out.length = enc c x ++ rest := by rw [List.append_assoc]; simp
  by_cases h1 : c = 98
  · subst h1
    obtain ⟨n0, d0⟩ := okFor_b ho
    have he : enc 98 x = num x.B.length ++ x.B := by simp [enc]
    have hr := rdTop_num x.B.length (x.B ++ rest) b2
    unfold getS
    rw [if_pos rfl]
    simp only [hd]
    rw [he, List.append_assoc, hr]
    simp only [if_true, ite_true]
    rw [if_neg]
    · have e2 : (out ++ (num x.B.length ++ x.B) ++ rest).drop (out.length + (num x.B.length).length) = x.B ++ rest := by
        have : out ++ (num x.B.length ++ x.B) ++ rest = (out ++ num x.B.length) ++ (x.B ++ rest) := by simp
        rw [this, ← List.length_append, drop_len]
      simp only [Int.toNat_natCast, e2, List.take_left', List.length_append, n0]
      have : x = ⟨0, x.B, zero32⟩ := by cases x; simp_all
      rw [← this]; simp; omega
    · simp; omega
  · by_cases h2 : c = 100
    · subst h2
      obtain ⟨n0, d0⟩ := okFor_d ho
      have he : enc 100 x = x.D := by simp [enc]
      unfold getS
      rw [if_neg h1, if_pos rfl]
      simp only [hd]
      rw [he, if_neg (by simp [hx.len])]
      have e3 : (x.D ++ rest).take 32 = x.D := by rw [← hx.len]; simp
      have : x = ⟨0, [], x.D⟩ := by cases x; simp_all
      rw [e3, ← this, hx.len, n0]
    · obtain ⟨n0, d0⟩ := okFor_n h1 h2 ho
      have he : enc c x = num x.N.toNat := by simp [enc, h1, h2]
      have hr : (if c = 40 then rdTop (num x.N.toNat ++ rest) else rd 0 0 (num x.N.toNat ++ rest)) = (0, x.N, (num x.N.toNat).length) := by
        by_cases h3 : c = 40
        · rw [if_pos h3, rdTop_num _ _ (by have := b3 h3; omega)]
          simp; omega
        · rw [if_neg h3]
          have hc1 : c = 110 := by rcases hc with h | h | h | h <;> simp_all
          have := rd_num x.N.toNat 0 0 rest (by have := b1 hc1; simp; omega) (by omega)
          rw [this]; simp; omega
      unfold getS
      rw [if_neg h1, if_neg h2]
      simp only [hd]
      rw [he, hr]
      simp only [if_true, ite_true]
      have : x = ⟨x.N, [], zero32⟩ := by cases x; simp_all
      rw [← this]
theorem enc_len (c : Int) (x : Itm) (hx : x.ok) (ho : okFor c x = true) (hb : bound c x = 0) : (enc c x).length ≤ 4009 ∧ 0 < (enc c x).length := by
  obtain ⟨b0, b1, b2, b3⟩ := bound_zero hb
  have h9 : (128 : Nat) ^ 9 = 9223372036854775808 := by decide
  by_cases h1 : c = 98
  · subst h1
    have he : enc 98 x = num x.B.length ++ x.B := by simp [enc]
    have := num_len x.B.length (by rw [h9]; omega)
    have := num_pos x.B.length
    rw [he, List.length_append]; omega
  · by_cases h2 : c = 100
    · subst h2
      have he : enc 100 x = x.D := by simp [enc]
      rw [he, hx.len]; omega
    · have he : enc c x = num x.N.toNat := by simp [enc, h1, h2]
      have := num_len x.N.toNat (by rw [h9]; have := hx.N1; omega)
      have := num_pos x.N.toNat
      rw [he]; omega
theorem enc_bd (c : Int) (x : Itm) (hx : x.ok) : ∀ n ∈ enc c x, 0 ≤ n ∧ n ≤ 255 := by
  unfold enc
  split
  · intro n hn; rcases List.mem_append.1 hn with h | h
    · exact num_bd _ n h
    · exact hx.B n h
  · split
    · exact hx.D
    · exact num_bd _
theorem putS_ok {c : Int} {out out' : List Int} {l l' : List Itm} {n : Int} (h : putS c (out, l) = ((out', l'), n, 0)) :
    ∃ x, l = x :: l' ∧ okFor c x = true ∧ bound c x = 0 ∧ out' = out ++ enc c x ∧ n = x.N := by
  unfold putS at h
  cases l with
  | nil => simp at h
  | cons x l =>
    simp only at h
    split at h
    · rename_i h1
      split at h
      · rename_i h2
        simp only [Prod.mk.injEq] at h
        obtain ⟨⟨rfl, rfl⟩, rfl, _⟩ := h
        exact ⟨x, rfl, h1, h2, rfl, rfl⟩
      · rename_i h2
        simp only [Prod.mk.injEq] at h
        exact absurd h.2.2 h2
    · simp at h
theorem getS_ok {b : List Int} (hb : ∀ n ∈ b, 0 ≤ n ∧ n ≤ 255) {c : Int} (hc : isC c) {at_ at' : Nat} {acc acc' : List Itm} {n : Int} (ha : at_ ≤ b.length) (h : getS b c (at_, acc) = ((at', acc'), n, 0)) :
    ∃ x : Itm, acc' = acc ++ [x] ∧ x.ok ∧ okFor c x = true ∧ bound c x = 0 ∧ n = x.N ∧ at_ < at' ∧ at' ≤ b.length ∧ b.take at' = b.take at_ ++ enc c x := by
  have hd : ∀ n ∈ b.drop at_, 0 ≤ n ∧ n ≤ 255 := fun n hn => hb n (List.mem_of_mem_drop hn)
  have htk : ∀ k, b.take (at_ + k) = b.take at_ ++ (b.drop at_).take k := fun k => List.take_add
  have z32 : ∀ n ∈ zero32, (0 : Int) ≤ n ∧ n ≤ 255 := by unfold zero32; intro n hn; have := List.eq_of_mem_replicate hn; omega
  unfold getS at h
  by_cases h1 : c = 98
  · subst h1
    rw [if_pos rfl] at h
    simp only at h
    obtain ⟨r, hr⟩ : ∃ r, r = rdTop (b.drop at_) := ⟨_, rfl⟩
    rw [← hr] at h
    obtain ⟨e, N, k⟩ := r
    simp only at h
    by_cases h2 : e = 0
    · subst h2
      obtain ⟨m, rfl, m1, rfl, m2, m3⟩ := rdTop_back _ _ _ hd hr.symm
      rw [if_pos rfl] at h
      split at h
      · simp at h
      · rename_i h3
        simp only [Prod.mk.injEq] at h
        obtain ⟨⟨rfl, rfl⟩, rfl, _⟩ := h
        simp only [Int.toNat_natCast] at *
        have hl : ((b.drop (at_ + (num m).length)).take m).length = m := by
          rw [List.length_take, List.length_drop]; omega
        refine ⟨_, rfl, ⟨by simp, by simp, fun n hn => hb n (List.mem_of_mem_drop (List.mem_of_mem_take hn)), z32, zero32_length⟩, by simp [okFor], ?_, rfl, by have := num_pos m; omega, by omega, ?_⟩
        · exact bound_of (by simp) (by simp) (by rw [hl]; exact m1) (by simp)
        · simp only [enc, if_pos, hl]
          rw [Nat.add_assoc, htk, List.take_add, m3, List.drop_drop]
    · rw [if_neg h2] at h
      simp only [Prod.mk.injEq] at h
      exact absurd h.2.2 h2
  · by_cases h2 : c = 100
    · subst h2
      rw [if_neg h1, if_pos rfl] at h
      split at h
      · simp at h
      · rename_i h3
        simp only [Prod.mk.injEq] at h
        obtain ⟨⟨rfl, rfl⟩, rfl, _⟩ := h
        have hl : ((b.drop at_).take 32).length = 32 := by rw [List.length_take, List.length_drop]; omega
        refine ⟨_, rfl, ⟨by simp, by simp, by simp, fun n hn => hd n (List.mem_of_mem_take hn), hl⟩, by simp [okFor], bound_of (by simp) (by simp) (by simp) (by simp), rfl, by omega, by omega, ?_⟩
        simp only [enc, if_neg h1, if_pos]
        rw [htk]
    · rw [if_neg h1, if_neg h2] at h
      simp only at h
      obtain ⟨r, hr⟩ : ∃ r, r = (if c = 40 then rdTop (b.drop at_) else rd 0 0 (b.drop at_)) := ⟨_, rfl⟩
      rw [← hr] at h
      obtain ⟨e, N, k⟩ := r
      simp only at h
      by_cases h3 : e = 0
      · subst h3
        rw [if_pos rfl] at h
        simp only [Prod.mk.injEq] at h
        obtain ⟨⟨rfl, rfl⟩, rfl, _⟩ := h
        have : ∃ m : Nat, N = (m : Int) ∧ m ≤ 4611686018427387903 ∧ (c = 40 → m ≤ 4000) ∧ k = (num m).length ∧ (num m).length ≤ (b.drop at_).length ∧ (b.drop at_).take (num m).length = num m := by
          by_cases h4 : c = 40
          · rw [if_pos h4] at hr
            obtain ⟨m, m1, m2, m3, m4, m5⟩ := rdTop_back _ _ _ hd hr.symm
            exact ⟨m, m1, by omega, fun _ => m2, m3, m4, m5⟩
          · rw [if_neg h4] at hr
            obtain ⟨m, m1, m2, m3, m4, m5⟩ := rd_back0 _ _ _ hd hr.symm
            exact ⟨m, m1, m2, fun h => absurd h h4, m3, m4, m5⟩
        obtain ⟨m, rfl, m1, m2, rfl, m3, m4⟩ := this
        rw [List.length_drop] at m3
        refine ⟨_, rfl, ⟨by simp only []; omega, by simp only []; omega, by simp, z32, zero32_length⟩, by simp [okFor, h1, h2], bound_of (by simp) (by simp; omega) (by simp) (fun h => by simp; have := m2 h; omega), rfl, by have := num_pos m; omega, by omega, ?_⟩
        simp only [enc, if_neg h1, if_neg h2, Int.toNat_natCast]
        rw [htk, m4]
      · rw [if_neg h3] at h
        simp only [Prod.mk.injEq] at h
        exact absurd h.2.2 h3
theorem getS_le {b : List Int} (hb : ∀ n ∈ b, 0 ≤ n ∧ n ≤ 255) {c : Int} (hc : isC c) {at_ : Nat} {acc : List Itm} (ha : at_ ≤ b.length) : (getS b c (at_, acc)).1.1 ≤ b.length := by

  by_cases h0 : (getS b c (at_, acc)).2.2 = 0
  · obtain ⟨x, _, _, _, _, _, _, h, _⟩ := getS_ok hb hc ha (at' := (getS b c (at_, acc)).1.1) (acc' := (getS b c (at_, acc)).1.2) (n := (getS b c (at_, acc)).2.1) (by rw [← h0])
    exact h
  · revert h0
    unfold getS
    simp only
    repeat' split
    all_goals (simp; try omega)
end Fld
end
section
set_option linter.unusedSimpArgs false
set_option linter.unusedVariables false
namespace Fld
theorem pair_eta {α β : Type} {x : α × β} {a : α} {b : β} (h1 : x.1 = a) (h2 : x.2 = b) : x = (a, b) := by cases x; simp_all
/-- Forth: what a part of a shape puts is got again. -/
def Forth (p : List Int × List Itm → (List Int × List Itm) × Int) (g : List Int → Nat × List Itm → (Nat × List Itm) × Int) : Prop :=
  ∀ out l out' l', (∀ x ∈ l, x.ok) → p (out, l) = ((out', l'), 0) → ∃ xs e, l = xs ++ l' ∧ out' = out ++ e ∧ (∀ n ∈ e, 0 ≤ n ∧ n ≤ 255) ∧ e.length ≤ 4009 * xs.length ∧ ∀ rest acc, g (out' ++ rest) (out.length, acc) = ((out'.length, acc ++ xs), 0)
theorem forth_one {c : Int} (hc : isC c) {out out' : List Int} {l l' : List Itm} {n : Int} (hx : ∀ x ∈ l, x.ok) (h : putS c (out, l) = ((out', l'), n, 0)) :
    ∃ x e, l = [x] ++ l' ∧ out' = out ++ e ∧ (∀ n ∈ e, 0 ≤ n ∧ n ≤ 255) ∧ e.length ≤ 4009 ∧ ∀ rest acc, getS (out' ++ rest) c (out.length, acc) = ((out'.length, acc ++ [x]), n, 0) := by
  obtain ⟨x, rfl, h1, h2, rfl, rfl⟩ := putS_ok h
  have ok := hx x (List.mem_cons_self ..)
  exact ⟨x, enc c x, rfl, rfl, enc_bd c x ok, (enc_len c x ok h1 h2).1, fun rest acc => by rw [getS_put c x out rest acc hc ok h1 h2, List.length_append]⟩
theorem forth_once (g : List Int) (hg : ∀ c ∈ g, isC c) : Forth (once putS g) (fun b => once (getS b) g) := by
  induction g with
  | nil =>
    intro out l out' l' hx h
    simp only [once, Prod.mk.injEq] at h
    obtain ⟨⟨rfl, rfl⟩, _⟩ := h
    exact ⟨[], [], rfl, by simp, by simp, by simp, fun rest acc => by simp [once]⟩
  | cons c g ih =>
    intro out l out' l' hx h
    unfold once at h
    split at h
    · rename_i h0
      obtain ⟨x, e, hl0, ho, he, hl, h1⟩ := forth_one (hg c (List.mem_cons_self ..)) hx (pair_eta (a := ((putS c (out, l)).1.1, (putS c (out, l)).1.2)) rfl (pair_eta rfl h0))
      obtain ⟨xs, e', h2, h3, he', hl', h4⟩ := ih (fun c hc => hg c (List.mem_cons_of_mem _ hc)) _ _ out' l' (fun y hy => hx y (by rw [hl0]; exact List.mem_append_right _ hy)) h
      refine ⟨x :: xs, e ++ e', by rw [hl0, h2]; simp, by rw [h3, ho, List.append_assoc], ?_, by simp; omega, fun rest acc => ?_⟩
      · intro n hn; rcases List.mem_append.1 hn with h | h
        · exact he n h
        · exact he' n h
      · have g1 := h1 (e' ++ rest) acc
        rw [← List.append_assoc, ← h3] at g1
        simp only at h4 ⊢
        unfold once
        rw [g1, if_pos rfl, h4 rest (acc ++ [x])]
        simp
    · rename_i h0
      exact absurd (congrArg Prod.snd h) h0
theorem forth_rep (g : List Int) (hg : ∀ c ∈ g, isC c) (n : Nat) : Forth (rep putS g n) (fun b => rep (getS b) g n) := by
  induction n with
  | zero =>
    intro out l out' l' hx h
    simp only [rep, Prod.mk.injEq] at h
    obtain ⟨⟨rfl, rfl⟩, _⟩ := h
    exact ⟨[], [], rfl, by simp, by simp, by simp, fun rest acc => by simp [rep]⟩
  | succ n ih =>
    intro out l out' l' hx h
    unfold rep at h
    split at h
    · rename_i h0
      obtain ⟨xs, e, hl0, ho, he, hl, h1⟩ := forth_once g hg _ _ _ _ hx (pair_eta (a := ((once putS g (out, l)).1.1, (once putS g (out, l)).1.2)) rfl h0)
      obtain ⟨ys, e', h2, h3, he', hl', h4⟩ := ih _ _ out' l' (fun y hy => hx y (by rw [hl0]; exact List.mem_append_right _ hy)) h
      refine ⟨xs ++ ys, e ++ e', by rw [hl0, h2]; simp, by rw [h3, ho, List.append_assoc], ?_, by simp; omega, fun rest acc => ?_⟩
      · intro n hn; rcases List.mem_append.1 hn with h | h
        · exact he n h
        · exact he' n h
      · have g1 := h1 (e' ++ rest) acc
        rw [← List.append_assoc, ← h3] at g1
        simp only at g1 h4 ⊢
        unfold rep
        rw [g1, if_pos rfl, h4 rest (acc ++ xs)]
        simp
    · rename_i h0
      rw [h] at h0; simp at h0
def grpOk (g : Option (List Int)) : Prop := ∀ cs, g = some cs → ∀ c ∈ cs, isC c
theorem forth_walk (s : List Int) : ∀ (g : Option (List Int)) (t : Int) (k : Bool), grpOk g → chkL s g.isSome k = true → Forth (walkL putS g t s) (fun b => walkL (getS b) g t s) := by
  induction s with
  | nil =>
    intro g t k hg hk out l out' l' hx h
    have h' : ((out, l), (0 : Int)) = ((out', l'), 0) := by cases g <;> simpa [walkL] using h
    simp only [Prod.mk.injEq] at h'
    obtain ⟨⟨rfl, rfl⟩, _⟩ := h'
    exact ⟨[], [], rfl, by simp, by simp, by simp, fun rest acc => by cases g <;> simp [walkL]⟩
  | cons c s ih =>
    intro g t k hg hk out l out' l' hx h
    cases g with
    | none =>
      have hc : isC c ∧ (chkL s (if c = 40 then some ([] : List Int) else none).isSome (decide (c ≠ 40)) = true) := by
        unfold chkL at hk
        simp only [Option.isSome_none] at hk
        split at hk
        · rename_i h1
          refine ⟨by unfold isC; omega, ?_⟩
          rw [if_neg (by omega)]
          have : c ≠ 40 := by omega
          simpa [this] using hk
        · split at hk
          · rename_i h1 h2
            refine ⟨Or.inr (Or.inr (Or.inr h2.1)), ?_⟩
            rw [if_pos h2.1]
            simpa [h2.1] using hk
          · simp at hk
      unfold walkL at h
      split at h
      · rename_i h0
        obtain ⟨x, e, hl0, ho, he, hl, h1⟩ := forth_one hc.1 hx (pair_eta (a := ((putS c (out, l)).1.1, (putS c (out, l)).1.2)) rfl (pair_eta rfl h0))
        obtain ⟨xs, e', h2, h3, he', hl', h4⟩ := ih _ _ _ (by intro cs hcs; split at hcs <;> simp at hcs; subst hcs; simp) hc.2 _ _ out' l' (fun y hy => hx y (by rw [hl0]; exact List.mem_append_right _ hy)) h
        refine ⟨x :: xs, e ++ e', by rw [hl0, h2]; simp, by rw [h3, ho, List.append_assoc], ?_, by simp; omega, fun rest acc => ?_⟩
        · intro n hn; rcases List.mem_append.1 hn with h | h
          · exact he n h
          · exact he' n h
        · have g1 := h1 (e' ++ rest) acc
          rw [← List.append_assoc, ← h3] at g1
          simp only at h4 ⊢
          unfold walkL
          rw [g1, if_pos rfl, h4 rest (acc ++ [x])]
          simp
      · rename_i h0
        exact absurd (congrArg Prod.snd h) h0
    | some cs =>
      unfold walkL at h
      split at h
      · rename_i hc
        have hk' : chkL s (none : Option (List Int)).isSome k = true := by
          subst hc
          unfold chkL at hk
          simp at hk
          simpa using hk.2
        split at h
        · rename_i h0
          obtain ⟨xs, e, hl0, ho, he, hl, h1⟩ := forth_rep cs (hg cs rfl) t.toNat _ _ _ _ hx (pair_eta (a := ((rep putS cs t.toNat (out, l)).1.1, (rep putS cs t.toNat (out, l)).1.2)) rfl h0)
          obtain ⟨ys, e', h2, h3, he', hl', h4⟩ := ih _ _ k (by intro cs hcs; simp at hcs) hk' _ _ out' l' (fun y hy => hx y (by rw [hl0]; exact List.mem_append_right _ hy)) h
          refine ⟨xs ++ ys, e ++ e', by rw [hl0, h2]; simp, by rw [h3, ho, List.append_assoc], ?_, by simp; omega, fun rest acc => ?_⟩
          · intro n hn; rcases List.mem_append.1 hn with h | h
            · exact he n h
            · exact he' n h
          · have g1 := h1 (e' ++ rest) acc
            rw [← List.append_assoc, ← h3] at g1
            simp only at g1 h4 ⊢
            unfold walkL
            rw [if_pos hc, g1, if_pos rfl, h4 rest (acc ++ xs)]
            simp
        · rename_i h0
          rw [h] at h0; simp at h0
      · rename_i hc
        have hk' : isC c ∧ chkL s (some (cs ++ [c])).isSome true = true := by
          unfold chkL at hk
          simp only [Option.isSome_some] at hk
          split at hk
          · rename_i h1
            exact ⟨by unfold isC; omega, by simpa using hk⟩
          · simp [hc] at hk
        obtain ⟨xs, e, h2, h3, he, hl, h4⟩ := ih _ _ _ (by intro cs' hcs; simp at hcs; subst hcs; intro c' hc'; rcases List.mem_append.1 hc' with h | h; exact hg cs rfl c' h; simp at h; subst h; exact hk'.1) hk'.2 _ _ out' l' hx h
        exact ⟨xs, e, h2, h3, he, hl, fun rest acc => by simp only at h4 ⊢; unfold walkL; rw [if_neg hc]; exact h4 rest acc⟩
/-- Back: what a part of a shape gets is put as it was. -/
def Back (b : List Int) (p : List Int × List Itm → (List Int × List Itm) × Int) (g : Nat × List Itm → (Nat × List Itm) × Int) : Prop :=
  ∀ at_ acc, at_ ≤ b.length → (g (at_, acc)).1.1 ≤ b.length ∧ ((g (at_, acc)).2 = 0 → ∃ xs, (g (at_, acc)).1.2 = acc ++ xs ∧ (∀ x ∈ xs, x.ok) ∧ at_ + xs.length ≤ (g (at_, acc)).1.1 ∧ ∀ l, p (b.take at_, xs ++ l) = ((b.take (g (at_, acc)).1.1, l), 0))
theorem back_one {b : List Int} (hb : ∀ n ∈ b, 0 ≤ n ∧ n ≤ 255) {c : Int} (hc : isC c) {at_ : Nat} {acc : List Itm} (ha : at_ ≤ b.length) (h : (getS b c (at_, acc)).2.2 = 0) :
    ∃ x, (getS b c (at_, acc)).1.2 = acc ++ [x] ∧ x.ok ∧ at_ + 1 ≤ (getS b c (at_, acc)).1.1 ∧ ∀ l, putS c (b.take at_, x :: l) = ((b.take (getS b c (at_, acc)).1.1, l), (getS b c (at_, acc)).2.1, 0) := by
  obtain ⟨x, h1, ok, h2, h3, h4, h5, h6, h7⟩ := getS_ok hb hc ha (at' := (getS b c (at_, acc)).1.1) (acc' := (getS b c (at_, acc)).1.2) (n := (getS b c (at_, acc)).2.1) (by rw [← h])
  refine ⟨x, h1, ok, h5, fun l => ?_⟩
  unfold putS
  simp only
  rw [if_pos h2, if_pos h3, h7, h4]
theorem back_once {b : List Int} (hb : ∀ n ∈ b, 0 ≤ n ∧ n ≤ 255) (g : List Int) (hg : ∀ c ∈ g, isC c) : Back b (once putS g) (once (getS b) g) := by
  induction g with
  | nil =>
    intro at_ acc ha
    refine ⟨by simpa [once] using ha, fun _ => ⟨[], by simp [once], by simp, by simp [once], fun l => by simp [once]⟩⟩
  | cons c g ih =>
    intro at_ acc ha
    have hc := hg c (List.mem_cons_self ..)
    have hle := getS_le hb hc (acc := acc) ha
    obtain ⟨i1, i2⟩ := ih (fun c hc => hg c (List.mem_cons_of_mem _ hc)) (getS b c (at_, acc)).1.1 (getS b c (at_, acc)).1.2 hle
    unfold once
    split
    · rename_i h0
      obtain ⟨x, e1, ok, e2, e3⟩ := back_one hb hc ha h0
      refine ⟨i1, fun h => ?_⟩
      obtain ⟨xs, f1, f2, f3, f4⟩ := i2 h
      refine ⟨x :: xs, ?_, ?_, ?_, fun l => ?_⟩
      · exact f1.trans (by rw [e1]; simp)
      · intro y hy; rcases List.mem_cons.1 hy with rfl | hy
        · exact ok
        · exact f2 y hy
      · have f3' : (getS b c (at_, acc)).1.1 + xs.length ≤ (once (getS b) g (getS b c (at_, acc)).1).1.1 := f3
        simp only [List.length_cons]; omega
      · rw [List.cons_append, e3 (xs ++ l), if_pos rfl]; exact f4 l
    · rename_i h0
      exact ⟨hle, fun h => absurd h h0⟩
theorem back_rep {b : List Int} (hb : ∀ n ∈ b, 0 ≤ n ∧ n ≤ 255) (g : List Int) (hg : ∀ c ∈ g, isC c) (n : Nat) : Back b (rep putS g n) (rep (getS b) g n) := by
  induction n with
  | zero =>
    intro at_ acc ha
    refine ⟨by simpa [rep] using ha, fun _ => ⟨[], by simp [rep], by simp, by simp [rep], fun l => by simp [rep]⟩⟩
  | succ n ih =>
    intro at_ acc ha
    obtain ⟨o1, o2⟩ := back_once hb g hg at_ acc ha
    obtain ⟨i1, i2⟩ := ih (once (getS b) g (at_, acc)).1.1 (once (getS b) g (at_, acc)).1.2 o1
    unfold rep
    split
    · rename_i h0
      obtain ⟨xs, e1, e2, e3, e4⟩ := o2 h0
      refine ⟨i1, fun h => ?_⟩
      obtain ⟨ys, f1, f2, f3, f4⟩ := i2 h
      refine ⟨xs ++ ys, ?_, ?_, ?_, fun l => ?_⟩
      · exact f1.trans (by rw [e1]; simp)
      · intro y hy; rcases List.mem_append.1 hy with hy | hy
        · exact e2 y hy
        · exact f2 y hy
      · have f3' : (once (getS b) g (at_, acc)).1.1 + ys.length ≤ (rep (getS b) g n (once (getS b) g (at_, acc)).1).1.1 := f3
        simp only [List.length_append]; omega
      · rw [List.append_assoc, e4 (ys ++ l), if_pos rfl]; exact f4 l
    · rename_i h0
      exact ⟨o1, fun h => absurd h h0⟩
theorem back_walk {b : List Int} (hb : ∀ n ∈ b, 0 ≤ n ∧ n ≤ 255) (s : List Int) : ∀ (g : Option (List Int)) (t : Int) (k : Bool), grpOk g → chkL s g.isSome k = true → Back b (walkL putS g t s) (walkL (getS b) g t s) := by
  induction s with
  | nil =>
    intro g t k hg hk at_ acc ha
    have h1 : walkL (getS b) g t [] (at_, acc) = ((at_, acc), 0) := by cases g <;> simp [walkL]
    rw [h1]
    exact ⟨ha, fun _ => ⟨[], by simp, by simp, by simp, fun l => by cases g <;> simp [walkL]⟩⟩
  | cons c s ih =>
    intro g t k hg hk at_ acc ha
    cases g with
    | none =>
      have hc : isC c ∧ (chkL s (if c = 40 then some ([] : List Int) else none).isSome (decide (c ≠ 40)) = true) := by
        unfold chkL at hk
        simp only [Option.isSome_none] at hk
        split at hk
        · rename_i h1
          refine ⟨by unfold isC; omega, ?_⟩
          rw [if_neg (by omega)]
          have : c ≠ 40 := by omega
          simpa [this] using hk
        · split at hk
          · rename_i h1 h2
            refine ⟨Or.inr (Or.inr (Or.inr h2.1)), ?_⟩
            rw [if_pos h2.1]
            simpa [h2.1] using hk
          · simp at hk
      have hle := getS_le hb hc.1 (acc := acc) ha
      obtain ⟨i1, i2⟩ := ih _ (getS b c (at_, acc)).2.1 _ (by intro cs hcs; split at hcs <;> simp at hcs; subst hcs; simp) hc.2 (getS b c (at_, acc)).1.1 (getS b c (at_, acc)).1.2 hle
      unfold walkL
      split
      · rename_i h0
        obtain ⟨x, e1, ok, e2, e3⟩ := back_one hb hc.1 ha h0
        refine ⟨i1, fun h => ?_⟩
        obtain ⟨xs, f1, f2, f3, f4⟩ := i2 h
        refine ⟨x :: xs, ?_, ?_, ?_, fun l => ?_⟩
        · exact f1.trans (by rw [e1]; simp)
        · intro y hy; rcases List.mem_cons.1 hy with rfl | hy
          · exact ok
          · exact f2 y hy
        · have f3' : (getS b c (at_, acc)).1.1 + xs.length ≤ (walkL (getS b) (if c = 40 then some [] else none) (getS b c (at_, acc)).2.1 s (getS b c (at_, acc)).1).1.1 := f3
          simp only [List.length_cons]; omega
        · rw [List.cons_append, e3 (xs ++ l), if_pos rfl]; exact f4 l
      · rename_i h0
        exact ⟨hle, fun h => absurd h h0⟩
    | some cs =>
      unfold walkL
      by_cases hc : c = 41
      · have hk' : chkL s (none : Option (List Int)).isSome k = true := by
          subst hc
          unfold chkL at hk
          simp at hk
          simpa using hk.2
        obtain ⟨o1, o2⟩ := back_rep hb cs (hg cs rfl) t.toNat at_ acc ha
        obtain ⟨i1, i2⟩ := ih none t k (by intro cs hcs; simp at hcs) hk' (rep (getS b) cs t.toNat (at_, acc)).1.1 (rep (getS b) cs t.toNat (at_, acc)).1.2 o1
        rw [if_pos hc]
        split
        · rename_i h0
          obtain ⟨xs, e1, e2, e3, e4⟩ := o2 h0
          refine ⟨i1, fun h => ?_⟩
          obtain ⟨ys, f1, f2, f3, f4⟩ := i2 h
          refine ⟨xs ++ ys, ?_, ?_, ?_, fun l => ?_⟩
          · exact f1.trans (by rw [e1]; simp)
          · intro y hy; rcases List.mem_append.1 hy with hy | hy
            · exact e2 y hy
            · exact f2 y hy
          · have f3' : (rep (getS b) cs t.toNat (at_, acc)).1.1 + ys.length ≤ (walkL (getS b) none t s (rep (getS b) cs t.toNat (at_, acc)).1).1.1 := f3
            simp only [List.length_append]; omega
          · rw [List.append_assoc, e4 (ys ++ l), if_pos rfl]; exact f4 l
        · rename_i h0
          exact ⟨o1, fun h => absurd h h0⟩
      · have hk' : isC c ∧ chkL s (some (cs ++ [c])).isSome true = true := by
          unfold chkL at hk
          simp only [Option.isSome_some] at hk
          split at hk
          · rename_i h1
            exact ⟨by unfold isC; omega, by simpa using hk⟩
          · simp [hc] at hk
        rw [if_neg hc]
        obtain ⟨i1, i2⟩ := ih _ t _ (by intro cs' hcs; simp at hcs; subst hcs; intro c' hc'; rcases List.mem_append.1 hc' with h | h; exact hg cs rfl c' h; simp at h; subst h; exact hk'.1) hk'.2 at_ acc ha
        refine ⟨i1, fun h => ?_⟩
        obtain ⟨xs, f1, f2, f3, f4⟩ := i2 h
        exact ⟨xs, f1, f2, f3, fun l => by rw [if_neg hc]; exact f4 l⟩

theorem chk_walk {s : List Int} (h : chk s = true) : chkL s (none : Option (List Int)).isSome false = true := by
  unfold chk at h; simp at h; simpa using h.2
theorem put_fst {s : List Int} {l : List Itm} {out : List Int} (h : put s l = (out, 0)) : chk s = true ∧ walkL putS none 0 s ([], l) = ((out, []), 0) := by
  unfold put at h
  split at h
  · rename_i hc
    simp only at h
    split at h
    · rename_i h0
      split at h
      · rename_i h1
        simp only [Prod.mk.injEq] at h
        exact ⟨hc, pair_eta (pair_eta h.1 h1) h0⟩
      · simp at h
    · rename_i h0
      simp only [Prod.mk.injEq] at h
      exact absurd h.2 h0
  · simp at h
theorem put_walk {s : List Int} {l : List Itm} {out : List Int} (hx : ∀ x ∈ l, x.ok) (h : put s l = (out, 0)) :
    chk s = true ∧ (∀ n ∈ out, 0 ≤ n ∧ n ≤ 255) ∧ out.length ≤ 4009 * l.length ∧ ∀ rest, walkL (getS (out ++ rest)) none 0 s (0, []) = ((out.length, l), 0) := by
  obtain ⟨hc, hw⟩ := put_fst h
  obtain ⟨xs, e, h1, h2, h3, h4, h5⟩ := forth_walk s none 0 false (by intro cs hcs; simp at hcs) (chk_walk hc) [] l out [] hx hw
  simp only [List.append_nil, List.nil_append] at h1 h2
  subst h1 h2
  exact ⟨hc, h3, h4, fun rest => by simpa using h5 rest []⟩
theorem put_err {s : List Int} {l : List Itm} (h : (put s l).2 ≠ 0) : (put s l).1 = [] := by
  unfold put at *
  simp only at *
  repeat' split
  all_goals first | rfl | (simp_all)
theorem get_put {s : List Int} {l : List Itm} {out : List Int} (hx : ∀ x ∈ l, x.ok) (h : put s l = (out, 0)) : get s out = (l, 0, 0) := by
  obtain ⟨hc, _, _, hw⟩ := put_walk hx h
  have := hw []
  rw [List.append_nil] at this
  unfold get
  rw [if_pos hc]
  simp only [this]
  simp
theorem get_ok {s b : List Int} {l : List Itm} {k : Nat} (hb : ∀ n ∈ b, 0 ≤ n ∧ n ≤ 255) (h : get s b = (l, 0, k)) : put s l = (b, 0) ∧ (∀ x ∈ l, x.ok) ∧ k = 0 ∧ l.length ≤ b.length := by
  unfold get at h
  split at h
  · rename_i hc
    obtain ⟨h1, h2⟩ := back_walk hb s none 0 false (by intro cs hcs; simp at hcs) (chk_walk hc) 0 [] (by omega)
    simp only at h
    split at h
    · rename_i h0
      split at h
      · simp at h
      · rename_i h3
        simp only [Prod.mk.injEq, true_and] at h
        obtain ⟨rfl, rfl⟩ := h
        obtain ⟨xs, e1, e2, e3, e4⟩ := h2 h0
        have e5 := e4 []
        rw [List.append_nil, List.take_of_length_le (show b.length ≤ (walkL (getS b) none 0 s (0, [])).1.1 by omega)] at e5
        rw [List.nil_append] at e1
        rw [e1]
        refine ⟨?_, e2, rfl, by omega⟩
        unfold put
        rw [if_pos hc]
        simp only [List.take_zero] at e5
        simp only [e5]
        simp
    · rename_i h0
      simp only [Prod.mk.injEq] at h
      exact absurd h.2.1 h0
  · simp at h
theorem get_err {s b : List Int} (hb : ∀ n ∈ b, 0 ≤ n ∧ n ≤ 255) (h : (get s b).2.1 ≠ 0) : (get s b).1 = [] ∧ (get s b).2.2 ≤ b.length := by
  unfold get at *
  split
  · rename_i hc
    obtain ⟨h1, h2⟩ := back_walk hb s none 0 false (by intro cs hcs; simp at hcs) (chk_walk hc) 0 [] (by omega)
    simp only
    split
    · rename_i h0
      split
      · exact ⟨rfl, h1⟩
      · rename_i h3
        rw [if_pos hc] at h
        simp only [h0, if_true, if_neg h3] at h
        simp at h
    · exact ⟨rfl, h1⟩
  · simp
end Fld
end
end Go.Proofs.YtokpabkcaofahaaGreat
