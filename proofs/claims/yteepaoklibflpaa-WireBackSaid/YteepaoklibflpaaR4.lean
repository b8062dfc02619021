/-
  Plain mathematics of the check sum: going on by bits is linear and one to one; bytes, pieces, joined sums; matrices by columns. No program is named here.
-/
import Derived.Test.YteepaoklibflpaaR3
namespace Go.Proofs.Yteepaoklibflpaa
section
set_option linter.unusedSimpArgs false
set_option linter.unusedVariables false
namespace Crc
open Sha
def poly : W := 3988292384#32
/-- One bit on. -/
def bitOn (x : W) : W := if x.getLsbD 0 then x >>> 1 ^^^ poly else x >>> 1
/-- So many bits on. -/
def on : Nat → W → W
  | 0, x => x
  | n + 1, x => on n (bitOn x)
theorem on_zero (x : W) : on 0 x = x := rfl
theorem on_succ (n : Nat) (x : W) : on (n + 1) x = on n (bitOn x) := rfl
theorem on_add (m n : Nat) (x : W) : on (m + n) x = on n (on m x) := by
  induction m generalizing x with
  | zero => simp [on]
  | succ m ih => rw [show m + 1 + n = (m + n) + 1 by omega, on_succ, on_succ, ih]
theorem on_last (n : Nat) (x : W) : on (n + 1) x = bitOn (on n x) := by rw [on_add]; rfl
theorem bitOn_eq (x : W) : bitOn x = x >>> 1 ^^^ (if x.getLsbD 0 then poly else 0#32) := by
  unfold bitOn; split <;> simp
theorem bitOn_xor (x y : W) : bitOn (x ^^^ y) = bitOn x ^^^ bitOn y := by
  rw [bitOn_eq, bitOn_eq, bitOn_eq, BitVec.ushiftRight_xor_distrib, BitVec.getLsbD_xor]
  cases x.getLsbD 0 <;> cases y.getLsbD 0 <;> simp
  · rw [BitVec.xor_assoc]
  · rw [BitVec.xor_assoc, BitVec.xor_assoc, BitVec.xor_comm poly]
  · rw [BitVec.xor_assoc, BitVec.xor_comm poly, BitVec.xor_assoc, BitVec.xor_self, BitVec.xor_zero]
theorem on_xor (n : Nat) (x y : W) : on n (x ^^^ y) = on n x ^^^ on n y := by
  induction n generalizing x y with
  | zero => rfl
  | succ n ih => rw [on_succ, on_succ, on_succ, bitOn_xor, ih]
theorem bitOn_zero : bitOn 0#32 = 0#32 := by decide
theorem on_of_zero (n : Nat) : on n 0#32 = 0#32 := by
  induction n with
  | zero => rfl
  | succ n ih => rw [on_succ, bitOn_zero, ih]
theorem bitOn_inj0 (z : W) (h : bitOn z = 0#32) : z = 0#32 := by
  unfold bitOn at h
  split at h
  · exfalso
    have h1 := congrArg (·.getLsbD 31) h
    simp [poly] at h1
  · rename_i h0
    apply BitVec.eq_of_getLsbD_eq
    intro i hi
    cases i with
    | zero => simpa using h0
    | succ i =>
      have h1 := congrArg (·.getLsbD i) h
      simp [Nat.add_comm] at h1
      rw [h1]; simp
theorem xor_eq_zero' (x y : W) (h : x ^^^ y = 0#32) : x = y := by
  have := congrArg (· ^^^ y) h
  simpa [BitVec.xor_assoc] using this
theorem bitOn_inj (x y : W) (h : bitOn x = bitOn y) : x = y := by
  apply xor_eq_zero'
  apply bitOn_inj0
  rw [bitOn_xor, h, BitVec.xor_self]
theorem on_inj (n : Nat) (x y : W) (h : on n x = on n y) : x = y := by
  induction n generalizing x y with
  | zero => exact h
  | succ n ih => exact bitOn_inj _ _ (ih _ _ h)
/-- Noughts drop out. -/
theorem on_shift (n : Nat) (x : W) (h : ∀ i, i < n → x.getLsbD i = false) : on n x = x >>> n := by
  induction n with
  | zero => simp [on]
  | succ n ih =>
    rw [on_last, ih (fun i hi => h i (by omega))]
    have h0 : (x >>> n).getLsbD 0 = false := by rw [BitVec.getLsbD_ushiftRight]; exact h n (by omega)
    unfold bitOn
    rw [h0, if_neg (by decide), BitVec.shiftRight_add]
/-! ### Bytes -/
def low8 (x : W) : W := x &&& 255#32
theorem split8 (x : W) : on 8 x = x >>> 8 ^^^ on 8 (low8 x) := by
  have h : x = (x &&& 4294967040#32) ^^^ low8 x := by
    unfold low8
    apply BitVec.eq_of_getLsbD_eq
    intro i hi
    have : i = 0 ∨ i = 1 ∨ i = 2 ∨ i = 3 ∨ i = 4 ∨ i = 5 ∨ i = 6 ∨ i = 7 ∨ i = 8 ∨ i = 9 ∨ i = 10 ∨ i = 11 ∨ i = 12 ∨ i = 13 ∨ i = 14 ∨ i = 15 ∨ i = 16 ∨ i = 17 ∨ i = 18 ∨ i = 19 ∨ i = 20 ∨ i = 21 ∨ i = 22 ∨ i = 23 ∨ i = 24 ∨ i = 25 ∨ i = 26 ∨ i = 27 ∨ i = 28 ∨ i = 29 ∨ i = 30 ∨ i = 31 := by omega
    rcases this with h | h | h | h | h | h | h | h | h | h | h | h | h | h | h | h | h | h | h | h | h | h | h | h | h | h | h | h | h | h | h | h <;> subst h <;> simp
  have h2 : on 8 (x &&& 4294967040#32) = x >>> 8 := by
    rw [on_shift]
    · apply BitVec.eq_of_getLsbD_eq
      intro i hi
      have : i = 0 ∨ i = 1 ∨ i = 2 ∨ i = 3 ∨ i = 4 ∨ i = 5 ∨ i = 6 ∨ i = 7 ∨ i = 8 ∨ i = 9 ∨ i = 10 ∨ i = 11 ∨ i = 12 ∨ i = 13 ∨ i = 14 ∨ i = 15 ∨ i = 16 ∨ i = 17 ∨ i = 18 ∨ i = 19 ∨ i = 20 ∨ i = 21 ∨ i = 22 ∨ i = 23 ∨ i = 24 ∨ i = 25 ∨ i = 26 ∨ i = 27 ∨ i = 28 ∨ i = 29 ∨ i = 30 ∨ i = 31 := by omega
      rcases this with h | h | h | h | h | h | h | h | h | h | h | h | h | h | h | h | h | h | h | h | h | h | h | h | h | h | h | h | h | h | h | h <;> subst h <;> simp
    · intro i hi
      have : i = 0 ∨ i = 1 ∨ i = 2 ∨ i = 3 ∨ i = 4 ∨ i = 5 ∨ i = 6 ∨ i = 7 := by omega
      rcases this with h | h | h | h | h | h | h | h <;> subst h <;> simp
  conv => lhs; rw [h]
  rw [on_xor, h2]
/-- What a byte makes of a number. -/
def upd (x : W) (c : Int) : W := on 8 (x ^^^ BitVec.ofInt 32 c)
def run (x : W) : List Int → W
  | [] => x
  | c :: zs => run (upd x c) zs
def more (s : W) (zs : List Int) : W := ~~~(run (~~~s) zs)
def sum (zs : List Int) : W := more 0#32 zs
theorem run_nil (x : W) : run x [] = x := rfl
theorem more_eq (s : W) (zs : List Int) : more s zs = ~~~(run (~~~s) zs) := rfl
theorem sum_eq (zs : List Int) : sum zs = more 0#32 zs := rfl
theorem upd_on (x : W) (c : Int) : upd x c = on 8 (x ^^^ BitVec.ofInt 32 c) := rfl
theorem run_append (x : W) (a b : List Int) : run x (a ++ b) = run (run x a) b := by
  induction a generalizing x with
  | nil => rfl
  | cons c a ih => simp [run, ih]
theorem run_take (x : W) (zs : List Int) (k : Nat) (c : Int) (hk : k < zs.length) (hc : c = zs.getD k 0) : run x (zs.take (k + 1)) = upd (run x (zs.take k)) c := by
  rw [List.take_succ_eq_append_getElem hk, run_append, hc, List.getD_eq_getElem?_getD, List.getElem?_eq_getElem hk]; rfl
theorem run_xor (x y : W) (zs : List Int) : run (x ^^^ y) zs = on (8 * zs.length) x ^^^ run y zs := by
  induction zs generalizing x y with
  | nil => rfl
  | cons c zs ih =>
    have h : upd (x ^^^ y) c = on 8 x ^^^ upd y c := by unfold upd; rw [BitVec.xor_assoc, on_xor]
    rw [run, h, ih, run, List.length_cons, show 8 * (zs.length + 1) = 8 + 8 * zs.length by omega, on_add]
theorem more_append (s : W) (a b : List Int) : more s (a ++ b) = more (more s a) b := by
  unfold more; rw [run_append, BitVec.not_not]
theorem not_eq (x : W) : ~~~x = x ^^^ BitVec.allOnes 32 := by rw [BitVec.xor_allOnes]
theorem sum_append (a b : List Int) : sum (a ++ b) = on (8 * b.length) (sum a) ^^^ sum b := by
  unfold sum more
  rw [run_append]
  generalize run (~~~0#32) a = A
  have h1 := run_xor A 0#32 b
  rw [BitVec.xor_zero] at h1
  have h2 := run_xor (~~~0#32) 0#32 b
  rw [BitVec.xor_zero] at h2
  rw [h1, h2]
  generalize run 0#32 b = B
  rw [not_eq, not_eq A, not_eq (on _ _ ^^^ B), on_xor, show (~~~0#32 : W) = BitVec.allOnes 32 by decide]
  generalize on (8 * b.length) A = C
  generalize on (8 * b.length) (BitVec.allOnes 32) = D
  rw [BitVec.xor_assoc C D, ← BitVec.xor_assoc D (D ^^^ B), ← BitVec.xor_assoc D D, BitVec.xor_self, BitVec.zero_xor, BitVec.xor_assoc]
theorem sum_more (a b : List Int) : sum (a ++ b) = more (sum a) b := more_append _ _ _
/-- Two lists joined. -/
def join (a b : W) (n : Nat) : W := on (8 * n) a ^^^ b
theorem join_eq (a b : W) (n : Nat) : join a b n = on (8 * n) a ^^^ b := rfl
theorem join_join (a b c : W) (m n : Nat) : join (join a b m) c n = join a (join b c n) (m + n) := by
  unfold join
  rw [on_xor, show 8 * (m + n) = 8 * m + 8 * n by omega, on_add, BitVec.xor_assoc]
/-! ### Four bytes in a row -/
def leN : List Int → Nat
  | [] => 0
  | c :: u => c.toNat + 256 * leN u
theorem leN_lt (u : List Int) (h : ∀ n ∈ u, 0 ≤ n ∧ n ≤ 255) : leN u < 2 ^ (8 * u.length) := by
  induction u with
  | nil => simp [leN]
  | cons c u ih =>
    have h1 := h c (by simp)
    have h2 := ih (fun n hn => h n (by simp [hn]))
    rw [leN, List.length_cons, show 8 * (u.length + 1) = 8 * u.length + 8 by omega, Nat.pow_add]
    omega
theorem leN_inj : ∀ (u v : List Int), u.length = v.length → (∀ n ∈ u, 0 ≤ n ∧ n ≤ 255) → (∀ n ∈ v, 0 ≤ n ∧ n ≤ 255) → leN u = leN v → u = v
  | [], [], _, _, _, _ => rfl
  | [], _ :: _, h, _, _, _ => by simp at h
  | _ :: _, [], h, _, _, _ => by simp at h
  | c :: u, d :: v, hl, hu, hv, h => by
    have h1 := hu c (by simp)
    have h2 := hv d (by simp)
    simp only [leN] at h
    have h3 : c = d := by omega
    have h4 : leN u = leN v := by omega
    rw [h3, leN_inj u v (by simpa using hl) (fun n hn => hu n (by simp [hn])) (fun n hn => hv n (by simp [hn])) h4]
theorem run_le (x : W) (u : List Int) (h : ∀ n ∈ u, 0 ≤ n ∧ n ≤ 255) (hl : u.length ≤ 4) : run x u = on (8 * u.length) (x ^^^ BitVec.ofNat 32 (leN u)) := by
  induction u generalizing x with
  | nil => simp [run, leN, on]
  | cons c u ih =>
    have h1 := h c (by simp)
    have h2 : ∀ n ∈ u, 0 ≤ n ∧ n ≤ 255 := fun n hn => h n (by simp [hn])
    have h3 := leN_lt u h2
    have hlen : u.length ≤ 3 := by simpa using hl
    have h4 : leN u < 2 ^ 24 := Nat.lt_of_lt_of_le h3 (Nat.pow_le_pow_right (by omega) (by omega))
    rw [run, ih _ h2 (by omega)]
    have e1 : BitVec.ofNat 32 (leN (c :: u)) = BitVec.ofInt 32 c ^^^ BitVec.ofNat 32 (leN u) <<< 8 := by
      obtain ⟨k, rfl⟩ := Int.eq_ofNat_of_zero_le h1.1
      simp only [leN, Int.toNat_natCast]
      apply BitVec.eq_of_toNat_eq
      rw [BitVec.toNat_xor, BitVec.toNat_shiftLeft, BitVec.toNat_ofNat, BitVec.toNat_ofNat]
      have hk : (BitVec.ofInt 32 (k : Int)).toNat = k := by simp; omega
      rw [hk, Nat.shiftLeft_eq, Nat.mod_eq_of_lt (show leN u < 2 ^ 32 by omega), Nat.mod_eq_of_lt (show leN u * 2 ^ 8 < 2 ^ 32 by omega), Nat.mod_eq_of_lt (show k + 256 * leN u < 2 ^ 32 by omega)]
      apply Nat.eq_of_testBit_eq
      intro i
      rw [Nat.testBit_xor, show k + 256 * leN u = 2 ^ 8 * leN u + k by omega, Nat.testBit_two_pow_mul_add _ (by omega), show leN u * 2 ^ 8 = 2 ^ 8 * leN u by omega, Nat.testBit_two_pow_mul]
      by_cases hi : i < 8
      · simp [hi, show ¬ 8 ≤ i by omega]
      · simp [hi, show 8 ≤ i by omega]
        have : k.testBit i = false := Nat.testBit_lt_two_pow (Nat.lt_of_lt_of_le (show k < 2 ^ 8 by omega) (Nat.pow_le_pow_right (by omega) (by omega)))
        simp [this]
    have e2 : on 8 (BitVec.ofNat 32 (leN u) <<< 8) = BitVec.ofNat 32 (leN u) := by
      rw [on_shift]
      · apply BitVec.eq_of_toNat_eq
        rw [BitVec.toNat_ushiftRight, BitVec.toNat_shiftLeft, BitVec.toNat_ofNat, Nat.shiftLeft_eq, Nat.shiftRight_eq_div_pow]
        omega
      · intro i hi
        rw [BitVec.getLsbD_shiftLeft]; simp [hi]
    unfold upd
    rw [e1, List.length_cons, show 8 * (u.length + 1) = 8 + 8 * u.length by omega, on_add, ← BitVec.xor_assoc, on_xor 8 (x ^^^ BitVec.ofInt 32 c), e2]
theorem run_inj (x y : W) (zs : List Int) (h : run x zs = run y zs) : x = y := by
  have h1 := run_xor x 0#32 zs
  have h2 := run_xor y 0#32 zs
  rw [BitVec.xor_zero] at h1 h2
  rw [h1, h2] at h
  have := congrArg (· ^^^ run 0#32 zs) h
  simp [BitVec.xor_assoc] at this
  exact on_inj _ _ _ this
theorem sum_window (a u v b : List Int) (hl : u.length = v.length) (h4 : u.length ≤ 4) (hu : ∀ n ∈ u, 0 ≤ n ∧ n ≤ 255) (hv : ∀ n ∈ v, 0 ≤ n ∧ n ≤ 255) (h : sum (a ++ u ++ b) = sum (a ++ v ++ b)) : u = v := by
  unfold sum more at h
  have h1 := congrArg (fun x => ~~~x) h
  simp only [BitVec.not_not, run_append] at h1
  have h2 := run_inj _ _ _ h1
  rw [run_le _ u hu h4, run_le _ v hv (by omega), ← hl] at h2
  have h3 := on_inj _ _ _ h2
  generalize run (~~~0#32) a = x at h3
  have h5 : BitVec.ofNat 32 (leN u) = BitVec.ofNat 32 (leN v) := by
    have := congrArg (x ^^^ ·) h3
    simpa [← BitVec.xor_assoc] using this
  have h6 := congrArg BitVec.toNat h5
  have b1 := leN_lt u hu
  have b2 := leN_lt v hv
  have b3 : 2 ^ (8 * u.length) ≤ 2 ^ 32 := Nat.pow_le_pow_right (by omega) (by omega)
  have b4 : 2 ^ (8 * v.length) ≤ 2 ^ 32 := Nat.pow_le_pow_right (by omega) (by omega)
  rw [BitVec.toNat_ofNat, BitVec.toNat_ofNat, Nat.mod_eq_of_lt (by omega), Nat.mod_eq_of_lt (by omega)] at h6
  exact leN_inj u v hl hu hv h6
theorem window_split (xs ys : List Int) (p : Nat) (hl : xs.length = ys.length) (hp : p ≤ xs.length) (h : ∀ i, i < p ∨ p + 4 ≤ i → xs[i]? = ys[i]?) :
    ∃ a u v b, xs = a ++ u ++ b ∧ ys = a ++ v ++ b ∧ u.length = v.length ∧ u.length ≤ 4 := by
  refine ⟨xs.take p, (xs.drop p).take 4, (ys.drop p).take 4, xs.drop (p + 4), ?_, ?_, by simp; omega, by simp; omega⟩
  · rw [List.append_assoc, show xs.drop (p + 4) = (xs.drop p).drop 4 by rw [List.drop_drop], List.take_append_drop, List.take_append_drop]
  · have h1 : xs.take p = ys.take p := by
      apply List.ext_getElem?
      intro i
      rw [List.getElem?_take, List.getElem?_take]
      split
      · exact h i (Or.inl (by assumption))
      · rfl
    have h2 : xs.drop (p + 4) = ys.drop (p + 4) := by
      apply List.ext_getElem?
      intro i
      rw [List.getElem?_drop, List.getElem?_drop]
      exact h _ (Or.inr (by omega))
    rw [h1, h2, List.append_assoc, show ys.drop (p + 4) = (ys.drop p).drop 4 by rw [List.drop_drop], List.take_append_drop, List.take_append_drop]
/-- Unlike in four bytes in a row at most: alike just if their sums are. -/
theorem sum_changed (xs ys : List Int) (p : Nat) (hl : xs.length = ys.length) (hp : p ≤ xs.length) (hx : ∀ n ∈ xs, 0 ≤ n ∧ n ≤ 255) (hy : ∀ n ∈ ys, 0 ≤ n ∧ n ≤ 255) (h : ∀ i, i < p ∨ p + 4 ≤ i → xs[i]? = ys[i]?) (hs : sum xs = sum ys) : xs = ys := by
  obtain ⟨a, u, v, b, rfl, rfl, h1, h2⟩ := window_split xs ys p hl hp h
  rw [sum_window a u v b h1 h2 (fun n hn => hx n (by simp [hn])) (fun n hn => hy n (by simp [hn])) hs]
/-! ### The table -/
def tabUpto (k : Nat) : List W := (List.range 256).map fun i => if i < k then on 8 (BitVec.ofNat 32 i) else 0#32
theorem tabUpto_length (k : Nat) : (tabUpto k).length = 256 := by simp [tabUpto]
theorem tabUpto_get (k i : Nat) (h : i < k) (hi : i < 256) : (tabUpto k)[i]? = some (on 8 (BitVec.ofNat 32 i)) := by
  simp [tabUpto, hi, h]
theorem tabUpto_succ (k : Nat) (hk : k < 256) : (tabUpto (k + 1)).map v32 = ((tabUpto k).map v32).set k (v32 (on 8 (BitVec.ofNat 32 k))) := by
  rw [← List.map_set]
  congr 1
  apply List.ext_getElem?
  intro i
  rw [List.getElem?_set]
  by_cases hi : k = i
  · subst hi; simp [tabUpto, hk]
  · rw [if_neg hi]
    by_cases h2 : i < 256
    · simp [tabUpto, h2]
      by_cases h3 : i < k
      · simp [h3, show i < k + 1 by omega]
      · simp [h3, show ¬ i < k + 1 by omega]
    · simp [tabUpto, h2]
theorem tabUpto_zero : tabUpto 0 = List.replicate 256 0#32 := by
  unfold tabUpto
  simp only [Nat.not_lt_zero, if_false]
  rw [List.map_const', List.length_range]
/-- The lowest bit of a number. -/
def lowOf (k : Nat) : Nat := if k % 2 = 1 then 1 else if k % 4 = 2 then 2 else if k % 8 = 4 then 4 else if k % 16 = 8 then 8 else if k % 32 = 16 then 16 else if k % 64 = 32 then 32 else if k % 128 = 64 then 64 else if k = 128 then 128 else 0
theorem lowOf_le (k : Nat) (hk : k < 256) : lowOf k ≤ k := by
  have h : ∀ k : Fin 256, lowOf k.val ≤ k.val := by decide +kernel
  exact h ⟨k, hk⟩
theorem lowOf_pos (k : Nat) (hk : k < 256) (h : lowOf k ≠ k) : 0 < lowOf k ∧ lowOf k < k := by
  have h1 : ∀ k : Fin 256, lowOf k.val ≠ k.val → 0 < lowOf k.val ∧ lowOf k.val < k.val := by decide +kernel
  exact h1 ⟨k, hk⟩ h
theorem low_and (k : Nat) (hk : k < 256) : bits .and .i64 (k : Int) (-(k : Int)) = (lowOf k : Int) := by
  have h : ∀ k : Fin 256, bits .and .i64 ((k.val : Nat) : Int) (-((k.val : Nat) : Int)) = (lowOf k.val : Int) := by decide +kernel
  exact h ⟨k, hk⟩
theorem low_xor (k : Nat) (hk : k < 256) : BitVec.ofNat 32 (lowOf k) ^^^ BitVec.ofNat 32 (k - lowOf k) = BitVec.ofNat 32 k := by
  have h : ∀ k : Fin 256, BitVec.ofNat 32 (lowOf k.val) ^^^ BitVec.ofNat 32 (k.val - lowOf k.val) = BitVec.ofNat 32 k.val := by decide +kernel
  exact h ⟨k, hk⟩
theorem low_on (k : Nat) (hk : k < 256) : on 8 (BitVec.ofNat 32 (lowOf k)) ^^^ on 8 (BitVec.ofNat 32 (k - lowOf k)) = on 8 (BitVec.ofNat 32 k) := by
  rw [← on_xor, low_xor k hk]
/-- The place in the table. -/
def placeOf (x : W) (c : Int) : Nat := (low8 (x ^^^ BitVec.ofInt 32 c)).toNat
theorem placeOf_lt (x : W) (c : Int) : placeOf x c < 256 := by
  unfold placeOf low8
  rw [BitVec.toNat_and]
  have := @Nat.and_le_right (x ^^^ BitVec.ofInt 32 c).toNat (255#32).toNat
  have h2 : (255#32 : W).toNat = 255 := rfl
  omega
theorem upd_eq (x : W) (c : Int) (hc : 0 ≤ c ∧ c ≤ 255) : x >>> 8 ^^^ on 8 (BitVec.ofNat 32 (placeOf x c)) = upd x c := by
  unfold upd placeOf
  rw [split8 (x ^^^ BitVec.ofInt 32 c), BitVec.ofNat_toNat, BitVec.setWidth_eq, BitVec.ushiftRight_xor_distrib]
  have : (BitVec.ofInt 32 c) >>> 8 = 0#32 := by
    obtain ⟨k, rfl⟩ := Int.eq_ofNat_of_zero_le hc.1
    apply BitVec.eq_of_toNat_eq
    rw [BitVec.toNat_ushiftRight, Nat.shiftRight_eq_div_pow]
    have hk : (BitVec.ofInt 32 (k : Int)).toNat = k := by simp; omega
    rw [hk]; simp; omega
  rw [this, BitVec.xor_zero]
theorem place_xor (x : W) (c : Int) (hc : 0 ≤ c ∧ c ≤ 255) : bits .xor .u8 (U x % 256) c = (placeOf x c : Int) := by
  obtain ⟨k, rfl⟩ := Int.eq_ofNat_of_zero_le hc.1
  show IntKind.u8.wrap ((BitVec.ofInt 8 (U x % 256) ^^^ BitVec.ofInt 8 (k : Int)).toNat : Int) = _
  have h1 : (BitVec.ofInt 8 (U x % 256)).toNat = x.toNat % 256 := by
    unfold U; simp [BitVec.toNat_ofInt]; omega
  have h2 : (BitVec.ofInt 8 (k : Int)).toNat = k := by simp; omega
  have hk : (BitVec.ofInt 32 (k : Int)).toNat = k := by simp; omega
  have hx : x.toNat % 256 ^^^ k < 2 ^ 8 := Nat.xor_lt_two_pow (by omega) (by omega)
  rw [BitVec.toNat_xor, h1, h2, IntKind.wrap_u8]
  unfold placeOf low8
  rw [BitVec.toNat_and, BitVec.toNat_xor, hk, show (255#32 : W).toNat = 2 ^ 8 - 1 from rfl, Nat.and_two_pow_sub_one_eq_mod, Nat.xor_mod_two_pow]
  rw [show k % 2 ^ 8 = k by omega]
  simp only [Nat.reducePow] at hx ⊢
  omega
/-! ### Matrices -/
def timesUpto (m : List W) (x : W) : Nat → W
  | 0 => 0#32
  | k + 1 => if x.getLsbD k then timesUpto m x k ^^^ m.getD k 0#32 else timesUpto m x k
theorem timesUpto_zero (m : List W) (x : W) : timesUpto m x 0 = 0#32 := rfl
theorem timesUpto_succ (m : List W) (x : W) (k : Nat) : timesUpto m x (k + 1) = if x.getLsbD k then timesUpto m x k ^^^ m.getD k 0#32 else timesUpto m x k := rfl
def matOf (f : W → W) : List W := (List.range 32).map fun i => f (1#32 <<< i)
theorem matOf_length (f : W → W) : (matOf f).length = 32 := by simp [matOf]
theorem matOf_getD (f : W → W) (k : Nat) (hk : k < 32) : (matOf f).getD k 0#32 = f (1#32 <<< k) := by simp [matOf, hk]
def lows (x : W) : Nat → W
  | 0 => 0#32
  | k + 1 => if x.getLsbD k then lows x k ^^^ (1#32 <<< k) else lows x k
theorem one_bit (k j : Nat) (hk : k < 32) (hj : j < 32) : (1#32 <<< k).getLsbD j = decide (j = k) := by
  rw [BitVec.getLsbD_shiftLeft, BitVec.getLsbD_one]
  simp only [hj, decide_true, Bool.true_and, show (0 : Nat) < 32 by omega]
  by_cases h : j = k
  · subst h; simp
  · simp only [h, decide_false]
    by_cases h2 : j < k
    · simp [h2]
    · simp [h2]; omega
theorem lows_get (x : W) (k : Nat) (hk : k ≤ 32) (j : Nat) (hj : j < 32) : (lows x k).getLsbD j = (decide (j < k) && x.getLsbD j) := by
  induction k with
  | zero => simp [lows]
  | succ k ih =>
    have ih := ih (by omega)
    rw [lows]
    by_cases hb : x.getLsbD k
    · rw [if_pos hb, BitVec.getLsbD_xor, ih, one_bit k j (by omega) hj]
      by_cases h : j = k
      · subst h; simp [hb]
      · simp only [h, decide_false, Bool.xor_false]
        congr 1; simp; omega
    · rw [if_neg hb, ih]
      by_cases h : j = k
      · subst h; simp [hb]
      · congr 1; simp; omega
theorem lows_all (x : W) : lows x 32 = x := by
  apply BitVec.eq_of_getLsbD_eq
  intro i hi
  rw [lows_get x 32 (Nat.le_refl _) i hi]; simp [hi]
theorem timesUpto_mat (f : W → W) (hf : ∀ a b, f (a ^^^ b) = f a ^^^ f b) (h0 : f 0#32 = 0#32) (x : W) (k : Nat) (hk : k ≤ 32) : timesUpto (matOf f) x k = f (lows x k) := by
  induction k with
  | zero => simp [timesUpto, lows, h0]
  | succ k ih =>
    rw [timesUpto, lows, ih (by omega), matOf_getD f k (by omega)]
    by_cases hb : x.getLsbD k
    · rw [if_pos hb, if_pos hb, hf]
    · rw [if_neg hb, if_neg hb]
theorem times_on (p : Nat) (x : W) : timesUpto (matOf (on p)) x 32 = on p x := by
  rw [timesUpto_mat _ (on_xor p) (on_of_zero p) x 32 (Nat.le_refl _), lows_all]
def matUpto (f : W → W) (k : Nat) : List W := (List.range 32).map fun i => if i < k then f (1#32 <<< i) else 0#32
theorem matUpto_length (f : W → W) (k : Nat) : (matUpto f k).length = 32 := by simp [matUpto]
theorem matUpto_zero (f : W → W) : matUpto f 0 = List.replicate 32 0#32 := by
  unfold matUpto
  simp only [Nat.not_lt_zero, if_false]
  rw [List.map_const', List.length_range]
theorem matUpto_all (f : W → W) : matUpto f 32 = matOf f := by
  apply List.ext_getElem?
  intro i
  by_cases h2 : i < 32
  · simp [matUpto, matOf, h2]
  · simp [matUpto, matOf, h2]
theorem matUpto_succ (f : W → W) (k : Nat) (hk : k < 32) (y : W) (hy : y = f (1#32 <<< k)) : (matUpto f (k + 1)).map v32 = ((matUpto f k).map v32).set k (v32 y) := by
  rw [← List.map_set, hy]
  congr 1
  apply List.ext_getElem?
  intro i
  rw [List.getElem?_set]
  by_cases hi : k = i
  · subst hi; simp [matUpto, hk]
  · rw [if_neg hi]
    by_cases h2 : i < 32
    · simp [matUpto, h2]
      by_cases h3 : i < k
      · simp [h3, show i < k + 1 by omega]
      · simp [h3, show ¬ i < k + 1 by omega]
    · simp [matUpto, h2]
theorem on_twice (p : Nat) (x : W) : on p (on p x) = on (2 * p) x := by rw [show 2 * p = p + p by omega, on_add]
attribute [irreducible] on run more sum join tabUpto lowOf placeOf timesUpto matOf matUpto bitOn upd
end Crc
end
end Go.Proofs.Yteepaoklibflpaa
