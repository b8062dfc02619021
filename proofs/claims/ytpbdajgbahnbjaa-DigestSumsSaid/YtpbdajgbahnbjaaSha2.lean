/-
  Plain mathematics of the digest, second part: a state as bytes, the filling of a message, the whole sum.
-/
import Derived.Test.YtpbdajgbahnbjaaSha
namespace Go.Proofs.Ytpbdajgbahnbjaa
set_option linter.unusedSimpArgs false
set_option linter.unusedVariables false
namespace Sha
def zero32 : List Int := List.replicate 32 0
def byteAt (s : List W) (i : Nat) : Int := (U (s.getD (i / 4) 0) / 2 ^ (24 - 8 * (i % 4))) % 256
def tellUpto (s : List W) : Nat → List Int
  | 0 => zero32
  | i + 1 => (tellUpto s i).set i (byteAt s i)
theorem tellUpto_zero (s : List W) : tellUpto s 0 = zero32 := rfl
theorem tellUpto_length (s : List W) (i : Nat) : (tellUpto s i).length = 32 := by
  induction i with
  | zero => rfl
  | succ i ih => simp [tellUpto, ih]
theorem tellUpto_succ (s : List W) (i : Nat) (x : Int) (hx : x = byteAt s i) : (tellUpto s (i + 1)).map v8 = ((tellUpto s i).map v8).set i (v8 x) := by
  subst hx; simp [tellUpto, List.map_set]
/-- How many noughts fill a message's last part of n bytes. -/
def noughts (n : Nat) : Nat := if n < 56 then 55 - n else 119 - n
def lenByte (N : Int) (i : Nat) : Int := IntKind.u64.wrap (N * 8) / 2 ^ (56 - 8 * i) % 256
def lenUpto (N : Int) (i : Nat) : List Int := (List.range i).map (lenByte N)
theorem lenUpto_succ (N : Int) (i : Nat) : lenUpto N (i + 1) = lenUpto N i ++ [lenByte N i] := by simp [lenUpto, List.range_succ]
theorem lenUpto_length (N : Int) (i : Nat) : (lenUpto N i).length = i := by simp [lenUpto]
def ending (zs : List Int) (N : Int) : List Int := zs ++ [128] ++ List.replicate (noughts zs.length) 0 ++ lenUpto N 8
def wholeOf (zs : List Int) : Nat := zs.length - zs.length % 64
/-- The digest of bytes. -/
def sum (zs : List Int) : List Int :=
  let t := ending (zs.drop (wholeOf zs)) zs.length
  tellUpto (thru (thru first8 kList (zs.take (wholeOf zs)) ((zs.take (wholeOf zs)).length / 64)) kList t (t.length / 64)) 32
theorem sum_eq (zs : List Int) : sum zs = tellUpto (thru (thru first8 kList (zs.take (wholeOf zs)) ((zs.take (wholeOf zs)).length / 64)) kList (ending (zs.drop (wholeOf zs)) zs.length) ((ending (zs.drop (wholeOf zs)) zs.length).length / 64)) 32 := rfl
theorem byteAt_bd (s : List W) (i : Nat) : 0 ≤ byteAt s i ∧ byteAt s i ≤ 255 := by unfold byteAt; omega
theorem lenByte_bd (N : Int) (i : Nat) : 0 ≤ lenByte N i ∧ lenByte N i ≤ 255 := by unfold lenByte; omega
theorem tellUpto_bd (s : List W) (i : Nat) : ∀ n ∈ tellUpto s i, 0 ≤ n ∧ n ≤ 255 := by
  induction i with
  | zero => intro n hn; simp [tellUpto, zero32] at hn; omega
  | succ i ih =>
    intro n hn
    rcases List.mem_or_eq_of_mem_set hn with h | h
    · exact ih n h
    · subst h; exact byteAt_bd s i
theorem ending_bd (zs : List Int) (N : Int) (h : ∀ n ∈ zs, 0 ≤ n ∧ n ≤ 255) : ∀ n ∈ ending zs N, 0 ≤ n ∧ n ≤ 255 := by
  intro n hn
  simp only [ending, List.mem_append, lenUpto, List.mem_map, List.mem_replicate, List.mem_singleton] at hn
  rcases hn with ((hn | hn) | hn) | ⟨i, _, hn⟩
  · exact h n hn
  · omega
  · omega
  · subst hn; exact lenByte_bd N i
theorem ending_length (zs : List Int) (N : Int) (h : zs.length < 64) : (ending zs N).length = if zs.length < 56 then 64 else 128 := by
  simp only [ending, List.length_append, List.length_replicate, lenUpto_length, List.length_singleton, noughts]
  split <;> omega
theorem noughts_lt (n k : Nat) (hn : n < 64) (h : k < noughts n) : (n + 1 + k) % 64 ≠ 56 := by unfold noughts at h; split at h <;> omega
theorem noughts_eq (n : Nat) (hn : n < 64) : (n + 1 + noughts n) % 64 = 56 := by unfold noughts; split <;> omega
theorem noughts_le (n : Nat) (hn : n < 64) : n + 1 + noughts n ≤ 120 := by unfold noughts; split <;> omega
theorem lenUpto_zero (N : Int) : lenUpto N 0 = [] := rfl
theorem ending_eq (zs : List Int) (N : Int) : ending zs N = zs ++ [128] ++ List.replicate (noughts zs.length) 0 ++ lenUpto N 8 := rfl
attribute [irreducible] noughts tellUpto zero32 lenUpto ending sum
end Sha
end Go.Proofs.Ytpbdajgbahnbjaa
