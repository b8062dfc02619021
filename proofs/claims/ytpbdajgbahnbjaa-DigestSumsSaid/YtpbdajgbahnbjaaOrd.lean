/-
  Plain mathematics of the order and the weight of digests.
-/
import Derived.Test.YtpbdajgbahnbjaaTxt
namespace Go.Proofs.Ytpbdajgbahnbjaa
set_option linter.unusedSimpArgs false
set_option linter.unusedVariables false
namespace Sha
/-- The first byte in which two lists are unlike decides. -/
def less : List Int → List Int → Bool
  | [], _ => false
  | _ :: _, [] => false
  | x :: xs, y :: ys => if x = y then less xs ys else decide (x < y)
/-- How many bytes at the head are alike. -/
def same : List Int → List Int → Nat
  | x :: xs, y :: ys => if x = y then same xs ys + 1 else 0
  | _, _ => 0
theorem same_lt : ∀ (xs ys : List Int), xs.length = ys.length → xs ≠ ys → same xs ys < xs.length
  | [], [], _, h => absurd rfl h
  | x :: xs, y :: ys, hl, h => by
    unfold same
    split
    · rename_i e
      have := same_lt xs ys (by simpa using hl) (fun e2 => h (by rw [e, e2]))
      simp; omega
    · simp
theorem same_alike : ∀ (xs ys : List Int) (i : Nat), i < same xs ys → xs.getD i 0 = ys.getD i 0
  | x :: xs, y :: ys, i, h => by
    unfold same at h
    split at h
    · rename_i e
      cases i with
      | zero => simpa using e
      | succ i => simpa using same_alike xs ys i (by omega)
    · omega
  | [], _, _, h => by simp [same] at h
  | _ :: _, [], _, h => by simp [same] at h
theorem same_unlike : ∀ (xs ys : List Int), xs.length = ys.length → xs ≠ ys → xs.getD (same xs ys) 0 ≠ ys.getD (same xs ys) 0
  | [], [], _, h => absurd rfl h
  | x :: xs, y :: ys, hl, h => by
    unfold same
    split
    · rename_i e
      simpa using same_unlike xs ys (by simpa using hl) (fun e2 => h (by rw [e, e2]))
    · rename_i e; simpa using e
theorem less_same : ∀ (xs ys : List Int), xs.length = ys.length → xs ≠ ys → less xs ys = decide (xs.getD (same xs ys) 0 < ys.getD (same xs ys) 0)
  | [], [], _, h => absurd rfl h
  | x :: xs, y :: ys, hl, h => by
    unfold less same
    split
    · rename_i e
      simpa using less_same xs ys (by simpa using hl) (fun e2 => h (by rw [e, e2]))
    · simp
theorem less_irrefl : ∀ (xs : List Int), less xs xs = false
  | [] => rfl
  | x :: xs => by simp [less, less_irrefl xs]
/-- The weight of the first k bytes. -/
def weighUpto (zs : List Int) : Nat → Int
  | 0 => 0
  | k + 1 => weighUpto zs k * 256 + zs.getD k 0
def weigh (zs : List Int) : Int := weighUpto zs 8
theorem weigh_eq (zs : List Int) : weigh zs = weighUpto zs 8 := rfl
theorem weighUpto_zero (zs : List Int) : weighUpto zs 0 = 0 := rfl
theorem weighUpto_succ (zs : List Int) (k : Nat) : weighUpto zs (k + 1) = weighUpto zs k * 256 + zs.getD k 0 := rfl
theorem weighUpto_bd (zs : List Int) (hz : ∀ n ∈ zs, 0 ≤ n ∧ n ≤ 255) : ∀ k, 0 ≤ weighUpto zs k ∧ weighUpto zs k + 1 ≤ 256 ^ k
  | 0 => by simp [weighUpto]
  | k + 1 => by
    have ih := weighUpto_bd zs hz k
    have hb : 0 ≤ zs.getD k 0 ∧ zs.getD k 0 ≤ 255 := by
      rw [List.getD_eq_getElem?_getD]
      by_cases h : k < zs.length
      · rw [List.getElem?_eq_getElem h]; exact hz _ (List.getElem_mem h)
      · rw [List.getElem?_eq_none (by omega)]; simp
    rw [weighUpto_succ, Int.pow_succ]
    omega
attribute [irreducible] weighUpto weigh less same
end Sha
end Go.Proofs.Ytpbdajgbahnbjaa
