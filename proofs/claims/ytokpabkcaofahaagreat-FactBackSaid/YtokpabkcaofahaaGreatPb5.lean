/-
  Plain mathematics of the digest, second part: a state as bytes, the filling of a message, the whole sum.
  Plain mathematics of a digest's text, the order and the weight of digests.
  Plain mathematics of the order and the weight of digests.
  Digests are in one order; weights and texts follow it. Plain mathematics.
  Plain mathematics of facts: which may be, their bytes, and back. No program is named here.
-/
import Derived.Test.YtokpabkcaofahaaGreatPb2
import Derived.Laws.BytesArg
import Derived.Laws.StructEq
import Derived.Test.YtokpabkcaofahaaGreatPb4
namespace Go.Proofs.YtokpabkcaofahaaGreat
section
set_option linter.unusedSimpArgs false
set_option linter.unusedVariables false
namespace Sha
def zero32 : List Int := List.replicate 32 0
def byteAt (s : List W) (i : Nat) : Int := (U (s.getD (i / 4) 0) / 2 ^ (24 - 8 * (i % 4))) % 256
def tellUpto (s : List W) : Nat → List Int
  | 0 => zero32
  | i + 1 => (tellUpto s i).set i (byteAt s i)
theorem tellUpto_zero (s : List W) : tellUpto s 0 = zero32 := rfl
theorem tellUpto_length (s : List W) (i : Nat) : (tellUpto s i).length = 32 := by
  induction i with
  | zero => rfl
  | succ i ih => simp [tellUpto, ih]
theorem tellUpto_succ (s : List W) (i : Nat) (x : Int) (hx : x = byteAt s i) : (tellUpto s (i + 1)).map v8 = ((tellUpto s i).map v8).set i (v8 x) := by
  subst hx; simp [tellUpto, List.map_set]
/-- How many noughts fill a message's last part of n bytes. -/
def noughts (n : Nat) : Nat := if n < 56 then 55 - n else 119 - n
def lenByte (N : Int) (i : Nat) : Int := IntKind.u64.wrap (N * 8) / 2 ^ (56 - 8 * i) % 256
def lenUpto (N : Int) (i : Nat) : List Int := (List.range i).map (lenByte N)
theorem lenUpto_succ (N : Int) (i : Nat) : lenUpto N (i + 1) = lenUpto N i ++ [lenByte N i] := by simp [lenUpto, List.range_succ]
def ending (zs : List Int) (N : Int) : List Int := zs ++ [128] ++ List.replicate (noughts zs.length) 0 ++ lenUpto N 8
def wholeOf (zs : List Int) : Nat := zs.length - zs.length % 64
/-- The digest of bytes. -/
def sum (zs : List Int) : List Int :=
  let t := ending (zs.drop (wholeOf zs)) zs.length
  tellUpto (thru (thru first8 kList (zs.take (wholeOf zs)) ((zs.take (wholeOf zs)).length / 64)) kList t (t.length / 64)) 32
theorem sum_eq (zs : List Int) : sum zs = tellUpto (thru (thru first8 kList (zs.take (wholeOf zs)) ((zs.take (wholeOf zs)).length / 64)) kList (ending (zs.drop (wholeOf zs)) zs.length) ((ending (zs.drop (wholeOf zs)) zs.length).length / 64)) 32 := rfl
theorem byteAt_bd (s : List W) (i : Nat) : 0 ≤ byteAt s i ∧ byteAt s i ≤ 255 := by unfold byteAt; omega
theorem lenByte_bd (N : Int) (i : Nat) : 0 ≤ lenByte N i ∧ lenByte N i ≤ 255 := by unfold lenByte; omega
theorem tellUpto_bd (s : List W) (i : Nat) : ∀ n ∈ tellUpto s i, 0 ≤ n ∧ n ≤ 255 := by
  induction i with
  | zero => intro n hn; simp [tellUpto, zero32] at hn; omega
  | succ i ih =>
    intro n hn
    rcases List.mem_or_eq_of_mem_set hn with h | h
    · exact ih n h
    · subst h; exact byteAt_bd s i
theorem ending_bd (zs : List Int) (N : Int) (h : ∀ n ∈ zs, 0 ≤ n ∧ n ≤ 255) : ∀ n ∈ ending zs N, 0 ≤ n ∧ n ≤ 255 := by
  intro n hn
  simp only [ending, List.mem_append, lenUpto, List.mem_map, List.mem_replicate, List.mem_singleton] at hn
  rcases hn with ((hn | hn) | hn) | ⟨i, _, hn⟩
  · exact h n hn
  · omega
  · omega
  · subst hn; exact lenByte_bd N i
theorem noughts_lt (n k : Nat) (hn : n < 64) (h : k < noughts n) : (n + 1 + k) % 64 ≠ 56 := by unfold noughts at h; split at h <;> omega
theorem noughts_eq (n : Nat) (hn : n < 64) : (n + 1 + noughts n) % 64 = 56 := by unfold noughts; split <;> omega
theorem noughts_le (n : Nat) (hn : n < 64) : n + 1 + noughts n ≤ 120 := by unfold noughts; split <;> omega
theorem lenUpto_zero (N : Int) : lenUpto N 0 = [] := rfl
theorem ending_eq (zs : List Int) (N : Int) : ending zs N = zs ++ [128] ++ List.replicate (noughts zs.length) 0 ++ lenUpto N 8 := rfl
attribute [irreducible] noughts tellUpto zero32 lenUpto ending sum
end Sha
end
section
set_option linter.unusedSimpArgs false
set_option linter.unusedVariables false
namespace Sha
/-- The digit of a number below 16, as a byte. -/
def digit (n : Int) : Int := if n < 10 then 48 + n else 87 + n
def zero64 : List Int := List.replicate 64 0
def textUpto (zs : List Int) : Nat → List Int
  | 0 => zero64
  | i + 1 => ((textUpto zs i).set (2 * i) (digit (zs.getD i 0 / 16))).set (2 * i + 1) (digit (zs.getD i 0 % 16))
/-- The text of a digest, as bytes. -/
def text (zs : List Int) : List Int := textUpto zs 32
attribute [irreducible] zero64 textUpto digit text
end Sha
end
section
set_option linter.unusedSimpArgs false
set_option linter.unusedVariables false
namespace Sha
/-- The first byte in which two lists are unlike decides. -/
def less : List Int → List Int → Bool
  | [], _ => false
  | _ :: _, [] => false
  | x :: xs, y :: ys => if x = y then less xs ys else decide (x < y)
/-- How many bytes at the head are alike. -/
def same : List Int → List Int → Nat
  | x :: xs, y :: ys => if x = y then same xs ys + 1 else 0
  | _, _ => 0
theorem same_lt : ∀ (xs ys : List Int), xs.length = ys.length → xs ≠ ys → same xs ys < xs.length
  | [], [], _, h => absurd rfl h
  | x :: xs, y :: ys, hl, h => by
    unfold same
    split
    · rename_i e
      have := same_lt xs ys (by simpa using hl) (fun e2 => h (by rw [e, e2]))
      simp; omega
    · simp
theorem same_alike : ∀ (xs ys : List Int) (i : Nat), i < same xs ys → xs.getD i 0 = ys.getD i 0
  | x :: xs, y :: ys, i, h => by
    unfold same at h
    split at h
    · rename_i e
      cases i with
      | zero => simpa using e
      | succ i => simpa using same_alike xs ys i (by omega)
    · omega
  | [], _, _, h => by simp [same] at h
  | _ :: _, [], _, h => by simp [same] at h
theorem same_unlike : ∀ (xs ys : List Int), xs.length = ys.length → xs ≠ ys → xs.getD (same xs ys) 0 ≠ ys.getD (same xs ys) 0
  | [], [], _, h => absurd rfl h
  | x :: xs, y :: ys, hl, h => by
    unfold same
    split
    · rename_i e
      simpa using same_unlike xs ys (by simpa using hl) (fun e2 => h (by rw [e, e2]))
    · rename_i e; simpa using e
theorem less_same : ∀ (xs ys : List Int), xs.length = ys.length → xs ≠ ys → less xs ys = decide (xs.getD (same xs ys) 0 < ys.getD (same xs ys) 0)
  | [], [], _, h => absurd rfl h
  | x :: xs, y :: ys, hl, h => by
    unfold less same
    split
    · rename_i e
      simpa using less_same xs ys (by simpa using hl) (fun e2 => h (by rw [e, e2]))
    · simp
theorem less_irrefl : ∀ (xs : List Int), less xs xs = false
  | [] => rfl
  | x :: xs => by simp [less, less_irrefl xs]
attribute [irreducible] less same
end Sha
end
section
set_option linter.unusedSimpArgs false
set_option linter.unusedVariables false
namespace Sha
abbrev Bytes (zs : List Int) : Prop := ∀ n ∈ zs, 0 ≤ n ∧ n ≤ 255
theorem less_asymm : ∀ (xs ys : List Int), less xs ys = true → less ys xs = false
  | [], _, h => by simp [less] at h
  | _ :: _, [], h => by simp [less] at h
  | x :: xs, y :: ys, h => by
    unfold less at h ⊢
    by_cases e : x = y
    · rw [if_pos e] at h; rw [if_pos e.symm]; exact less_asymm xs ys h
    · rw [if_neg e] at h; rw [if_neg (fun e2 => e e2.symm)]; simp at h ⊢; omega
theorem less_total : ∀ (xs ys : List Int), xs.length = ys.length → xs ≠ ys → less xs ys = true ∨ less ys xs = true
  | [], [], _, h => absurd rfl h
  | x :: xs, y :: ys, hl, h => by
    unfold less
    by_cases e : x = y
    · rw [if_pos e, if_pos e.symm]; exact less_total xs ys (by simpa using hl) (fun e2 => h (by rw [e, e2]))
    · rw [if_neg e, if_neg (fun e2 => e e2.symm)]; simp; omega
theorem less_trans : ∀ (xs ys zs : List Int), less xs ys = true → less ys zs = true → less xs zs = true
  | [], _, _, h, _ => by simp [less] at h
  | _ :: _, [], _, h, _ => by simp [less] at h
  | _ :: _, _ :: _, [], _, h => by simp [less] at h
  | x :: xs, y :: ys, z :: zs, h1, h2 => by
    unfold less at h1 h2 ⊢
    by_cases e1 : x = y
    · rw [if_pos e1] at h1
      by_cases e2 : y = z
      · rw [if_pos e2] at h2; rw [if_pos (e1.trans e2)]; exact less_trans xs ys zs h1 h2
      · rw [if_neg e2] at h2; rw [if_neg (by rw [e1]; exact e2)]; simp at h2 ⊢; omega
    · rw [if_neg e1] at h1
      by_cases e2 : y = z
      · rw [if_pos e2] at h2; rw [if_neg (by rw [← e2]; exact e1)]; simp at h1 ⊢; omega
      · rw [if_neg e2] at h2; simp at h1 h2; rw [if_neg (by omega)]; simp; omega
end Sha
end
section
set_option linter.unusedSimpArgs false
set_option linter.unusedVariables false
namespace Fld
def isF (c : Int) : Prop := c = 110 ∨ c = 98 ∨ c = 100
instance (c : Int) : Decidable (isF c) := by unfold isF; infer_instance
/-- Does each letter have its item? -/
def fits : List Int → List Itm → Bool
  | [], [] => true
  | c :: s, x :: l => okFor c x && decide (bound c x = 0) && fits s l
  | _, _ => false
def encs : List Int → List Itm → List Int
  | c :: s, x :: l => enc c x ++ encs s l
  | _, _ => []
theorem putS_one {c : Int} {out : List Int} {x : Itm} {l : List Itm} (h1 : okFor c x = true) (h2 : bound c x = 0) : putS c (out, x :: l) = ((out ++ enc c x, l), x.N, 0) := by simp [putS, h1, h2]
theorem walk_fits (s : List Int) : ∀ (t : Int) (out : List Int) (l : List Itm), (∀ c ∈ s, isF c) → fits s l = true → walkL putS none t s (out, l) = ((out ++ encs s l, []), 0) := by
  induction s with
  | nil =>
    intro t out l _ h
    cases l with
    | nil => simp [walkL, encs]
    | cons x l => simp [fits] at h
  | cons c s ih =>
    intro t out l hs h
    cases l with
    | nil => simp [fits] at h
    | cons x l =>
      simp only [fits, Bool.and_eq_true, decide_eq_true_eq] at h
      have hc : c ≠ 40 := by have := hs c (List.mem_cons_self ..); unfold isF at this; omega
      rw [walkL, putS_one h.1.1 h.1.2]
      simp only [if_true, if_neg hc]
      rw [ih _ _ _ (fun c hc => hs c (List.mem_cons_of_mem _ hc)) h.2]
      simp [encs]
theorem fits_walk (s : List Int) : ∀ (t : Int) (out out' : List Int) (l : List Itm), (∀ c ∈ s, isF c) → walkL putS none t s (out, l) = ((out', []), 0) → fits s l = true := by
  induction s with
  | nil =>
    intro t out out' l _ h
    simp [walkL] at h
    simp [fits, h.2]
  | cons c s ih =>
    intro t out out' l hs h
    have hc : c ≠ 40 := by have := hs c (List.mem_cons_self ..); unfold isF at this; omega
    rw [walkL] at h
    cases l with
    | nil => simp [putS] at h
    | cons x l =>
      by_cases h1 : okFor c x = true
      · by_cases h2 : bound c x = 0
        · rw [putS_one h1 h2] at h
          simp only [if_true, if_neg hc] at h
          simp [fits, h1, h2, ih _ _ _ _ (fun c hc => hs c (List.mem_cons_of_mem _ hc)) h]
        · simp [putS, h1, h2] at h
      · simp [putS, h1] at h
theorem chkL_flat (s : List Int) : ∀ k, (∀ c ∈ s, isF c) → chkL s false k = true := by
  induction s with
  | nil => intro k _; rfl
  | cons c s ih =>
    intro k hs
    have hc := hs c (List.mem_cons_self ..)
    unfold isF at hc
    rw [chkL, if_pos hc]
    exact ih _ fun c hc => hs c (List.mem_cons_of_mem _ hc)
theorem chk_flat {s : List Int} (hs : ∀ c ∈ s, isF c) (hl : s.length ≤ 40) : chk s = true := by
  unfold chk; simp [hl, chkL_flat s false hs]
theorem put_fits {s : List Int} {l : List Itm} (hs : ∀ c ∈ s, isF c) (hl : s.length ≤ 40) (h : fits s l = true) : put s l = (encs s l, 0) := by
  unfold put
  rw [if_pos (chk_flat hs hl), walk_fits s 0 [] l hs h]
  simp
theorem fits_put {s : List Int} {l : List Itm} {out : List Int} (hs : ∀ c ∈ s, isF c) (h : put s l = (out, 0)) : fits s l = true := fits_walk s 0 [] out l hs (put_fst h).2
end Fld
namespace Fct
open Fld (Itm zero32)
/-- A fact: its kind, set, home, ballot (a number, a node), id, bytes. -/
structure Fac where
  K : Int
  S : Int
  H : Int
  N : Int
  O : Int
  D : List Int
  B : List Int
deriving DecidableEq
def fit (n : Int) : Prop := -9223372036854775808 ≤ n ∧ n ≤ 9223372036854775807
/-- What any fact in memory is. -/
structure Fac.ok (x : Fac) : Prop where
  K : fit x.K
  S : fit x.S
  H : fit x.H
  N : fit x.N
  O : fit x.O
  D : ∀ n ∈ x.D, 0 ≤ n ∧ n ≤ 255
  B : ∀ n ∈ x.B, 0 ≤ n ∧ n ≤ 255
  len : x.D.length = 32
def none_ : Fac := ⟨0, 0, 0, 0, 0, zero32, []⟩
/-- A number, an id, bytes as items. -/
def iN (n : Int) : Itm := ⟨n, [], zero32⟩
def iD (d : List Int) : Itm := ⟨0, [], d⟩
def iB (b : List Int) : Itm := ⟨0, b, zero32⟩
def shape (k : Int) : List Int :=
  if k = 2 then [110] else if k = 3 then [98] else if k = 4 then [110, 100] else if k = 5 then [110, 110, 100] else if k = 6 then [110, 110, 100] else
  if k = 7 then [110, 110, 110] else if k = 8 then [110, 110, 110, 98] else if k = 9 then [110, 98] else if k = 10 then [110] else []
def items (f : Fac) : List Itm :=
  if f.K = 2 then [iN f.S] else if f.K = 3 then [iB f.B] else if f.K = 4 then [iN f.S, iD f.D] else if f.K = 5 then [iN f.H, iN f.S, iD f.D] else if f.K = 6 then [iN f.H, iN f.S, iD f.D] else
  if f.K = 7 then [iN f.S, iN f.N, iN f.O] else if f.K = 8 then [iN f.S, iN f.N, iN f.O, iB f.B] else if f.K = 9 then [iN f.S, iB f.B] else if f.K = 10 then [iN f.S] else []
/-- The fact of a kind and its items. -/
def of (k : Int) (l : List Itm) : Fac :=
  let n := fun i => (l.getD i (iN 0)).N
  let b := fun i => (l.getD i (iN 0)).B
  let d := fun i => (l.getD i (iN 0)).D
  if k = 2 then ⟨k, n 0, 0, 0, 0, zero32, []⟩ else if k = 3 then ⟨k, 0, 0, 0, 0, Sha.sum (b 0), b 0⟩ else if k = 4 then ⟨k, n 0, 0, 0, 0, d 1, []⟩ else
  if k = 5 then ⟨k, n 1, n 0, 0, 0, d 2, []⟩ else if k = 6 then ⟨k, n 1, n 0, 0, 0, d 2, []⟩ else if k = 7 then ⟨k, n 0, 0, n 1, n 2, zero32, []⟩ else
  if k = 8 then ⟨k, n 0, 0, n 1, n 2, zero32, b 3⟩ else if k = 9 then ⟨k, n 0, 0, 0, 0, zero32, b 1⟩ else if k = 10 then ⟨k, n 0, 0, 0, 0, zero32, []⟩ else ⟨k, 0, 0, 0, 0, zero32, []⟩
def setOk (n : Int) : Prop := 1 ≤ n ∧ n ≤ 2147483647
def nodeOk (n : Int) : Prop := 1 ≤ n ∧ n ≤ 64
instance (n : Int) : Decidable (setOk n) := by unfold setOk; infer_instance
instance (n : Int) : Decidable (nodeOk n) := by unfold nodeOk; infer_instance
/-- May a fact be? -/
structure Can (f : Fac) : Prop where
  kind : 1 ≤ f.K ∧ f.K < 11
  pure_ : of f.K (items f) = f
  set_ : f.K ≠ 1 → f.K ≠ 3 → setOk f.S
  home : f.K = 5 ∨ f.K = 6 → nodeOk f.H
  ballot : f.K = 7 ∨ f.K = 8 → setOk f.N ∧ nodeOk f.O
  most : f.B.length ≤ if f.K = 3 then 1024 else 4000
def can (f : Fac) : Bool := decide ((1 ≤ f.K ∧ f.K < 11) ∧ of f.K (items f) = f ∧ (f.K ≠ 1 → f.K ≠ 3 → setOk f.S) ∧ (f.K = 5 ∨ f.K = 6 → nodeOk f.H) ∧ (f.K = 7 ∨ f.K = 8 → setOk f.N ∧ nodeOk f.O) ∧ f.B.length ≤ if f.K = 3 then 1024 else 4000)
theorem can_iff (f : Fac) : can f = true ↔ Can f := by
  unfold can
  rw [decide_eq_true_iff]
  exact ⟨fun h => ⟨h.1, h.2.1, h.2.2.1, h.2.2.2.1, h.2.2.2.2.1, h.2.2.2.2.2⟩, fun h => ⟨h.1, h.2, h.3, h.4, h.5, h.6⟩⟩
def check (f : Fac) : Int := if can f = true then 0 else 2
theorem check_ok {f : Fac} (h : Can f) : check f = 0 := by unfold check; rw [if_pos ((can_iff f).2 h)]
theorem check_no {f : Fac} (h : ¬ Can f) : check f = 2 := by unfold check; rw [if_neg (fun e => h ((can_iff f).1 e))]
def letters (k : Int) : List Int := 110 :: shape k
def put (f : Fac) : List Int × Int := if can f = true then Fld.put (letters f.K) (iN f.K :: items f) else ([], 2)
/-- The fact of bytes; a fault: what, where. -/
def get (b : List Int) : Fac × Int × Nat :=
  let r := Fld.rd 0 0 b
  if r.1 ≠ 0 then (none_, r.1, if r.1 = 4 then b.length else 0) else
  if ¬ (1 ≤ r.2.1 ∧ r.2.1 < 11) then (none_, 2, 0) else
  let g := Fld.get (letters r.2.1) b
  if g.2.1 ≠ 0 then (none_, g.2.1, g.2.2) else
  if can (of r.2.1 g.1.tail) = true then (of r.2.1 g.1.tail, 0, 0) else (none_, 2, 0)
theorem letters_flat (k : Int) : (∀ c ∈ letters k, Fld.isF c) ∧ (letters k).length ≤ 40 := by
  unfold letters shape
  (repeat' split) <;> (constructor <;> simp [Fld.isF])
theorem okFor_iN (n : Int) : Fld.okFor 110 (iN n) = true := by simp [Fld.okFor, iN]
theorem okFor_iB (b : List Int) : Fld.okFor 98 (iB b) = true := by simp [Fld.okFor, iB]
theorem okFor_iD (d : List Int) : Fld.okFor 100 (iD d) = true := by simp [Fld.okFor, iD]
theorem bound_iN {n : Int} (h0 : 0 ≤ n) (h1 : n ≤ 2147483647) : Fld.bound 110 (iN n) = 0 := Fld.bound_of (by simpa [iN] using h0) (by simp [iN]; omega) (by simp [iN]) (by omega)
theorem bound_iB {b : List Int} (h : b.length ≤ 4000) : Fld.bound 98 (iB b) = 0 := Fld.bound_of (by simp [iB]) (by simp [iB]) (by simpa [iB] using h) (by omega)
theorem bound_iD (d : List Int) : Fld.bound 100 (iD d) = 0 := Fld.bound_of (by simp [iD]) (by simp [iD]) (by simp [iD]) (by omega)
theorem kinds {k : Int} (h : 1 ≤ k ∧ k < 11) : k = 1 ∨ k = 2 ∨ k = 3 ∨ k = 4 ∨ k = 5 ∨ k = 6 ∨ k = 7 ∨ k = 8 ∨ k = 9 ∨ k = 10 := by omega
theorem Can.fits {f : Fac} (h : Can f) : Fld.fits (letters f.K) (iN f.K :: items f) = true := by
  have hk := kinds h.kind
  have hs := h.set_
  have hh := h.home
  have hb := h.ballot
  have hm := h.most
  unfold setOk nodeOk at *
  have b0 := bound_iN (n := f.K) (by omega) (by omega)
  rcases hk with e | e | e | e | e | e | e | e | e | e <;> simp only [letters, shape, items, Fld.fits, e] <;> simp [e] at hs hh hb hm b0 <;> simp [Fld.fits, okFor_iN, okFor_iB, okFor_iD, bound_iD, b0] <;>
    (try (first | (refine ⟨bound_iN (by omega) (by omega), bound_iN (by omega) (by omega), bound_iN (by omega) (by omega), bound_iB (by omega)⟩) | (refine ⟨bound_iN (by omega) (by omega), bound_iN (by omega) (by omega), bound_iN (by omega) (by omega)⟩) | (refine ⟨bound_iN (by omega) (by omega), bound_iN (by omega) (by omega)⟩) | (refine ⟨bound_iN (by omega) (by omega), bound_iB (by omega)⟩) | (exact bound_iN (by omega) (by omega)) | (exact bound_iB (by omega))))
/-- A fact that may be has bytes. -/
theorem put_can {f : Fac} (h : Can f) : put f = (Fld.encs (letters f.K) (iN f.K :: items f), 0) := by
  unfold put
  rw [if_pos ((can_iff f).2 h), Fld.put_fits (letters_flat _).1 (letters_flat _).2 h.fits]
theorem put_not {f : Fac} (h : ¬ Can f) : put f = ([], 2) := by
  unfold put; rw [if_neg (fun e => h ((can_iff f).1 e))]
theorem put_err (f : Fac) : (put f).2 = check f := by
  by_cases h : Can f
  · rw [put_can h, check_ok h]
  · rw [put_not h, check_no h]
theorem items_ok {f : Fac} (h : f.ok) : ∀ x ∈ iN f.K :: items f, x.ok := by
  have z1 : ∀ n ∈ zero32, 0 ≤ n ∧ n ≤ 255 := by intro n hn; unfold Fld.zero32 at hn; have := (List.mem_replicate.1 hn).2; omega
  have z2 : zero32.length = 32 := Fld.zero32_length
  have n1 : ∀ n, fit n → (iN n).ok := fun n hn => ⟨hn.1, hn.2, by simp [iN], z1, z2⟩
  have d1 : (iD f.D).ok := ⟨by simp [iD], by simp [iD], by simp [iD], h.D, h.len⟩
  have b1 : (iB f.B).ok := ⟨by simp [iB], by simp [iB], h.B, z1, z2⟩
  intro x hx
  rcases List.mem_cons.1 hx with rfl | hx
  · exact n1 _ h.K
  · unfold items at hx
    (repeat' split at hx) <;> simp at hx <;> (first | (rcases hx with rfl | rfl | rfl | rfl) | (rcases hx with rfl | rfl | rfl) | (rcases hx with rfl | rfl) | (obtain rfl := hx)) <;>
      (first | exact n1 _ h.S | exact n1 _ h.H | exact n1 _ h.N | exact n1 _ h.O | exact d1 | exact b1)
/-- The kind that a fact's bytes begin with. -/
theorem encs_rd {k : Int} {l : List Itm} (h0 : 0 ≤ k) (h1 : k ≤ 2147483647) : Fld.rd 0 0 (Fld.encs (letters k) (iN k :: l)) = (0, k, (Fld.num k.toNat).length) := by
  unfold letters
  rw [Fld.encs]
  have : Fld.enc 110 (iN k) = Fld.num k.toNat := by simp [Fld.enc, iN]
  rw [this, Fld.rd_num k.toNat 0 0 _ (by omega) (by omega)]
  simp; omega
/-- A fact is got as it was put. -/
theorem get_put {f : Fac} (h : f.ok) {b : List Int} (hp : put f = (b, 0)) : get b = (f, 0, 0) := by
  have hc : Can f := by
    by_cases hc : Can f
    · exact hc
    · rw [put_not hc] at hp; cases hp
  have hb : b = Fld.encs (letters f.K) (iN f.K :: items f) := by rw [put_can hc] at hp; exact (Prod.mk.inj hp).1.symm
  have hf : Fld.put (letters f.K) (iN f.K :: items f) = (b, 0) := by unfold put at hp; rwa [if_pos ((can_iff f).2 hc)] at hp
  have hr : Fld.rd 0 0 b = (0, f.K, (Fld.num f.K.toNat).length) := by rw [hb]; exact encs_rd (by have := hc.kind; omega) (by have := hc.kind; omega)
  have hg := Fld.get_put (items_ok h) hf
  unfold get
  simp only [hr, hg, List.tail_cons, hc.pure_, (can_iff f).2 hc]
  simp [hc.kind]
theorem get_err {b : List Int} (hb : ∀ n ∈ b, 0 ≤ n ∧ n ≤ 255) (h : (get b).2.1 ≠ 0) : (get b).1 = none_ ∧ (get b).2.2 ≤ b.length := by
  unfold get at h ⊢
  simp only at h ⊢
  split
  · refine ⟨rfl, ?_⟩; simp only; split <;> omega
  · split
    · exact ⟨rfl, by simp⟩
    · rename_i h1 h2
      rw [if_neg h1, if_neg h2] at h
      split
      · rename_i h3; exact ⟨rfl, (Fld.get_err hb h3).2⟩
      · rename_i h3
        rw [if_neg h3] at h
        split
        · rename_i h4; rw [if_pos h4] at h; simp at h
        · exact ⟨rfl, by simp⟩
theorem fits_one {c : Int} {s : List Int} {l : List Itm} (h : Fld.fits (c :: s) l = true) : ∃ x r, l = x :: r ∧ Fld.okFor c x = true ∧ Fld.bound c x = 0 ∧ Fld.fits s r = true := by
  cases l with
  | nil => simp [Fld.fits] at h
  | cons x r =>
    simp only [Fld.fits, Bool.and_eq_true, decide_eq_true_eq] at h
    exact ⟨x, r, rfl, h.1.1, h.1.2, h.2⟩
theorem fits_nil {l : List Itm} (h : Fld.fits [] l = true) : l = [] := by
  cases l with
  | nil => rfl
  | cons x r => simp [Fld.fits] at h
theorem fit_n {x : Itm} (h : Fld.okFor 110 x = true) : x = iN x.N := by
  have := Fld.okFor_n (by omega) (by omega) h
  cases x; simp_all [iN]
theorem fit_b {x : Itm} (h : Fld.okFor 98 x = true) : x = iB x.B := by
  have := Fld.okFor_b h
  cases x; simp_all [iB]
theorem fit_d {x : Itm} (h : Fld.okFor 100 x = true) : x = iD x.D := by
  have := Fld.okFor_d h
  cases x; simp_all [iD]
theorem ex_n {x : Itm} (h : Fld.okFor 110 x = true) : ∃ n, x = iN n := ⟨_, fit_n h⟩
theorem ex_b {x : Itm} (h : Fld.okFor 98 x = true) : ∃ b, x = iB b := ⟨_, fit_b h⟩
theorem ex_d {x : Itm} (h : Fld.okFor 100 x = true) : ∃ d, x = iD d := ⟨_, fit_d h⟩
theorem of_kind (k : Int) (l : List Itm) : (of k l).K = k := by
  unfold of
  (repeat' split) <;> first | rfl | simp_all
/-- The items of a fact that is got are those that were got. -/
theorem items_of {k : Int} (hk : 1 ≤ k ∧ k < 11) {l : List Itm} (h : Fld.fits (shape k) l = true) : items (of k l) = l := by
  rcases kinds hk with e | e | e | e | e | e | e | e | e | e <;> subst e <;> simp only [shape] at h <;> simp at h <;>
    (try (obtain ⟨x0, l, rfl, o0, _, h⟩ := fits_one h)) <;> (try (obtain ⟨x1, l, rfl, o1, _, h⟩ := fits_one h)) <;> (try (obtain ⟨x2, l, rfl, o2, _, h⟩ := fits_one h)) <;> (try (obtain ⟨x3, l, rfl, o3, _, h⟩ := fits_one h)) <;>
    obtain rfl := fits_nil h <;>
    (try (first | (refine Exists.elim (ex_n o0) ?_; rintro n rfl) | (refine Exists.elim (ex_b o0) ?_; rintro n rfl) | (refine Exists.elim (ex_d o0) ?_; rintro n rfl))) <;>
    (try (first | (refine Exists.elim (ex_n o1) ?_; rintro n rfl) | (refine Exists.elim (ex_b o1) ?_; rintro n rfl) | (refine Exists.elim (ex_d o1) ?_; rintro n rfl))) <;>
    (try (first | (refine Exists.elim (ex_n o2) ?_; rintro n rfl) | (refine Exists.elim (ex_b o2) ?_; rintro n rfl) | (refine Exists.elim (ex_d o2) ?_; rintro n rfl))) <;>
    (try (first | (refine Exists.elim (ex_n o3) ?_; rintro n rfl) | (refine Exists.elim (ex_b o3) ?_; rintro n rfl) | (refine Exists.elim (ex_d o3) ?_; rintro n rfl))) <;>
    simp [items, of, iN, iB, iD]
theorem sum32 (zs : List Int) : (Sha.sum zs).length = 32 := by rw [Sha.sum_eq, Sha.tellUpto_length]
theorem sum8 (zs : List Int) : ∀ n ∈ Sha.sum zs, 0 ≤ n ∧ n ≤ 255 := by rw [Sha.sum_eq]; exact Sha.tellUpto_bd _ _
theorem zero8 : ∀ n ∈ zero32, 0 ≤ n ∧ n ≤ 255 := by intro n hn; unfold Fld.zero32 at hn; have := (List.mem_replicate.1 hn).2; omega
/-- A fact that may be is one in memory, if its items are. -/
theorem can_fit {f : Fac} (h : Can f) (hi : ∀ x ∈ items f, x.ok) : f.ok := by
  have hp := h.pure_
  have hs := h.set_
  have hh := h.home
  have hb := h.ballot
  have hK : fit f.K := by have := h.kind; unfold fit; omega
  obtain ⟨k, s, h', n, o, d, b⟩ := f
  unfold setOk nodeOk at *
  rcases kinds h.kind with e | e | e | e | e | e | e | e | e | e <;> simp only at e <;> subst e <;> simp [of, items, iN, iB, iD] at hp hi hs hh hb <;>
    refine ⟨hK, ?_, ?_, ?_, ?_, ?_, ?_, ?_⟩ <;> simp only <;> (try unfold fit) <;> (try omega)
  all_goals first
    | (have e : zero32 = d := by simp [hp]
       first
         | (rw [← e]; exact zero8)
         | (rw [← e]; exact Fld.zero32_length))
    | (have e : Sha.sum b = d := by simp [hp]
       first
         | (rw [← e]; exact sum8 b)
         | (rw [← e]; exact sum32 b))
    | (have e : b = [] := by simp [hp]
       rw [e]; simp; done)
    | exact hi.D
    | exact hi.B
    | exact hi.len
    | exact hi.2.D
    | exact hi.2.B
    | exact hi.2.len
    | exact hi.2.2.D
    | exact hi.2.2.B
    | exact hi.2.2.len
    | exact hi.2.2.2.B
/-- What is got is put as it was. -/
theorem put_get {b : List Int} {f : Fac} {k : Nat} (hb : ∀ n ∈ b, 0 ≤ n ∧ n ≤ 255) (h : get b = (f, 0, k)) : put f = (b, 0) ∧ f.ok ∧ Can f ∧ k = 0 := by
  unfold get at h
  simp only at h
  split at h
  · rename_i h1; simp at h; exact absurd h.2.1 h1
  · rename_i h1
    split at h
    · simp at h
    · rename_i h2
      split at h
      · rename_i h3; simp at h; exact absurd h.2.1 h3
      · rename_i h3
        split at h
        · rename_i h4
          simp at h
          obtain ⟨hf, hk0⟩ := h
          have hk := Decidable.not_not.1 h2
          obtain ⟨kk, hkk⟩ : ∃ kk, kk = (Fld.rd 0 0 b).2.1 := ⟨_, rfl⟩
          rw [← hkk] at hf hk h3 h4
          obtain ⟨l, hl⟩ : ∃ l, l = (Fld.get (letters kk) b).1 := ⟨_, rfl⟩
          rw [← hl] at hf h4
          have hg : Fld.get (letters kk) b = (l, 0, (Fld.get (letters kk) b).2.2) := Prod.ext hl.symm (Prod.ext (Decidable.not_not.1 h3) rfl)
          obtain ⟨hp, hok, _, _⟩ := Fld.get_ok hb hg
          have hfit := Fld.fits_put (letters_flat kk).1 hp
          unfold letters at hfit
          obtain ⟨x, r, rfl, ox, bx, hr⟩ := fits_one hfit
          obtain ⟨n, rfl⟩ : ∃ n, x = iN n := ⟨_, fit_n ox⟩
          rw [List.tail_cons] at hf h4
          have bn := Fld.bound_zero bx
          have hp0 : Fld.put (letters kk) (iN n :: r) = (Fld.encs (letters kk) (iN n :: r), 0) := Fld.put_fits (letters_flat kk).1 (letters_flat kk).2 hfit
          have hbe : b = Fld.encs (letters kk) (iN n :: r) := by rw [hp0] at hp; exact (Prod.mk.inj hp).1.symm
          have hn : n = kk := by
            have e : Fld.rd 0 0 b = (0, n, (Fld.num n.toNat).length) := by
              rw [hbe]; unfold letters; rw [Fld.encs]
              have : Fld.enc 110 (iN n) = Fld.num n.toNat := by simp [Fld.enc, iN]
              rw [this, Fld.rd_num n.toNat 0 0 _ (by have := bn.2.1 rfl; simp [iN] at this; have := bn.1; simp [iN] at this; omega) (by omega)]
              have := bn.1; simp [iN] at this
              simp; omega
            rw [hkk, e]
          subst hn
          have hi := items_of hk hr
          rw [hf] at hi h4
          have hK : f.K = n := by rw [← hf]; exact of_kind n r
          have hc := (can_iff f).1 h4
          refine ⟨?_, ?_, hc, hk0.symm⟩
          · unfold put; rw [if_pos h4, hi, hK]; exact hp
          · have hro : ∀ x ∈ r, x.ok := fun x hx => hok x (List.mem_cons_of_mem _ hx)
            rw [← hi] at hro
            have z1 : ∀ n ∈ zero32, 0 ≤ n ∧ n ≤ 255 := by intro n hn; unfold Fld.zero32 at hn; have := (List.mem_replicate.1 hn).2; omega
            have z2 : zero32.length = 32 := Fld.zero32_length
            exact can_fit hc hro
        · simp at h
end Fct
end
end Go.Proofs.YtokpabkcaofahaaGreat
