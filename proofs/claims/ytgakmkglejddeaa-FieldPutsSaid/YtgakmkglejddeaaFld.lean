/-
  Plain mathematics of fields: shapes, numbers, items as bytes and back. No program is named here.
-/
import Derived.WalkKit
namespace Go.Proofs.Ytgakmkglejddeaa
set_option linter.unusedSimpArgs false
set_option linter.unusedVariables false
namespace Fld
/-- A field: a number, bytes, an id's bytes. -/
structure Itm where
  N : Int
  B : List Int
  D : List Int
deriving DecidableEq
def zero32 : List Int := List.replicate 32 0
theorem zero32_length : zero32.length = 32 := by simp [zero32]
def isByte (n : Int) : Prop := 0 ≤ n ∧ n ≤ 255
/-- What any item in memory is. -/
structure Itm.ok (x : Itm) : Prop where
  N0 : -9223372036854775808 ≤ x.N
  N1 : x.N ≤ 9223372036854775807
  B : ∀ n ∈ x.B, 0 ≤ n ∧ n ≤ 255
  D : ∀ n ∈ x.D, 0 ≤ n ∧ n ≤ 255
  len : x.D.length = 32

/-! ### Shapes -/
/-- What is left of a shape, within a group or not, a letter seen or not. -/
def chkL : List Int → Bool → Bool → Bool
  | [], o, _ => !o
  | c :: r, o, k => if c = 110 ∨ c = 98 ∨ c = 100 then chkL r o true else if c = 40 ∧ o = false then chkL r true false else if c = 41 ∧ o = true ∧ k = true then chkL r false k else false
def chk (s : List Int) : Bool := decide (s.length ≤ 40) && chkL s false false

/-- What Check answers. -/
def chkE (s : List Int) : Int := if chk s = true then 0 else 2
theorem chkE_ok {s : List Int} (h : chk s = true) : chkE s = 0 := by simp [chkE, h]
theorem chkE_no {s : List Int} (h : chk s = false) : chkE s = 2 := by simp [chkE, h]
attribute [irreducible] chkE

/-! ### Going through a shape -/
section
variable {σ : Type} (f : Int → σ → σ × Int × Int)
/-- The letters of a group, once. -/
def once : List Int → σ → σ × Int
  | [], st => (st, 0)
  | c :: r, st => if (f c st).2.2 = 0 then once r (f c st).1 else ((f c st).1, (f c st).2.2)
/-- .. so many times. -/
def rep (g : List Int) : Nat → σ → σ × Int
  | 0, st => (st, 0)
  | n + 1, st => if (once f g st).2 = 0 then rep g n (once f g st).1 else once f g st
def walkL : Option (List Int) → Int → List Int → σ → σ × Int
  | _, _, [], st => (st, 0)
  | none, _, c :: r, st => if (f c st).2.2 = 0 then walkL (if c = 40 then some [] else none) (f c st).2.1 r (f c st).1 else ((f c st).1, (f c st).2.2)
  | some g, t, c :: r, st => if c = 41 then (if (rep f g t.toNat st).2 = 0 then walkL none t r (rep f g t.toNat st).1 else rep f g t.toNat st) else walkL (some (g ++ [c])) t r st
end

/-! ### Numbers -/
def num (n : Nat) : List Int := if h : n < 128 then [(n : Int)] else ((n % 128 + 128 : Nat) : Int) :: num (n / 128)
termination_by n
decreasing_by omega
theorem num_lt {n : Nat} (h : n < 128) : num n = [(n : Int)] := by rw [num]; simp [h]
theorem num_ge {n : Nat} (h : 128 ≤ n) : num n = ((n % 128 + 128 : Nat) : Int) :: num (n / 128) := by rw [num]; simp [show ¬ n < 128 by omega]
/-- Reading a number: i bytes are read, they come to acc. What comes: an error, the number, how many bytes are gone. -/
def rd : Nat → Nat → List Int → Int × Int × Nat
  | i, _, [] => (4, 0, i)
  | i, acc, x :: r => if i = 9 then (10, 0, 0) else if 128 ≤ x then rd (i + 1) (acc + (x % 128).toNat * 128 ^ i) r else
      if (x = 0 ∧ 0 < i) ∨ 4611686018427387903 < acc + (x % 128).toNat * 128 ^ i then (10, 0, 0) else (0, ((acc + (x % 128).toNat * 128 ^ i : Nat) : Int), i + 1)
/-- How many there are: at most so many. -/
def rdTop (bs : List Int) : Int × Int × Nat := if 4000 < (rd 0 0 bs).2.1 then (3, 0, 0) else rd 0 0 bs

/-! ### An item -/
/-- Has an item nothing but what its letter names? -/
def okFor (c : Int) (x : Itm) : Bool := if c = 98 then decide (x.N = 0) && decide (x.D = zero32) else if c = 100 then decide (x.N = 0) && decide (x.B = []) else decide (x.B = []) && decide (x.D = zero32)
/-- The error of an item beyond its letter's bounds. -/
def bound (c : Int) (x : Itm) : Int := if x.N < 0 ∨ 4611686018427387903 < x.N then 5 else if 4000 < x.B.length ∨ (c = 40 ∧ 4000 < x.N) then 3 else 0
/-- Its bytes. -/
def enc (c : Int) (x : Itm) : List Int := if c = 98 then num x.B.length ++ x.B else if c = 100 then x.D else num x.N.toNat
/-- The next item is written. -/
def putS (c : Int) (st : List Int × List Itm) : (List Int × List Itm) × Int × Int :=
  match st.2 with
  | [] => (st, 0, 2)
  | x :: l => if okFor c x = true then (if bound c x = 0 then ((st.1 ++ enc c x, l), x.N, 0) else (st, 0, bound c x)) else (st, 0, 2)
def put (s : List Int) (l : List Itm) : List Int × Int :=
  if chk s = true then
    let r := walkL putS none 0 s ([], l)
    if r.2 = 0 then (if r.1.2 = [] then (r.1.1, 0) else ([], 2)) else ([], r.2)
  else ([], 2)
/-- The next item is read: from a place on. -/
def getS (b : List Int) (c : Int) (st : Nat × List Itm) : (Nat × List Itm) × Int × Int :=
  if c = 98 then
    let r := rdTop (b.drop st.1)
    if r.1 = 0 then (if b.length - (st.1 + r.2.2) < r.2.1 then ((b.length, st.2), 0, 4) else
      ((st.1 + r.2.2 + r.2.1.toNat, st.2 ++ [⟨0, (b.drop (st.1 + r.2.2)).take r.2.1.toNat, zero32⟩]), 0, 0))
    else ((if r.1 = 4 then b.length else st.1, st.2), 0, r.1)
  else if c = 100 then
    if b.length - st.1 < 32 then ((b.length, st.2), 0, 4) else ((st.1 + 32, st.2 ++ [⟨0, [], (b.drop st.1).take 32⟩]), 0, 0)
  else
    let r := if c = 40 then rdTop (b.drop st.1) else rd 0 0 (b.drop st.1)
    if r.1 = 0 then ((st.1 + r.2.2, st.2 ++ [⟨r.2.1, [], zero32⟩]), r.2.1, 0) else ((if r.1 = 4 then b.length else st.1, st.2), 0, r.1)
def get (s : List Int) (b : List Int) : List Itm × Int × Nat :=
  if chk s = true then
    let r := walkL (getS b) none 0 s (0, [])
    if r.2 = 0 then (if r.1.1 < b.length then ([], 4, r.1.1) else (r.1.2, 0, 0)) else ([], r.2, r.1.1)
  else ([], 2, 0)
end Fld
end Go.Proofs.Ytgakmkglejddeaa
