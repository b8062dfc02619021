/-
  Plain mathematics of fields: shapes, numbers, items as bytes and back. No program is named here.
  Plain mathematics of fields: what is put is got, what is got is put as it was.
  Plain mathematics of the digest: words of 32 bits, the schedule of a block, the rounds, the filling. No program is named here.
  Plain mathematics of the check sum: going on by bits is linear and one to one; bytes, pieces, joined sums; matrices by columns. No program is named here.
  Plain mathematics of frames: records, their frames, joined, split. No program is named here.
  Words about nodes, as the chapter has them: which may be, which is over which, which is left of two, what a node answers.
  Plain mathematics of notes: which may be, their bytes, and back; no note's bytes begin with another one's. No program is named here.
  Plain mathematics of notes, two: which may be, what is read back; no note's bytes begin with another one's; what is got of any bytes.
  Laws for whole arrays in a walk: a new variable, a box, a load and a store of all cells at once, an element by its index. The cells are whatever; nothing is unrolled.
-/
import Derived.WalkKit
import Derived.Lib.Hide
import Derived.Deep.WholeRow
import Derived.Deep.QuietTactic
import Derived.BigQuiet
import Derived.StillTailTactics
import Derived.Deep.RegionHeld3
namespace Go.Proofs.YtbogjfmefkhglaaGreat
section
set_option linter.unusedSimpArgs false
set_option linter.unusedVariables false
namespace Fld
/-- A field: a number, bytes, an id's bytes. -/
structure Itm where
  N : Int
  B : List Int
  D : List Int
deriving DecidableEq
def zero32 : List Int := List.replicate 32 0
theorem zero32_length : zero32.length = 32 := by simp [zero32]
/-- What any item in memory is. -/
structure Itm.ok (x : Itm) : Prop where
  N0 : -9223372036854775808 ≤ x.N
  N1 : x.N ≤ 9223372036854775807
  B : ∀ n ∈ x.B, 0 ≤ n ∧ n ≤ 255
  D : ∀ n ∈ x.D, 0 ≤ n ∧ n ≤ 255
  len : x.D.length = 32

/-- What is left of a shape, within a group or not, a letter seen or not. -/
def chkL : List Int → Bool → Bool → Bool
  | [], o, _ => !o
  | c :: r, o, k => if c = 110 ∨ c = 98 ∨ c = 100 then chkL r o true else if c = 40 ∧ o = false then chkL r true false else if c = 41 ∧ o = true ∧ k = true then chkL r false k else false
def chk (s : List Int) : Bool := decide (s.length ≤ 40) && chkL s false false

/-- What Check answers. -/
def chkE (s : List Int) : Int := if chk s = true then 0 else 2
theorem chkE_ok {s : List Int} (h : chk s = true) : chkE s = 0 := by simp [chkE, h]
theorem chkE_no {s : List Int} (h : chk s = false) : chkE s = 2 := by simp [chkE, h]
attribute [irreducible] chkE
section
variable {σ : Type} (f : Int → σ → σ × Int × Int)
/-- The letters of a group, once. -/
def once : List Int → σ → σ × Int
  | [], st => (st, 0)
  | c :: r, st => if (f c st).2.2 = 0 then once r (f c st).1 else ((f c st).1, (f c st).2.2)
/-- .. so many times. -/
def rep (g : List Int) : Nat → σ → σ × Int
  | 0, st => (st, 0)
  | n + 1, st => if (once f g st).2 = 0 then rep g n (once f g st).1 else once f g st
def walkL : Option (List Int) → Int → List Int → σ → σ × Int
  | _, _, [], st => (st, 0)
  | none, _, c :: r, st => if (f c st).2.2 = 0 then walkL (if c = 40 then some [] else none) (f c st).2.1 r (f c st).1 else ((f c st).1, (f c st).2.2)
  | some g, t, c :: r, st => if c = 41 then (if (rep f g t.toNat st).2 = 0 then walkL none t r (rep f g t.toNat st).1 else rep f g t.toNat st) else walkL (some (g ++ [c])) t r st
end
def num (n : Nat) : List Int := if h : n < 128 then [(n : Int)] else ((n % 128 + 128 : Nat) : Int) :: num (n / 128)
termination_by n
decreasing_by omega
theorem num_lt {n : Nat} (h : n < 128) : num n = [(n : Int)] := by rw [num]; simp [h]
theorem num_ge {n : Nat} (h : 128 ≤ n) : num n = ((n % 128 + 128 : Nat) : Int) :: num (n / 128) := by rw [num]; simp [show ¬ n < 128 by omega]
/-- Reading a number: i bytes are read, they come to acc. What comes: an error, the number, how many bytes are gone. -/
def rd : Nat → Nat → List Int → Int × Int × Nat
  | i, _, [] => (4, 0, i)
  | i, acc, x :: r => if i = 9 then (10, 0, 0) else if 128 ≤ x then rd (i + 1) (acc + (x % 128).toNat * 128 ^ i) r else
      if (x = 0 ∧ 0 < i) ∨ 4611686018427387903 < acc + (x % 128).toNat * 128 ^ i then (10, 0, 0) else (0, ((acc + (x % 128).toNat * 128 ^ i : Nat) : Int), i + 1)
/-- How many there are: at most so many. -/
def rdTop (bs : List Int) : Int × Int × Nat := if 4000 < (rd 0 0 bs).2.1 then (3, 0, 0) else rd 0 0 bs

/-- Has an item nothing but what its letter names? -/
def okFor (c : Int) (x : Itm) : Bool := if c = 98 then decide (x.N = 0) && decide (x.D = zero32) else if c = 100 then decide (x.N = 0) && decide (x.B = []) else decide (x.B = []) && decide (x.D = zero32)
/-- The error of an item beyond its letter's bounds. -/
def bound (c : Int) (x : Itm) : Int := if x.N < 0 ∨ 4611686018427387903 < x.N then 5 else if 4000 < x.B.length ∨ (c = 40 ∧ 4000 < x.N) then 3 else 0
/-- Its bytes. -/
def enc (c : Int) (x : Itm) : List Int := if c = 98 then num x.B.length ++ x.B else if c = 100 then x.D else num x.N.toNat
/-- The next item is written. -/
def putS (c : Int) (st : List Int × List Itm) : (List Int × List Itm) × Int × Int :=
  match st.2 with
  | [] => (st, 0, 2)
  | x :: l => if okFor c x = true then (if bound c x = 0 then ((st.1 ++ enc c x, l), x.N, 0) else (st, 0, bound c x)) else (st, 0, 2)
def put (s : List Int) (l : List Itm) : List Int × Int :=
  if chk s = true then
    let r := walkL putS none 0 s ([], l)
    if r.2 = 0 then (if r.1.2 = [] then (r.1.1, 0) else ([], 2)) else ([], r.2)
  else ([], 2)
/-- The next item is read: from a place on. -/
def getS (b : List Int) (c : Int) (st : Nat × List Itm) : (Nat × List Itm) × Int × Int :=
  if c = 98 then
    let r := rdTop (b.drop st.1)
    if r.1 = 0 then (if b.length - (st.1 + r.2.2) < r.2.1 then ((b.length, st.2), 0, 4) else
      ((st.1 + r.2.2 + r.2.1.toNat, st.2 ++ [⟨0, (b.drop (st.1 + r.2.2)).take r.2.1.toNat, zero32⟩]), 0, 0))
    else ((if r.1 = 4 then b.length else st.1, st.2), 0, r.1)
  else if c = 100 then
    if b.length - st.1 < 32 then ((b.length, st.2), 0, 4) else ((st.1 + 32, st.2 ++ [⟨0, [], (b.drop st.1).take 32⟩]), 0, 0)
  else
    let r := if c = 40 then rdTop (b.drop st.1) else rd 0 0 (b.drop st.1)
    if r.1 = 0 then ((st.1 + r.2.2, st.2 ++ [⟨r.2.1, [], zero32⟩]), r.2.1, 0) else ((if r.1 = 4 then b.length else st.1, st.2), 0, r.1)
def get (s : List Int) (b : List Int) : List Itm × Int × Nat :=
  if chk s = true then
    let r := walkL (getS b) none 0 s (0, [])
    if r.2 = 0 then (if r.1.1 < b.length then ([], 4, r.1.1) else (r.1.2, 0, 0)) else ([], r.2, r.1.1)
  else ([], 2, 0)
end Fld
end
section
set_option linter.unusedSimpArgs false
set_option linter.unusedVariables false
namespace Fld
theorem num_pos (n : Nat) : 0 < (num n).length := by
  by_cases h : n < 128
  · rw [num_lt h]; simp
  · rw [num_ge (by omega)]; simp
theorem num_bd (n : Nat) : ∀ x ∈ num n, 0 ≤ x ∧ x ≤ 255 := by
  induction n using Nat.strongRecOn with
  | _ n ih =>
    by_cases h : n < 128
    · rw [num_lt h]; simp; omega
    · rw [num_ge (by omega)]
      intro x hx
      rcases List.mem_cons.1 hx with rfl | hx
      · omega
      · exact ih (n / 128) (by omega) x hx
theorem num_len (n : Nat) : n < 128 ^ 9 → (num n).length ≤ 9 := by
  have : ∀ k n, n < 128 ^ (k + 1) → (num n).length ≤ k + 1 := by
    intro k
    induction k with
    | zero => intro n h; rw [num_lt (by simpa using h)]; simp
    | succ k ih =>
      intro n h
      by_cases h1 : n < 128
      · rw [num_lt h1]; simp
      · rw [num_ge (by omega), List.length_cons]
        have := ih (n / 128) (by rw [Nat.pow_succ] at h; omega)
        omega
  exact this 8 n
theorem okFor_n {c : Int} {x : Itm} (h1 : c ≠ 98) (h2 : c ≠ 100) (h : okFor c x = true) : x.B = [] ∧ x.D = zero32 := by simpa [okFor, h1, h2] using h
theorem bound_zero {c : Int} {x : Itm} (h : bound c x = 0) : 0 ≤ x.N ∧ (c = 110 → x.N ≤ 4611686018427387903) ∧ x.B.length ≤ 4000 ∧ (c = 40 → x.N ≤ 4000) := by
  unfold bound at h
  split at h
  · simp at h
  · rename_i h1
    split at h
    · simp at h
    · rename_i h2
      refine ⟨by omega, fun hc => ?_, by omega, fun hc => ?_⟩
      · by_cases h3 : 4611686018427387903 < x.N
        · exact absurd (Or.inr h3) h1
        · omega
      · by_cases h3 : 4000 < x.N
        · exact absurd (Or.inr ⟨hc, h3⟩) h2
        · omega
theorem bound_of {c : Int} {x : Itm} (h0 : 0 ≤ x.N) (h1 : x.N ≤ 4611686018427387903) (h2 : x.B.length ≤ 4000) (h3 : c = 40 → x.N ≤ 4000) : bound c x = 0 := by
  unfold bound
  rw [if_neg (by omega), if_neg (by rintro (h | ⟨h, h'⟩); omega; have := h3 h; omega)]
/-- The letters that items are of. -/
def isC (c : Int) : Prop := c = 110 ∨ c = 98 ∨ c = 100 ∨ c = 40
theorem enc_len (c : Int) (x : Itm) (hx : x.ok) (ho : okFor c x = true) (hb : bound c x = 0) : (enc c x).length ≤ 4009 ∧ 0 < (enc c x).length := by
  obtain ⟨b0, b1, b2, b3⟩ := bound_zero hb
  have h9 : (128 : Nat) ^ 9 = 9223372036854775808 := by decide
  by_cases h1 : c = 98
  · subst h1
    have he : enc 98 x = num x.B.length ++ x.B := by simp [enc]
    have := num_len x.B.length (by rw [h9]; omega)
    have := num_pos x.B.length
    rw [he, List.length_append]; omega
  · by_cases h2 : c = 100
    · subst h2
      have he : enc 100 x = x.D := by simp [enc]
      rw [he, hx.len]; omega
    · have he : enc c x = num x.N.toNat := by simp [enc, h1, h2]
      have := num_len x.N.toNat (by rw [h9]; have := hx.N1; omega)
      have := num_pos x.N.toNat
      rw [he]; omega
end Fld
end
section
set_option linter.unusedSimpArgs false
set_option linter.unusedVariables false
namespace Sha
abbrev W := BitVec 32
/-- A word as an integer: a name that the walk's simp does not open. -/
def U (x : W) : Int := (x.toNat : Int)
/-- A word turned to the right by n bits: likewise a name. -/
def rotr (x : W) (n : Nat) : W := x.rotateRight n
/-- A word as a value. -/
abbrev v32 (x : W) : Value := .int .u32 (U x)
abbrev v8 (n : Int) : Value := .int .u8 n

theorem ofInt_U (x : W) : BitVec.ofInt 32 (U x) = x := by
  unfold U; apply BitVec.eq_of_toNat_eq; simp [BitVec.toNat_ofInt]
theorem U_bd (x : W) : 0 ≤ U x ∧ U x < 4294967296 := by unfold U; have := x.isLt; omega
theorem U_ofInt (n : Int) : U (BitVec.ofInt 32 n) = n % (4294967296 : Int) := by
  unfold U; simp [BitVec.toNat_ofInt]; omega
theorem u32_wrap (n : Int) : IntKind.u32.wrap n = U (BitVec.ofInt 32 n) := by rw [IntKind.wrap_u32, U_ofInt]
theorem U_and (x y : W) : bits .and .u32 (U x) (U y) = U (x &&& y) := by
  show IntKind.u32.wrap ((BitVec.ofInt 32 (U x) &&& BitVec.ofInt 32 (U y)).toNat : Int) = _
  rw [ofInt_U, ofInt_U, u32_wrap]; exact congrArg U (ofInt_U _)
theorem U_xor (x y : W) : bits .xor .u32 (U x) (U y) = U (x ^^^ y) := by
  show IntKind.u32.wrap ((BitVec.ofInt 32 (U x) ^^^ BitVec.ofInt 32 (U y)).toNat : Int) = _
  rw [ofInt_U, ofInt_U, u32_wrap]; exact congrArg U (ofInt_U _)
theorem U_shr (x : W) (k : Nat) : U x / (2 : Int) ^ k = U (x >>> k) := by
  unfold U; rw [BitVec.toNat_ushiftRight, Nat.shiftRight_eq_div_pow]; simp
theorem U_notmax (x : W) : bits .xor .u32 IntKind.u32.max (U x) = U (~~~x) := by
  rw [show IntKind.u32.max = U (BitVec.allOnes 32) by decide, U_xor]; congr 1
theorem ret_int {k : IntKind} {a b : Int} (h : a = b) : Ending.returned (.int k a) = .returned (.int k b) := by rw [h]
def fillStep (zs : List Int) (l : List W) (i : Nat) : List W := l.set (i / 4) (l.getD (i / 4) 0 <<< 8 ||| BitVec.ofInt 32 (zs.getD i 0))
def fill (zs : List Int) : Nat → List W
  | 0 => List.replicate 64 0
  | i + 1 => fillStep zs (fill zs i) i
structure R8 where
  a : W
  b : W
  c : W
  d : W
  e : W
  f : W
  g : W
  h : W
def pOf (r : R8) (k x : W) : W := r.h + (rotr r.e 6 ^^^ rotr r.e 11 ^^^ rotr r.e 25) + (r.e &&& r.f ^^^ ~~~r.e &&& r.g) + k + x
def qOf (r : R8) : W := (rotr r.a 2 ^^^ rotr r.a 13 ^^^ rotr r.a 22) + (r.a &&& r.b ^^^ r.a &&& r.c ^^^ r.b &&& r.c)
def round (r : R8) (k x : W) : R8 := ⟨pOf r k x + qOf r, r.a, r.b, r.c, r.d + pOf r k x, r.e, r.f, r.g⟩
def part (zs : List Int) (i : Nat) : List Int := (zs.take ((i + 1) * 64)).drop (i * 64)
attribute [irreducible] fill
end Sha
end
section
set_option linter.unusedSimpArgs false
set_option linter.unusedVariables false
namespace Crc
open Sha
def poly : W := 3988292384#32
/-- One bit on. -/
def bitOn (x : W) : W := if x.getLsbD 0 then x >>> 1 ^^^ poly else x >>> 1
/-- So many bits on. -/
def on : Nat → W → W
  | 0, x => x
  | n + 1, x => on n (bitOn x)
theorem on_zero (x : W) : on 0 x = x := rfl
theorem on_succ (n : Nat) (x : W) : on (n + 1) x = on n (bitOn x) := rfl
theorem on_add (m n : Nat) (x : W) : on (m + n) x = on n (on m x) := by
  induction m generalizing x with
  | zero => simp [on]
  | succ m ih => rw [show m + 1 + n = (m + n) + 1 by omega, on_succ, on_succ, ih]
theorem on_last (n : Nat) (x : W) : on (n + 1) x = bitOn (on n x) := by rw [on_add]; rfl
theorem bitOn_eq (x : W) : bitOn x = x >>> 1 ^^^ (if x.getLsbD 0 then poly else 0#32) := by
  unfold bitOn; split <;> simp
theorem bitOn_xor (x y : W) : bitOn (x ^^^ y) = bitOn x ^^^ bitOn y := by
  rw [bitOn_eq, bitOn_eq, bitOn_eq, BitVec.ushiftRight_xor_distrib, BitVec.getLsbD_xor]
  cases x.getLsbD 0 <;> cases y.getLsbD 0 <;> simp
  · rw [BitVec.xor_assoc]
  · rw [BitVec.xor_assoc, BitVec.xor_assoc, BitVec.xor_comm poly]
  · rw [BitVec.xor_assoc, BitVec.xor_comm poly, BitVec.xor_assoc, BitVec.xor_self, BitVec.xor_zero]
theorem on_xor (n : Nat) (x y : W) : on n (x ^^^ y) = on n x ^^^ on n y := by
  induction n generalizing x y with
  | zero => rfl
  | succ n ih => rw [on_succ, on_succ, on_succ, bitOn_xor, ih]
/-- Noughts drop out. -/
theorem on_shift (n : Nat) (x : W) (h : ∀ i, i < n → x.getLsbD i = false) : on n x = x >>> n := by
  induction n with
  | zero => simp [on]
  | succ n ih =>
    rw [on_last, ih (fun i hi => h i (by omega))]
    have h0 : (x >>> n).getLsbD 0 = false := by rw [BitVec.getLsbD_ushiftRight]; exact h n (by omega)
    unfold bitOn
    rw [h0, if_neg (by decide), BitVec.shiftRight_add]
def low8 (x : W) : W := x &&& 255#32
theorem split8 (x : W) : on 8 x = x >>> 8 ^^^ on 8 (low8 x) := by
  have h : x = (x &&& 4294967040#32) ^^^ low8 x := by
    unfold low8
    apply BitVec.eq_of_getLsbD_eq
    intro i hi
    have : i = 0 ∨ i = 1 ∨ i = 2 ∨ i = 3 ∨ i = 4 ∨ i = 5 ∨ i = 6 ∨ i = 7 ∨ i = 8 ∨ i = 9 ∨ i = 10 ∨ i = 11 ∨ i = 12 ∨ i = 13 ∨ i = 14 ∨ i = 15 ∨ i = 16 ∨ i = 17 ∨ i = 18 ∨ i = 19 ∨ i = 20 ∨ i = 21 ∨ i = 22 ∨ i = 23 ∨ i = 24 ∨ i = 25 ∨ i = 26 ∨ i = 27 ∨ i = 28 ∨ i = 29 ∨ i = 30 ∨ i = 31 := by omega
    rcases this with h | h | h | h | h | h | h | h | h | h | h | h | h | h | h | h | h | h | h | h | h | h | h | h | h | h | h | h | h | h | h | h <;> subst h <;> simp
  have h2 : on 8 (x &&& 4294967040#32) = x >>> 8 := by
    rw [on_shift]
    · apply BitVec.eq_of_getLsbD_eq
      intro i hi
      have : i = 0 ∨ i = 1 ∨ i = 2 ∨ i = 3 ∨ i = 4 ∨ i = 5 ∨ i = 6 ∨ i = 7 ∨ i = 8 ∨ i = 9 ∨ i = 10 ∨ i = 11 ∨ i = 12 ∨ i = 13 ∨ i = 14 ∨ i = 15 ∨ i = 16 ∨ i = 17 ∨ i = 18 ∨ i = 19 ∨ i = 20 ∨ i = 21 ∨ i = 22 ∨ i = 23 ∨ i = 24 ∨ i = 25 ∨ i = 26 ∨ i = 27 ∨ i = 28 ∨ i = 29 ∨ i = 30 ∨ i = 31 := by omega
      rcases this with h | h | h | h | h | h | h | h | h | h | h | h | h | h | h | h | h | h | h | h | h | h | h | h | h | h | h | h | h | h | h | h <;> subst h <;> simp
    · intro i hi
      have : i = 0 ∨ i = 1 ∨ i = 2 ∨ i = 3 ∨ i = 4 ∨ i = 5 ∨ i = 6 ∨ i = 7 := by omega
      rcases this with h | h | h | h | h | h | h | h <;> subst h <;> simp
  conv => lhs; rw [h]
  rw [on_xor, h2]
/-- What a byte makes of a number. -/
def upd (x : W) (c : Int) : W := on 8 (x ^^^ BitVec.ofInt 32 c)
def run (x : W) : List Int → W
  | [] => x
  | c :: zs => run (upd x c) zs
def more (s : W) (zs : List Int) : W := ~~~(run (~~~s) zs)
def sum (zs : List Int) : W := more 0#32 zs
theorem run_nil (x : W) : run x [] = x := rfl
theorem more_eq (s : W) (zs : List Int) : more s zs = ~~~(run (~~~s) zs) := rfl
theorem sum_eq (zs : List Int) : sum zs = more 0#32 zs := rfl
theorem upd_on (x : W) (c : Int) : upd x c = on 8 (x ^^^ BitVec.ofInt 32 c) := rfl
theorem run_append (x : W) (a b : List Int) : run x (a ++ b) = run (run x a) b := by
  induction a generalizing x with
  | nil => rfl
  | cons c a ih => simp [run, ih]
theorem run_take (x : W) (zs : List Int) (k : Nat) (c : Int) (hk : k < zs.length) (hc : c = zs.getD k 0) : run x (zs.take (k + 1)) = upd (run x (zs.take k)) c := by
  rw [List.take_succ_eq_append_getElem hk, run_append, hc, List.getD_eq_getElem?_getD, List.getElem?_eq_getElem hk]; rfl
def leN : List Int → Nat
  | [] => 0
  | c :: u => c.toNat + 256 * leN u
theorem leN_lt (u : List Int) (h : ∀ n ∈ u, 0 ≤ n ∧ n ≤ 255) : leN u < 2 ^ (8 * u.length) := by
  induction u with
  | nil => simp [leN]
  | cons c u ih =>
    have h1 := h c (by simp)
    have h2 := ih (fun n hn => h n (by simp [hn]))
    rw [leN, List.length_cons, show 8 * (u.length + 1) = 8 * u.length + 8 by omega, Nat.pow_add]
    omega
theorem leN_inj : ∀ (u v : List Int), u.length = v.length → (∀ n ∈ u, 0 ≤ n ∧ n ≤ 255) → (∀ n ∈ v, 0 ≤ n ∧ n ≤ 255) → leN u = leN v → u = v
  | [], [], _, _, _, _ => rfl
  | [], _ :: _, h, _, _, _ => by simp at h
  | _ :: _, [], h, _, _, _ => by simp at h
  | c :: u, d :: v, hl, hu, hv, h => by
    have h1 := hu c (by simp)
    have h2 := hv d (by simp)
    simp only [leN] at h
    have h3 : c = d := by omega
    have h4 : leN u = leN v := by omega
    rw [h3, leN_inj u v (by simpa using hl) (fun n hn => hu n (by simp [hn])) (fun n hn => hv n (by simp [hn])) h4]
def tabUpto (k : Nat) : List W := (List.range 256).map fun i => if i < k then on 8 (BitVec.ofNat 32 i) else 0#32
theorem tabUpto_length (k : Nat) : (tabUpto k).length = 256 := by simp [tabUpto]
theorem tabUpto_get (k i : Nat) (h : i < k) (hi : i < 256) : (tabUpto k)[i]? = some (on 8 (BitVec.ofNat 32 i)) := by
  simp [tabUpto, hi, h]
theorem tabUpto_succ (k : Nat) (hk : k < 256) : (tabUpto (k + 1)).map v32 = ((tabUpto k).map v32).set k (v32 (on 8 (BitVec.ofNat 32 k))) := by
  rw [← List.map_set]
  congr 1
  apply List.ext_getElem?
  intro i
  rw [List.getElem?_set]
  by_cases hi : k = i
  · subst hi; simp [tabUpto, hk]
  · rw [if_neg hi]
    by_cases h2 : i < 256
    · simp [tabUpto, h2]
      by_cases h3 : i < k
      · simp [h3, show i < k + 1 by omega]
      · simp [h3, show ¬ i < k + 1 by omega]
    · simp [tabUpto, h2]
/-- The lowest bit of a number. -/
def lowOf (k : Nat) : Nat := if k % 2 = 1 then 1 else if k % 4 = 2 then 2 else if k % 8 = 4 then 4 else if k % 16 = 8 then 8 else if k % 32 = 16 then 16 else if k % 64 = 32 then 32 else if k % 128 = 64 then 64 else if k = 128 then 128 else 0
theorem lowOf_le (k : Nat) (hk : k < 256) : lowOf k ≤ k := by
  have h : ∀ k : Fin 256, lowOf k.val ≤ k.val := by decide +kernel
  exact h ⟨k, hk⟩
theorem lowOf_pos (k : Nat) (hk : k < 256) (h : lowOf k ≠ k) : 0 < lowOf k ∧ lowOf k < k := by
  have h1 : ∀ k : Fin 256, lowOf k.val ≠ k.val → 0 < lowOf k.val ∧ lowOf k.val < k.val := by decide +kernel
  exact h1 ⟨k, hk⟩ h
theorem low_and (k : Nat) (hk : k < 256) : bits .and .i64 (k : Int) (-(k : Int)) = (lowOf k : Int) := by
  have h : ∀ k : Fin 256, bits .and .i64 ((k.val : Nat) : Int) (-((k.val : Nat) : Int)) = (lowOf k.val : Int) := by decide +kernel
  exact h ⟨k, hk⟩
theorem low_xor (k : Nat) (hk : k < 256) : BitVec.ofNat 32 (lowOf k) ^^^ BitVec.ofNat 32 (k - lowOf k) = BitVec.ofNat 32 k := by
  have h : ∀ k : Fin 256, BitVec.ofNat 32 (lowOf k.val) ^^^ BitVec.ofNat 32 (k.val - lowOf k.val) = BitVec.ofNat 32 k.val := by decide +kernel
  exact h ⟨k, hk⟩
theorem low_on (k : Nat) (hk : k < 256) : on 8 (BitVec.ofNat 32 (lowOf k)) ^^^ on 8 (BitVec.ofNat 32 (k - lowOf k)) = on 8 (BitVec.ofNat 32 k) := by
  rw [← on_xor, low_xor k hk]
/-- The place in the table. -/
def placeOf (x : W) (c : Int) : Nat := (low8 (x ^^^ BitVec.ofInt 32 c)).toNat
theorem placeOf_lt (x : W) (c : Int) : placeOf x c < 256 := by
  unfold placeOf low8
  rw [BitVec.toNat_and]
  have := @Nat.and_le_right (x ^^^ BitVec.ofInt 32 c).toNat (255#32).toNat
  have h2 : (255#32 : W).toNat = 255 := rfl
  omega
theorem upd_eq (x : W) (c : Int) (hc : 0 ≤ c ∧ c ≤ 255) : x >>> 8 ^^^ on 8 (BitVec.ofNat 32 (placeOf x c)) = upd x c := by
  unfold upd placeOf
  rw [split8 (x ^^^ BitVec.ofInt 32 c), BitVec.ofNat_toNat, BitVec.setWidth_eq, BitVec.ushiftRight_xor_distrib]
  have : (BitVec.ofInt 32 c) >>> 8 = 0#32 := by
    obtain ⟨k, rfl⟩ := Int.eq_ofNat_of_zero_le hc.1
    apply BitVec.eq_of_toNat_eq
    rw [BitVec.toNat_ushiftRight, Nat.shiftRight_eq_div_pow]
    have hk : (BitVec.ofInt 32 (k : Int)).toNat = k := by simp; omega
    rw [hk]; simp; omega
  rw [this, BitVec.xor_zero]
theorem place_xor (x : W) (c : Int) (hc : 0 ≤ c ∧ c ≤ 255) : bits .xor .u8 (U x % 256) c = (placeOf x c : Int) := by
  obtain ⟨k, rfl⟩ := Int.eq_ofNat_of_zero_le hc.1
  show IntKind.u8.wrap ((BitVec.ofInt 8 (U x % 256) ^^^ BitVec.ofInt 8 (k : Int)).toNat : Int) = _
  have h1 : (BitVec.ofInt 8 (U x % 256)).toNat = x.toNat % 256 := by
    unfold U; simp [BitVec.toNat_ofInt]; omega
  have h2 : (BitVec.ofInt 8 (k : Int)).toNat = k := by simp; omega
  have hk : (BitVec.ofInt 32 (k : Int)).toNat = k := by simp; omega
  have hx : x.toNat % 256 ^^^ k < 2 ^ 8 := Nat.xor_lt_two_pow (by omega) (by omega)
  rw [BitVec.toNat_xor, h1, h2, IntKind.wrap_u8]
  unfold placeOf low8
  rw [BitVec.toNat_and, BitVec.toNat_xor, hk, show (255#32 : W).toNat = 2 ^ 8 - 1 from rfl, Nat.and_two_pow_sub_one_eq_mod, Nat.xor_mod_two_pow]
  rw [show k % 2 ^ 8 = k by omega]
  simp only [Nat.reducePow] at hx ⊢
  omega
attribute [irreducible] on run more sum tabUpto lowOf placeOf bitOn upd
end Crc
end
section
set_option linter.unusedSimpArgs false
set_option linter.unusedVariables false
open Sha
namespace Frm
def Bytes (l : List Int) : Prop := ∀ n ∈ l, 0 ≤ n ∧ n ≤ 255
theorem Bytes.take {l : List Int} (h : Bytes l) (k : Nat) : Bytes (l.take k) := fun n hn => h n (List.mem_of_mem_take hn)
theorem Bytes.drop {l : List Int} (h : Bytes l) (k : Nat) : Bytes (l.drop k) := fun n hn => h n (List.mem_of_mem_drop hn)
theorem Bytes.append {a b : List Int} (ha : Bytes a) (hb : Bytes b) : Bytes (a ++ b) := fun n hn => by
  rcases List.mem_append.1 hn with h | h
  · exact ha n h
  · exact hb n h
def le4 (n : Nat) : List Int := [((n % 256 : Nat) : Int), ((n / 256 % 256 : Nat) : Int), ((n / 65536 % 256 : Nat) : Int), ((n / 16777216 % 256 : Nat) : Int)]
theorem le4_length (n : Nat) : (le4 n).length = 4 := rfl
theorem le4_bytes (n : Nat) : Bytes (le4 n) := by
  unfold Bytes le4
  intro m hm
  simp only [List.mem_cons, List.not_mem_nil, or_false] at hm
  rcases hm with rfl | rfl | rfl | rfl <;> omega
theorem leN_le4 (n : Nat) (h : n < 4294967296) : Crc.leN (le4 n) = n := by
  unfold le4
  simp only [Crc.leN, Int.toNat_natCast]
  omega
theorem le4_leN (u : List Int) (h : Bytes u) (hl : u.length = 4) : le4 (Crc.leN u) = u := by
  refine Crc.leN_inj _ _ (by rw [le4_length, hl]) (le4_bytes _) h (leN_le4 _ ?_)
  have := Crc.leN_lt u h
  rw [hl] at this
  exact this
def sumN (b : List Int) : Nat := (Crc.sum b).toNat
theorem sumN_lt (b : List Int) : sumN b < 4294967296 := (Crc.sum b).isLt
/-- What keeps bytes from being a record. -/
def bad (b : List Int) : Int := if b.length = 0 then 2 else if 4000 < b.length then 3 else 0
structure Rec (b : List Int) : Prop where
  one : 1 ≤ b.length
  most : b.length ≤ 4000
theorem Rec.bad {b : List Int} (h : Rec b) : bad b = 0 := by
  unfold Frm.bad
  rw [if_neg (by have := h.one; omega), if_neg (by have := h.most; omega)]
def fr (b : List Int) : List Int := le4 b.length ++ le4 (sumN b) ++ b
theorem fr_length (b : List Int) : (fr b).length = 8 + b.length := by unfold fr; simp [le4_length]; omega
theorem fr_bytes {b : List Int} (h : Bytes b) : Bytes (fr b) := ((le4_bytes _).append (le4_bytes _)).append h
def put (b : List Int) : List Int × Int := if bad b = 0 then (fr b, 0) else ([], bad b)
def frs (l : List (List Int)) : List Int := l.flatMap fr
theorem frs_nil : frs [] = [] := rfl
theorem frs_cons (b : List Int) (l : List (List Int)) : frs (b :: l) = fr b ++ frs l := List.flatMap_cons ..
def stands (bs : List Int) : List Int :=
  if bs.length < 8 then [] else
  if Crc.leN (bs.take 4) < 1 ∨ 4000 < Crc.leN (bs.take 4) ∨ bs.length < 8 + Crc.leN (bs.take 4) then [] else
  if sumN ((bs.drop 8).take (Crc.leN (bs.take 4))) = Crc.leN ((bs.drop 4).take 4) then (bs.drop 8).take (Crc.leN (bs.take 4)) else []
theorem stands_fr {b rest : List Int} (h : Rec b) : stands (fr b ++ rest) = b := by
  have h1 : (fr b ++ rest).take 4 = le4 b.length := by unfold fr; simp [le4]
  have h2 : ((fr b ++ rest).drop 4).take 4 = le4 (sumN b) := by unfold fr; simp [le4]
  have h3 : (fr b ++ rest).drop 8 = b ++ rest := by unfold fr; simp [le4]
  have hn := leN_le4 b.length (by have := h.most; omega)
  unfold stands
  rw [if_neg (by rw [List.length_append, fr_length]; omega), h1, hn, if_neg (by rw [List.length_append, fr_length]; have := h.one; have := h.most; omega), h2, h3, leN_le4 _ (sumN_lt _)]
  simp
theorem stands_length (bs : List Int) : stands bs ≠ [] → 8 + (stands bs).length ≤ bs.length ∧ Rec (stands bs) ∧ (Bytes bs → bs.take (8 + (stands bs).length) = fr (stands bs)) := by
  unfold stands
  split
  · intro h; exact absurd rfl h
  · rename_i h8
    split
    · intro h; exact absurd rfl h
    · rename_i hn
      split
      · rename_i hs
        intro _
        generalize hk : Crc.leN (bs.take 4) = k at *
        have hl : ((bs.drop 8).take k).length = k := by rw [List.length_take, List.length_drop]; omega
        refine ⟨by omega, ⟨by omega, by omega⟩, fun hb => ?_⟩
        unfold fr
        rw [hl, hs, ← hk, le4_leN _ (hb.take 4) (by rw [List.length_take]; omega), le4_leN _ ((hb.drop 4).take 4) (by rw [List.length_take, List.length_drop]; omega), hk]
        have e1 : bs = bs.take 4 ++ ((bs.drop 4).take 4 ++ bs.drop 8) := by
          rw [show bs.drop 8 = (bs.drop 4).drop 4 by rw [List.drop_drop], List.take_append_drop, List.take_append_drop]
        conv => lhs; rw [e1]
        rw [List.take_append, List.take_append, List.append_assoc]
        congr 1
        · rw [List.take_of_length_le (by rw [List.length_take]; omega)]
        congr 1
        · rw [List.take_of_length_le (by rw [List.length_take, List.length_drop, List.length_take]; omega)]
        · congr 1
          rw [List.length_take, List.length_take, List.length_drop]; omega
      · intro h; exact absurd rfl h
def split (bs : List Int) : List (List Int) × Nat :=
  if h : stands bs = [] then ([], 0) else
    (stands bs :: (split (bs.drop (8 + (stands bs).length))).1, 8 + (stands bs).length + (split (bs.drop (8 + (stands bs).length))).2)
termination_by bs.length
decreasing_by all_goals (have := (stands_length bs h).1; rw [List.length_drop]; omega)
theorem split_none {bs : List Int} (h : stands bs = []) : split bs = ([], 0) := by rw [split, dif_pos h]
theorem split_some {bs : List Int} (h : stands bs ≠ []) : split bs = (stands bs :: (split (bs.drop (8 + (stands bs).length))).1, 8 + (stands bs).length + (split (bs.drop (8 + (stands bs).length))).2) := by
  rw [split, dif_neg h]
theorem split_frs : ∀ (l : List (List Int)) (rest : List Int), (∀ b ∈ l, Rec b) → split (frs l ++ rest) = (l ++ (split rest).1, (frs l).length + (split rest).2)
  | [], rest, _ => by rw [frs_nil]; simp
  | b :: l, rest, h => by
    have hb := h b (List.mem_cons_self ..)
    have hs : stands (frs (b :: l) ++ rest) = b := by rw [frs_cons, List.append_assoc]; exact stands_fr hb
    have hne : stands (frs (b :: l) ++ rest) ≠ [] := by rw [hs]; intro e; have := hb.one; rw [e] at this; simp at this
    rw [split_some hne, hs]
    have hd : (frs (b :: l) ++ rest).drop (8 + b.length) = frs l ++ rest := by
      rw [frs_cons, List.append_assoc, ← fr_length, List.drop_left]
    rw [hd, split_frs l rest fun c hc => h c (List.mem_cons_of_mem _ hc)]
    simp only [List.cons_append, Prod.mk.injEq, true_and]
    rw [frs_cons, List.length_append, fr_length]
    omega
/-- What is joined is split as it was. -/
theorem split_join {l : List (List Int)} (h : ∀ b ∈ l, Rec b) : split (frs l) = (l, (frs l).length) := by
  have := split_frs l [] h
  rw [List.append_nil] at this
  rw [this, split_none (by unfold stands; simp)]
  simp
end Frm
end
section
set_option linter.unusedSimpArgs false
set_option linter.unusedVariables false
/-- A word: a node's number, a status, an incarnation. -/
structure Mb where
  I : Int
  S : Int
  N : Int
theorem Mb.ext' {a b : Mb} (h1 : a.I = b.I) (h2 : a.S = b.S) (h3 : a.N = b.N) : a = b := by cases a; cases b; cases h1; cases h2; cases h3; rfl
instance : DecidableEq Mb := fun a b =>
  if h : a.I = b.I ∧ a.S = b.S ∧ a.N = b.N then isTrue (Mb.ext' h.1 h.2.1 h.2.2) else isFalse (fun e => h (by subst e; exact ⟨rfl, rfl, rfl⟩))
theorem Mb.eq_iff (a b : Mb) : a = b ↔ a.I = b.I ∧ a.S = b.S ∧ a.N = b.N := ⟨fun e => by subst e; exact ⟨rfl, rfl, rfl⟩, fun h => Mb.ext' h.1 h.2.1 h.2.2⟩
structure Mb.ok (m : Mb) : Prop where
  i : -9223372036854775808 ≤ m.I ∧ m.I ≤ 9223372036854775807
  s : -9223372036854775808 ≤ m.S ∧ m.S ≤ 9223372036854775807
  n : -9223372036854775808 ≤ m.N ∧ m.N ≤ 9223372036854775807
namespace Mb
def none : Mb := ⟨0, 0, 0⟩
def May (m : Mb) : Prop := (1 ≤ m.I ∧ m.I ≤ 64) ∧ (1 ≤ m.S ∧ m.S ≤ 4) ∧ 0 ≤ m.N ∧ m.N ≤ 2147483647
instance (m : Mb) : Decidable m.May := by unfold May; infer_instance
def Both (a b : Mb) : Prop := a.May ∧ b.May ∧ a.I = b.I
instance (a b : Mb) : Decidable (Both a b) := by unfold Both; infer_instance
/-- Of two words about one node. -/
def Up (a b : Mb) : Prop := b.N < a.N ∨ a.N = b.N ∧ b.S < a.S
instance (a b : Mb) : Decidable (Up a b) := by unfold Up; infer_instance
def Over (a b : Mb) : Prop := Both a b ∧ Up a b
instance (a b : Mb) : Decidable (Over a b) := by unfold Over; infer_instance
end Mb
end
section
set_option linter.unusedSimpArgs false
set_option linter.unusedVariables false
namespace Nte
open Fld (Itm zero32)
/-- A note: kind, from, to; call, set, home; ballot, other; yes; id, bytes, ids, words. -/
structure Not where
  K : Int
  F : Int
  T : Int
  C1 : Int
  C2 : Int
  C3 : Int
  S : Int
  H : Int
  B1 : Int
  B2 : Int
  O1 : Int
  O2 : Int
  Y : Bool
  D : List Int
  X : List Int
  I : List (List Int)
  W : List Mb
deriving DecidableEq
def none_ : Not := ⟨0, 0, 0, 0, 0, 0, 0, 0, 0, 0, 0, 0, false, zero32, [], [], []⟩
/-- A number's, an id's, bytes' item. -/
def iN (n : Int) : Itm := ⟨n, [], zero32⟩
def iD (d : List Int) : Itm := ⟨0, [], d⟩
def iB (b : List Int) : Itm := ⟨0, b, zero32⟩
def n8 (n : Int) : List Int := Fld.num n.toNat
def w3 (m : Mb) : List Itm := [iN m.I, iN m.S, iN m.N]
def wb (m : Mb) : List Int := n8 m.I ++ n8 m.S ++ n8 m.N
/-- What a kind has, by letters. -/
def letters (k : Int) : List Int :=
  if k = 1 then [99, 119] else if k = 2 then [99, 119] else if k = 3 then [99, 104, 119] else if k = 4 then [119] else if k = 5 then [99, 115, 100, 104, 120] else
  if k = 6 then [99, 115, 100, 104, 121] else if k = 7 then [99, 100] else if k = 8 then [99, 100, 121, 120] else if k = 9 then [99, 115, 98] else if k = 10 then [99, 115, 98, 111, 121, 120] else
  if k = 11 then [99, 115, 98, 120] else if k = 12 then [99, 115, 98, 111, 121] else if k = 13 then [115, 120] else if k = 14 then [99, 115] else if k = 15 then [99, 115, 121, 120] else
  if k = 16 then [99, 115, 100, 120] else if k = 17 then [99, 115, 100] else if k = 18 then [115, 105] else if k = 19 then [115, 105] else []
def all_ : List (List Int) := [[99, 119], [99, 104, 119], [119], [99, 115, 100, 104, 120], [99, 115, 100, 104, 121], [99, 100], [99, 100, 121, 120], [99, 115, 98], [99, 115, 98, 111, 121, 120], [99, 115, 98, 120], [99, 115, 98, 111, 121], [115, 120], [99, 115], [99, 115, 121, 120], [99, 115, 100, 120], [99, 115, 100], [115, 105]]
theorem letters_ind {p : List Int → Prop} (k : Int) (h0 : p []) (h : ∀ l ∈ all_, p l) : p (letters k) := by
  obtain ⟨l, hl⟩ : ∃ l, l = letters k := ⟨_, rfl⟩
  rw [← hl]
  unfold letters at hl
  by_cases hk : 1 ≤ k ∧ k ≤ 19
  · have : k = 1 ∨ k = 2 ∨ k = 3 ∨ k = 4 ∨ k = 5 ∨ k = 6 ∨ k = 7 ∨ k = 8 ∨ k = 9 ∨ k = 10 ∨ k = 11 ∨ k = 12 ∨ k = 13 ∨ k = 14 ∨ k = 15 ∨ k = 16 ∨ k = 17 ∨ k = 18 ∨ k = 19 := by omega
    rcases this with rfl | rfl | rfl | rfl | rfl | rfl | rfl | rfl | rfl | rfl | rfl | rfl | rfl | rfl | rfl | rfl | rfl | rfl | rfl <;> (simp at hl; subst hl; exact h _ (by simp [all_]))
  · rw [if_neg (by omega), if_neg (by omega), if_neg (by omega), if_neg (by omega), if_neg (by omega), if_neg (by omega), if_neg (by omega), if_neg (by omega), if_neg (by omega), if_neg (by omega), if_neg (by omega), if_neg (by omega), if_neg (by omega), if_neg (by omega), if_neg (by omega), if_neg (by omega), if_neg (by omega), if_neg (by omega), if_neg (by omega)] at hl
    subst hl; exact h0
def shp (c : Int) : List Int :=
  if c = 99 then [110, 110, 110] else if c = 98 ∨ c = 111 then [110, 110] else if c = 100 then [100] else if c = 120 then [98] else if c = 105 then [40, 100, 41] else if c = 119 then [40, 110, 110, 110, 41] else [110]
def shape (k : Int) : List Int := 110 :: 110 :: 110 :: (letters k).flatMap shp
def yes (y : Bool) : Int := if y = true then 1 else 0
def its (x : Not) (c : Int) : List Itm :=
  if c = 99 then [iN x.C1, iN x.C2, iN x.C3] else if c = 98 then [iN x.B1, iN x.B2] else if c = 111 then [iN x.O1, iN x.O2] else if c = 100 then [iD x.D] else if c = 120 then [iB x.X] else
  if c = 105 then iN x.I.length :: x.I.flatMap (fun d => [iD d]) else if c = 119 then iN x.W.length :: x.W.flatMap w3 else if c = 115 then [iN x.S] else if c = 104 then [iN x.H] else [iN (yes x.Y)]
def items (x : Not) : List Itm := iN x.K :: iN x.F :: iN x.T :: (letters x.K).flatMap (its x)
def enb (x : Not) (c : Int) : List Int :=
  if c = 99 then n8 x.C1 ++ n8 x.C2 ++ n8 x.C3 else if c = 98 then n8 x.B1 ++ n8 x.B2 else if c = 111 then n8 x.O1 ++ n8 x.O2 else if c = 100 then x.D else if c = 120 then n8 x.X.length ++ x.X else
  if c = 105 then n8 x.I.length ++ x.I.flatMap (fun d => d) else if c = 119 then n8 x.W.length ++ x.W.flatMap wb else if c = 115 then n8 x.S else if c = 104 then n8 x.H else n8 (yes x.Y)
/-- The bytes within a note's frame. -/
def inner (x : Not) : List Int := n8 x.K ++ (n8 x.F ++ (n8 x.T ++ (letters x.K).flatMap (enb x)))

def big (n : Int) : Prop := 0 ≤ n ∧ n ≤ 4611686018427387903
def bigW (m : Mb) : Prop := big m.I ∧ big m.S ∧ big m.N
structure Fits (x : Not) : Prop where
  K : big x.K
  F : big x.F
  T : big x.T
  C : big x.C1 ∧ big x.C2 ∧ big x.C3
  S : big x.S
  H : big x.H
  B : big x.B1 ∧ big x.B2
  O : big x.O1 ∧ big x.O2
  X : x.X.length ≤ 4000
  I : x.I.length ≤ 4000
  W : x.W.length ≤ 4000
  w : ∀ m ∈ x.W, bigW m
open Fld (putS walkL rep once okFor bound enc)
theorem put_one {c : Int} {out : List Int} {x : Itm} {l : List Itm} (h1 : okFor c x = true) (h2 : bound c x = 0) : putS c (out, x :: l) = ((out ++ enc c x, l), x.N, 0) := by simp [putS, h1, h2]
theorem put_n {n : Int} (h : big n) (out : List Int) (l : List Itm) : putS 110 (out, iN n :: l) = ((out ++ n8 n, l), n, 0) := by
  rw [put_one (by simp [okFor, iN]) (Fld.bound_of (by simpa [iN] using h.1) (by simpa [iN] using h.2) (by simp [iN]) (by omega))]
  simp [enc, iN, n8]
theorem put_c {n : Int} (h0 : 0 ≤ n) (h1 : n ≤ 4000) (out : List Int) (l : List Itm) : putS 40 (out, iN n :: l) = ((out ++ n8 n, l), n, 0) := by
  rw [put_one (by simp [okFor, iN]) (Fld.bound_of (by simpa [iN] using h0) (by simp only [iN]; omega) (by simp [iN]) (by intro _; simpa [iN] using h1))]
  simp [enc, iN, n8]
theorem put_b {b : List Int} (h : b.length ≤ 4000) (out : List Int) (l : List Itm) : putS 98 (out, iB b :: l) = ((out ++ (n8 b.length ++ b), l), 0, 0) := by
  rw [put_one (by simp [okFor, iB]) (Fld.bound_of (by simp [iB]) (by simp [iB]) (by simpa [iB] using h) (by omega))]
  simp [enc, iB, n8]
theorem put_d (d : List Int) (out : List Int) (l : List Itm) : putS 100 (out, iD d :: l) = ((out ++ d, l), 0, 0) := by
  rw [put_one (by simp [okFor, iD]) (Fld.bound_of (by simp [iD]) (by simp [iD]) (by simp [iD]) (by omega))]
  simp [enc, iD]
theorem walk_t {σ : Type} (f : Int → σ → σ × Int × Int) (t t' : Int) (s : List Int) (st : σ) : walkL f none t s st = walkL f none t' s st := by
  cases s <;> rfl
theorem walk_step {σ : Type} {f : Int → σ → σ × Int × Int} {t : Int} {c : Int} {r : List Int} {st st' : σ} {n : Int} (h : f c st = (st', n, 0)) (hc : c ≠ 40) : walkL f none t (c :: r) st = walkL f none 0 r st' := by
  rw [walkL, h]
  simp only [if_true, if_neg hc]
  exact walk_t f _ _ _ _
theorem rep_of {α : Type} (g : List Int) (f : α → List Itm) (e : α → List Int) (L : List α) (h : ∀ m ∈ L, ∀ out l, once putS g (out, f m ++ l) = ((out ++ e m, l), 0)) : ∀ out l, rep putS g L.length (out, L.flatMap f ++ l) = ((out ++ L.flatMap e, l), 0) := by
  induction L with
  | nil => intro out l; simp [rep]
  | cons m L ih =>
    intro out l
    rw [List.length_cons, rep, List.flatMap_cons, List.append_assoc, h m (List.mem_cons_self ..)]
    simp only [if_true]
    rw [ih (fun m hm => h m (List.mem_cons_of_mem _ hm)), List.flatMap_cons, List.append_assoc]
theorem once_step {c : Int} {g : List Int} {st st' : List Int × List Itm} {n : Int} (h : putS c st = (st', n, 0)) : once putS (c :: g) st = once putS g st' := by
  rw [once, h]; simp
theorem once_d (d : List Int) (out : List Int) (l : List Itm) : once putS [100] (out, [iD d] ++ l) = ((out ++ d, l), 0) := by
  rw [List.singleton_append, once_step (put_d d out l)]; rfl
theorem once_w {m : Mb} (h : bigW m) (out : List Int) (l : List Itm) : once putS [110, 110, 110] (out, w3 m ++ l) = ((out ++ wb m, l), 0) := by
  unfold w3
  simp only [List.cons_append, List.nil_append]
  rw [once_step (put_n h.1 _ _), once_step (put_n h.2.1 _ _), once_step (put_n h.2.2 _ _)]
  simp [once, wb]
theorem walk_group {α : Type} (g : List Int) (hg : ∀ c ∈ g, c ≠ 41) (f : α → List Itm) (e : α → List Int) (L : List α) (hL : L.length ≤ 4000) (h : ∀ m ∈ L, ∀ out l, once putS g (out, f m ++ l) = ((out ++ e m, l), 0)) (s : List Int) (t : Int) (out : List Int) (l : List Itm) :
    walkL putS none t (40 :: (g ++ 41 :: s)) (out, iN L.length :: (L.flatMap f ++ l)) = walkL putS none 0 s (out ++ (n8 L.length ++ L.flatMap e), l) := by
  have hin : ∀ (g' acc : List Int) (t : Int) (st : List Int × List Itm), (∀ c ∈ g', c ≠ 41) → walkL putS (some acc) t (g' ++ 41 :: s) st = walkL putS (some (acc ++ g')) t (41 :: s) st := by
    intro g'
    induction g' with
    | nil => intro acc t st _; simp
    | cons c g' ih =>
      intro acc t st hc
      rw [List.cons_append, walkL, if_neg (hc c (List.mem_cons_self ..)), ih _ _ _ (fun c h => hc c (List.mem_cons_of_mem _ h))]
      simp
  rw [walkL, put_c (by omega) (by omega)]
  simp only [if_true]
  rw [hin g [] _ _ hg, List.nil_append, walkL]
  simp only [if_true]
  rw [show ((L.length : Nat) : Int).toNat = L.length by omega, rep_of g f e L h]
  simp only [if_true]
  rw [walk_t _ _ 0, List.append_assoc]
/-- The letters that there are. -/
def isT (c : Int) : Prop := c = 99 ∨ c = 98 ∨ c = 111 ∨ c = 100 ∨ c = 120 ∨ c = 105 ∨ c = 119 ∨ c = 115 ∨ c = 104 ∨ c = 121
theorem letters_isT (k : Int) : ∀ c ∈ letters k, isT c := by
  refine letters_ind (p := fun l => ∀ c ∈ l, isT c) k (by simp) ?_
  unfold all_ isT
  decide
theorem big_yes (y : Bool) : big (yes y) := by unfold yes big; split <;> omega
theorem walk_letter {x : Not} (h : Fits x) {c : Int} (hc : isT c) (s : List Int) (t : Int) (out : List Int) (l : List Itm) :
    walkL putS none t (shp c ++ s) (out, its x c ++ l) = walkL putS none 0 s (out ++ enb x c, l) := by
  rcases hc with rfl | rfl | rfl | rfl | rfl | rfl | rfl | rfl | rfl | rfl
  · simp only [shp, its, enb, if_true, List.cons_append, List.nil_append]
    rw [walk_step (put_n h.C.1 _ _) (by decide), walk_step (put_n h.C.2.1 _ _) (by decide), walk_step (put_n h.C.2.2 _ _) (by decide)]
    simp
  · simp [shp, its, enb]
    rw [walk_step (put_n h.B.1 _ _) (by decide), walk_step (put_n h.B.2 _ _) (by decide)]
    simp
  · simp [shp, its, enb]
    rw [walk_step (put_n h.O.1 _ _) (by decide), walk_step (put_n h.O.2 _ _) (by decide)]
    simp
  · simp [shp, its, enb]
    rw [walk_step (put_d _ _ _) (by decide)]
  · simp [shp, its, enb]
    rw [walk_step (put_b h.X _ _) (by decide)]
  · have := walk_group [100] (by simp) (fun d => [iD d]) (fun d => d) x.I h.I (fun d _ out l => once_d d out l) s t out l
    simpa [shp, its, enb] using this
  · have := walk_group [110, 110, 110] (by simp) w3 wb x.W h.W (fun m hm out l => once_w (h.w m hm) out l) s t out l
    simpa [shp, its, enb] using this
  · simp [shp, its, enb]
    rw [walk_step (put_n h.S _ _) (by decide)]
  · simp [shp, its, enb]
    rw [walk_step (put_n h.H _ _) (by decide)]
  · simp [shp, its, enb]
    rw [walk_step (put_n (big_yes _) _ _) (by decide)]
theorem walk_letters {x : Not} (h : Fits x) (ls : List Int) : ∀ (hl : ∀ c ∈ ls, isT c) (t : Int) (out : List Int) (l : List Itm),
    walkL putS none t (ls.flatMap shp) (out, ls.flatMap (its x) ++ l) = ((out ++ ls.flatMap (enb x), l), 0) := by
  induction ls with
  | nil => intro _ t out l; simp [walkL]
  | cons c ls ih =>
    intro hl t out l
    rw [List.flatMap_cons, List.flatMap_cons, List.append_assoc, walk_letter h (hl c (List.mem_cons_self ..)), ih (fun c hc => hl c (List.mem_cons_of_mem _ hc)), List.flatMap_cons, List.append_assoc]
theorem shape_chk (k : Int) : Fld.chk (shape k) = true := by
  unfold shape
  refine letters_ind (p := fun l => Fld.chk (110 :: 110 :: 110 :: l.flatMap shp) = true) k (by decide) ?_
  unfold all_
  decide
/-- A note's items, written, are the bytes within its frame. -/
theorem put_items {x : Not} (h : Fits x) : Fld.put (shape x.K) (items x) = (inner x, 0) := by
  have hw : walkL putS none 0 (shape x.K) ([], items x) = ((inner x, []), 0) := by
    unfold shape items inner
    rw [walk_step (put_n h.K _ _) (by decide), walk_step (put_n h.F _ _) (by decide), walk_step (put_n h.T _ _) (by decide)]
    have := walk_letters h (letters x.K) (letters_isT _) 0 ([] ++ n8 x.K ++ n8 x.F ++ n8 x.T) []
    rw [List.append_nil] at this
    rw [this]
    simp
  unfold Fld.put
  rw [if_pos (shape_chk _), hw]
  simp
end Nte
end
section
set_option linter.unusedSimpArgs false
set_option linter.unusedVariables false
namespace Nte
open Fld (Itm zero32)
open Frm (Bytes)
def fit (n : Int) : Prop := -9223372036854775808 ≤ n ∧ n ≤ 9223372036854775807
/-- What any note in memory is. -/
structure Not.ok (x : Not) : Prop where
  K : fit x.K
  F : fit x.F
  T : fit x.T
  C : fit x.C1 ∧ fit x.C2 ∧ fit x.C3
  S : fit x.S
  H : fit x.H
  B : fit x.B1 ∧ fit x.B2
  O : fit x.O1 ∧ fit x.O2
  D : Bytes x.D
  len : x.D.length = 32
  X : Bytes x.X
  Xl : x.X.length ≤ 9223372036854775807
  I : ∀ d ∈ x.I, Bytes d ∧ d.length = 32
  Il : x.I.length ≤ 9223372036854775807
  W : ∀ m ∈ x.W, m.ok
  Wl : x.W.length ≤ 9223372036854775807
theorem zero_bytes : Bytes zero32 := by intro n hn; unfold Fld.zero32 at hn; have := (List.mem_replicate.1 hn).2; omega
theorem none_ok : none_.ok := by
  refine ⟨?_, ?_, ?_, ?_, ?_, ?_, ?_, ?_, zero_bytes, Fld.zero32_length, ?_, ?_, ?_, ?_, ?_, ?_⟩ <;> simp [none_, fit, Bytes]
def setOk (n : Int) : Prop := 1 ≤ n ∧ n ≤ 2147483647
def nodeOk (n : Int) : Prop := 1 ≤ n ∧ n ≤ 64
instance (n : Int) : Decidable (setOk n) := by unfold setOk; infer_instance
instance (n : Int) : Decidable (nodeOk n) := by unfold nodeOk; infer_instance
def Call (x : Not) : Prop := nodeOk x.C1 ∧ setOk x.C2 ∧ setOk x.C3
def NoCall (x : Not) : Prop := x.C1 = 0 ∧ x.C2 = 0 ∧ x.C3 = 0
instance (x : Not) : Decidable (Call x) := by unfold Call; infer_instance
instance (x : Not) : Decidable (NoCall x) := by unfold NoCall; infer_instance
/-- May the numbers be? -/
def Nums (x : Not) : Prop :=
  (if 99 ∈ letters x.K then Call x else NoCall x) ∧ (if 115 ∈ letters x.K then setOk x.S else x.S = 0) ∧ (if 104 ∈ letters x.K then nodeOk x.H else x.H = 0) ∧
  (if 98 ∈ letters x.K then setOk x.B1 ∧ nodeOk x.B2 else x.B1 = 0 ∧ x.B2 = 0) ∧ ((x.O1 = 0 ∧ x.O2 = 0) ∨ (111 ∈ letters x.K ∧ setOk x.O1 ∧ nodeOk x.O2 ∧ ¬ (x.K = 12 ∧ x.Y = true)))
/-- May the others be? -/
def Rest (x : Not) : Prop :=
  (x.Y = true → 121 ∈ letters x.K) ∧ (x.D = zero32 ∨ 100 ∈ letters x.K) ∧ (x.X = [] ∨ (120 ∈ letters x.K ∧ (121 ∈ letters x.K → x.Y = true))) ∧
  (x.I = [] ∨ 105 ∈ letters x.K) ∧ x.I.length ≤ 64 ∧ (x.W = [] ∨ 119 ∈ letters x.K) ∧ x.W.length ≤ 64 ∧ ∀ m ∈ x.W, m.May
instance (x : Not) : Decidable (Nums x) := by unfold Nums; infer_instance
instance (x : Not) : Decidable (Rest x) := by unfold Rest; infer_instance
def Can (x : Not) : Prop := (1 ≤ x.K ∧ x.K ≤ 19) ∧ nodeOk x.F ∧ nodeOk x.T ∧ x.F ≠ x.T ∧ Nums x ∧ Rest x
instance (x : Not) : Decidable (Can x) := by unfold Can; infer_instance
def check (x : Not) : Int := if Can x then (if 4000 < (inner x).length then 3 else 0) else 2
theorem check_zero {x : Not} (h : check x = 0) : Can x ∧ (inner x).length ≤ 4000 := by
  unfold check at h
  split at h
  · split at h
    · cases h
    · exact ⟨by assumption, by omega⟩
  · cases h
theorem check_of {x : Not} (h : Can x) (hl : (inner x).length ≤ 4000) : check x = 0 := by unfold check; rw [if_pos h, if_neg (by omega)]
theorem check_no {x : Not} (h : ¬ Can x) : check x = 2 := by unfold check; rw [if_neg h]
theorem check_long {x : Not} (h : Can x) (hl : 4000 < (inner x).length) : check x = 3 := by unfold check; rw [if_pos h, if_pos hl]
theorem big_of {n : Int} {p : Prop} [Decidable p] (h : if p then setOk n else n = 0) : big n := by unfold big; split at h <;> (try unfold setOk at h) <;> omega
theorem big_of' {n : Int} {p : Prop} [Decidable p] (h : if p then nodeOk n else n = 0) : big n := by unfold big; split at h <;> (try unfold nodeOk at h) <;> omega
theorem node_big {n : Int} (h : nodeOk n) : big n := by unfold nodeOk at h; unfold big; omega
theorem set_big {n : Int} (h : setOk n) : big n := by unfold setOk at h; unfold big; omega
theorem zero_big : big 0 := by unfold big; omega
theorem Can.fits {x : Not} (h : Can x) (hx : x.X.length ≤ 4000) : Fits x := by
  obtain ⟨hk, hf, ht, _, ⟨hc, hs, hh, hb, ho⟩, _, _, _, _, hi, _, hw, hm⟩ := h
  refine ⟨⟨by omega, by omega⟩, node_big hf, node_big ht, ?_, big_of hs, big_of' hh, ?_, ?_, hx, by omega, by omega, ?_⟩
  · split at hc
    · exact ⟨node_big hc.1, set_big hc.2.1, set_big hc.2.2⟩
    · rw [hc.1, hc.2.1, hc.2.2]; exact ⟨zero_big, zero_big, zero_big⟩
  · split at hb
    · exact ⟨set_big hb.1, node_big hb.2⟩
    · rw [hb.1, hb.2]; exact ⟨zero_big, zero_big⟩
  · rcases ho with ho | ho
    · rw [ho.1, ho.2]; exact ⟨zero_big, zero_big⟩
    · exact ⟨set_big ho.2.1, node_big ho.2.2.1⟩
  · intro m h
    have := hm m h
    unfold Mb.May at this
    exact ⟨⟨by omega, by omega⟩, ⟨by omega, by omega⟩, ⟨by omega, by omega⟩⟩
/-- The bytes hold the data. -/
theorem inner_data {x : Not} (h : Can x) : x.X.length ≤ (inner x).length := by
  rcases h.2.2.2.2.2.2.2.1 with e | e
  · simp [e]
  · have : ∀ ls : List Int, 120 ∈ ls → x.X.length ≤ (ls.flatMap (enb x)).length := by
      intro ls
      induction ls with
      | nil => intro h; simp at h
      | cons c ls ih =>
        intro h
        rw [List.flatMap_cons, List.length_append]
        rcases List.mem_cons.1 h with rfl | h
        · simp [enb]; omega
        · have := ih h; omega
    have := this _ e.1
    unfold inner
    simp only [List.length_append]; omega
theorem Can.fits' {x : Not} (h : check x = 0) : Fits x := (check_zero h).1.fits (by have := inner_data (check_zero h).1; have := (check_zero h).2; omega)
def nN (l : List Itm) (i : Nat) : Int := (l.getD i (iN 0)).N
def words : Nat → List Itm → List Mb
  | n + 1, a :: b :: c :: l => ⟨a.N, b.N, c.N⟩ :: words n l
  | _, _ => []
/-- A letter's field, of items. -/
def fld (c : Int) (st : Not × List Itm) : Not × List Itm :=
  if c = 99 then ({ st.1 with C1 := nN st.2 0, C2 := nN st.2 1, C3 := nN st.2 2 }, st.2.drop 3) else if c = 98 then ({ st.1 with B1 := nN st.2 0, B2 := nN st.2 1 }, st.2.drop 2) else
  if c = 111 then ({ st.1 with O1 := nN st.2 0, O2 := nN st.2 1 }, st.2.drop 2) else if c = 100 then ({ st.1 with D := (st.2.getD 0 (iN 0)).D }, st.2.drop 1) else
  if c = 120 then ({ st.1 with X := (st.2.getD 0 (iN 0)).B }, st.2.drop 1) else if c = 105 then ({ st.1 with I := ((st.2.drop 1).take (nN st.2 0).toNat).map (·.D) }, st.2.drop (1 + (nN st.2 0).toNat)) else
  if c = 119 then ({ st.1 with W := words (nN st.2 0).toNat (st.2.drop 1) }, st.2.drop (1 + 3 * (nN st.2 0).toNat)) else if c = 115 then ({ st.1 with S := nN st.2 0 }, st.2.drop 1) else
  if c = 104 then ({ st.1 with H := nN st.2 0 }, st.2.drop 1) else ({ st.1 with Y := decide (nN st.2 0 = 1) }, st.2.drop 1)
/-- .. of a note. -/
def setf (x : Not) (y : Not) (c : Int) : Not :=
  if c = 99 then { y with C1 := x.C1, C2 := x.C2, C3 := x.C3 } else if c = 98 then { y with B1 := x.B1, B2 := x.B2 } else if c = 111 then { y with O1 := x.O1, O2 := x.O2 } else
  if c = 100 then { y with D := x.D } else if c = 120 then { y with X := x.X } else if c = 105 then { y with I := x.I } else if c = 119 then { y with W := x.W } else
  if c = 115 then { y with S := x.S } else if c = 104 then { y with H := x.H } else { y with Y := x.Y }
def base (k f t : Int) : Not := { none_ with K := k, F := f, T := t }
def of (l : List Itm) : Not := ((letters (nN l 0)).foldl (fun st c => fld c st) (base (nN l 0) (nN l 1) (nN l 2), l.drop 3)).1
theorem set_all {x : Not} (h : Can x) : (letters x.K).foldl (setf x) (base x.K x.F x.T) = x := by
  obtain ⟨hk, _, _, _, ⟨hc, hs, hh, hb, ho⟩, hy, hd, hX, hi, _, hw, _, _⟩ := h
  obtain ⟨K, F, T, C1, C2, C3, S, H, B1, B2, O1, O2, Y, D, X, I, W⟩ := x
  simp only at *
  unfold NoCall at hc
  have : K = 1 ∨ K = 2 ∨ K = 3 ∨ K = 4 ∨ K = 5 ∨ K = 6 ∨ K = 7 ∨ K = 8 ∨ K = 9 ∨ K = 10 ∨ K = 11 ∨ K = 12 ∨ K = 13 ∨ K = 14 ∨ K = 15 ∨ K = 16 ∨ K = 17 ∨ K = 18 ∨ K = 19 := by omega
  rcases this with rfl | rfl | rfl | rfl | rfl | rfl | rfl | rfl | rfl | rfl | rfl | rfl | rfl | rfl | rfl | rfl | rfl | rfl | rfl <;>
    simp [letters] at hc hs hh hb ho hy hd hX hi hw <;> simp [letters, setf, base, none_, *]
theorem iN_ok {n : Int} (h : fit n) : (iN n).ok := ⟨h.1, h.2, by simp [iN], zero_bytes, Fld.zero32_length⟩
theorem iD_ok {d : List Int} (h : Bytes d) (hl : d.length = 32) : (iD d).ok := ⟨by simp [iD], by simp [iD], by simp [iD], h, hl⟩
theorem iB_ok {b : List Int} (h : Bytes b) : (iB b).ok := ⟨by simp [iB], by simp [iB], h, zero_bytes, Fld.zero32_length⟩
theorem n8_bytes (n : Int) : Bytes (n8 n) := Fld.num_bd _
theorem wb_bytes (m : Mb) : Bytes (wb m) := ((n8_bytes _).append (n8_bytes _)).append (n8_bytes _)
theorem flat_bytes {α : Type} {f : α → List Int} {l : List α} (h : ∀ a ∈ l, Bytes (f a)) : Bytes (l.flatMap f) := by
  intro n hn
  obtain ⟨a, ha, hn⟩ := List.mem_flatMap.1 hn
  exact h a ha n hn
theorem inner_bytes {x : Not} (h : x.ok) : Bytes (inner x) := by
  unfold inner
  refine (n8_bytes _).append ((n8_bytes _).append ((n8_bytes _).append (flat_bytes ?_)))
  intro c _
  unfold enb
  have hD := h.D
  have hX := (n8_bytes x.X.length).append h.X
  have hI := (n8_bytes x.I.length).append (flat_bytes (f := fun d => d) fun d hd => (h.I d hd).1)
  have hW := (n8_bytes x.W.length).append (flat_bytes (f := wb) (l := x.W) fun m _ => wb_bytes m)
  (repeat' split) <;> first | exact hD | exact hX | exact hI | exact hW | exact (((n8_bytes _).append (n8_bytes _)).append (n8_bytes _)) | exact ((n8_bytes _).append (n8_bytes _)) | exact n8_bytes _
theorem inner_pos (x : Not) : 1 ≤ (inner x).length := by
  unfold inner
  rw [List.length_append]
  have : 0 < (n8 x.K).length := Fld.num_pos _
  omega
theorem inner_rec {x : Not} (h : check x = 0) : Frm.Rec (inner x) := ⟨inner_pos x, (check_zero h).2⟩
def put (x : Not) : List Int × Int := if check x = 0 then (Frm.fr (inner x), 0) else ([], check x)
theorem put_ok {x : Not} (h : check x = 0) : put x = (Frm.fr (inner x), 0) := by unfold put; rw [if_pos h]
theorem put_no {x : Not} (h : check x ≠ 0) : put x = ([], check x) := by unfold put; rw [if_neg h]
theorem split_put {x : Not} (h : check x = 0) : Frm.split (Frm.fr (inner x)) = ([inner x], (Frm.fr (inner x)).length) := by
  have := Frm.split_join (l := [inner x]) (by intro b hb; simp at hb; subst hb; exact inner_rec h)
  simpa [Frm.frs] using this
end Nte
end
section
set_option linter.unusedSimpArgs false
set_option linter.unusedVariables false
variable {P : Program}
/-- The block g holds the cells cs, each of which may be written. -/
def Blk (w : World) (g : Nat) (cs : List Value) (t : TypeId) : Prop := w.heap[g]? = some (.cells cs.toArray t (0, 0))
theorem Blk.new (w : World) (cs : Array Value) (t : TypeId) : Blk (w.alloc (.cells cs t)) w.heap.size cs.toList t := by
  unfold Blk; rw [heap_alloc_new]
theorem Blk.old {w : World} {g : Nat} {cs : List Value} {t : TypeId} (h : Blk w g cs t) (o : Obj) : Blk (w.alloc o) g cs t := by
  have hlt : g < w.heap.size := by
    by_cases hlt : g < w.heap.size
    · exact hlt
    · unfold Blk at h; rw [Array.getElem?_eq_none (by omega)] at h; cases h
  unfold Blk; rw [RowKit.Below.heap_alloc _ _ _ hlt]; exact h
theorem Blk.lt {w : World} {g : Nat} {cs : List Value} {t : TypeId} (h : Blk w g cs t) : g < w.heap.size := by
  by_cases hlt : g < w.heap.size
  · exact hlt
  · unfold Blk at h; rw [Array.getElem?_eq_none (by omega)] at h; cases h
theorem Blk.drew {w : World} {g : Nat} {cs : List Value} {t : TypeId} (h : Blk w g cs t) : Blk w.drew g cs t := h
theorem Blk.drewN {w : World} {g : Nat} {cs : List Value} {t : TypeId} (h : Blk w g cs t) (n : Nat) : Blk (w.drewN n) g cs t := h
theorem Blk.below {w w' : World} {B g : Nat} {cs : List Value} {t : TypeId} (h : Blk w g cs t) (hb : RowKit.Below B w w') (hg : g < B) : Blk w' g cs t := by
  unfold Blk; rw [hb.block g hg]; exact h
theorem Blk.cell {w : World} {g : Nat} {cs : List Value} {t : TypeId} (h : Blk w g cs t) (i : Nat) : w.cell? ⟨g, i, none⟩ = cs[i]? := by
  rw [cell_of_row w g i cs.toArray t (0, 0) h]; simp
theorem Blk.free {w : World} {g : Nat} {cs : List Value} {t : TypeId} (h : Blk w g cs t) (i : Nat) : w.frozen? ⟨g, i, none⟩ = false := frozen_of_row w g i _ t h
theorem Blk.set {w : World} {g : Nat} {cs : List Value} {t : TypeId} (h : Blk w g cs t) (i : Nat) (v : Value) : Blk (w.setCell ⟨g, i, none⟩ v) g (cs.set i v) t := by
  unfold Blk; rw [heap_setCell_same w g i _ t v h]; simp
theorem Blk.setOther {w : World} {g : Nat} {cs : List Value} {t : TypeId} (h : Blk w g cs t) (a : Addr) (v : Value) (hn : g ≠ a.block) : Blk (w.setCell a v) g cs t := by
  unfold Blk; rw [heap_setCell_other w a g v hn]; exact h
theorem Blk.row {w : World} {g : Nat} {cs : List Value} {t : TypeId} (h : Blk w g cs t) (cs' : List Value) : Blk (w.setRow g cs'.toArray) g cs' t := setRow_heap w g _ _ t (0, 0) h
theorem Blk.rowOther {w : World} {g k : Nat} {cs : List Value} {t : TypeId} (h : Blk w g cs t) (cs' : Array Value) (hn : g ≠ k) : Blk (w.setRow k cs') g cs t := by
  unfold Blk; rw [setRow_other w k g cs' hn]; exact h
theorem below_drewN {B : Nat} {a w : World} (h : RowKit.Below B a w) (n : Nat) : RowKit.Below B a (w.drewN n) := ⟨h.os, h.tape, h.output, h.size, h.block⟩
theorem Below.setRow {B : Nat} {a w : World} (h : RowKit.Below B a w) {g : Nat} (hg : B ≤ g) (cs : Array Value) : RowKit.Below B a (w.setRow g cs) :=
  h.trans ⟨rfl, rfl, rfl, by simp, fun k hk => setRow_other w g k cs (by omega)⟩

theorem still_of_quiet {ops : Array Oper} {w : World} {Q : Act → Prop} : ∀ (l : List Oper) (a : Act), wpQuiet P ops (fun w' => w' = w) Q l a → wpStill P ops w Q l a
  | [], _, h => h
  | o :: rest, a, h => by
    unfold wpQuiet at h
    unfold wpStill
    split
    · rename_i hw
      rw [if_pos hw] at h
      obtain ⟨v, h1, h2⟩ := h
      have h3 := h1 w rfl
      have h4 := still_of_quiet rest _ h2
      unfold Oper.quietAt at h3
      unfold Oper.still
      generalize (execOp a.eval o).run P w = r at *
      cases r with
      | ok n w' =>
        cases n <;> simp only [Oper.quietUpon] at h3 <;> simp only [Oper.stillUpon]
        case value u => obtain ⟨e1, e2⟩ := h3; subst e2; exact ⟨e1, h4⟩
        case skip => obtain ⟨e1, e2⟩ := h3; subst e2; exact ⟨e1, h4⟩
        case enter f args => exact ⟨h3.1, v, h3.2, h4⟩
      | halt x w' => simp only [Oper.quietUpon] at h3
    · rename_i hw
      rw [if_neg hw] at h
      exact still_of_quiet rest _ h
/-- A region that draws its order: a head that reads and calls quietly, a tail whose order is forced. -/
theorem region_tail {id : Nat} {Q : Exit → Act → World → Prop} {a : Act} {w : World} {l : List Oper} (n : Nat) (hm : P.follows .mixedOrders = true) (hB : Region.lexTailB .any l.toArray n = true)
    (h : wpQuiet P l.toArray (fun w' => w' = w.drew) (fun a' => wpList P l.toArray Q (l.drop n) a' w.drew) (l.take n) a) : (Code.region id l.toArray true).wp P Q a w :=
  wp_region_still_tail n hm hB (still_of_quiet _ _ h)
variable {w0 wv : World} {B g1 g2 : Nat} {d1 d2 : Bool} {t1 t2 : TypeId} {c1 c2 : List Value}
section
variable {ops : Array Oper} {rest : List Oper} {o : Oper} {a : Act} {w : World} {Q : Exit → Act → World → Prop}
variable {K : Act → World → Prop}
theorem wp_alloc_arr (ty : TypeId) (ho : o.op = .alloc ty) (cs : Array Value) (hz : (P.info? ty).map (fun i => i.zero) = some (some (.agg cs)))
    (h : K (a.put o.dst (.pointer (some ⟨w.heap.size, 0, none⟩))) (w.alloc (.cells cs ty))) : o.wp P a w K Q := by
  unfold Oper.wp execOp
  have hz' : (zeroValue ty).run P w = .ok (.agg cs) w := by
    cases hq : P.info? ty with
    | none => simp [hq] at hz
    | some i => simp [hq] at hz; simp [zeroValue, typeInfo, hq, hz]
  simp only [ho, Instr.alloc, Sem.run_bind, hz', Result.andThen_ok, Sem.run_pure]
  exact h
theorem wpList_alloc_arr (hgd : o.guard = none) (ty : TypeId) (ho : o.op = .alloc ty) (cs : Array Value) (hz : (P.info? ty).map (fun i => i.zero) = some (some (.agg cs)))
    (h : wpList P ops Q rest (a.put o.dst (.pointer (some ⟨w.heap.size, 0, none⟩))) (w.alloc (.cells cs ty))) : wpList P ops Q (o :: rest) a w := by
  exact wpList_plain hgd fun K hK => wp_alloc_arr ty ho cs hz (hK _ _ h)
theorem wpList_box_arr (hgd : o.guard = none) (ty : TypeId) (x : Operand) (ho : o.op = .box ty x) (cs : Array Value) (hx : a.eval x = .agg cs)
    (h : wpList P ops Q rest (a.put o.dst (.pointer (some ⟨w.heap.size, 0, none⟩))) (w.alloc (.cells cs ty))) : wpList P ops Q (o :: rest) a w := by
  refine wpList_plain hgd fun K hK => ?_
  unfold Oper.wp execOp
  simp only [ho, hx, Instr.box, Sem.run_bind, Result.andThen_ok, Sem.run_pure]
  exact hK _ _ h
theorem wpList_build' (hg : o.guard = none) (t : TypeId) (parts : Array (Nat × Operand)) (ho : o.op = .build t parts) (cs : Array Value)
    (hf : P.built t (parts.map fun (i, x) => (i, a.eval x)).toList = some cs)
    (h : wpList P ops Q rest (a.put o.dst (.agg cs)) w) : wpList P ops Q (o :: rest) a w :=
  wpList_build hg t parts ho (by rw [hf]; rfl) (by rw [hf]; exact h)
end
end
end Go.Proofs.YtbogjfmefkhglaaGreat
