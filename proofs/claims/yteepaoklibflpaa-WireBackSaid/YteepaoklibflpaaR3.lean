/-
  Plain mathematics of the digest: words of 32 bits, the schedule of a block, the rounds, the filling. No program is named here.
-/
import Derived.WalkKit
namespace Go.Proofs.Yteepaoklibflpaa
section
set_option linter.unusedSimpArgs false
set_option linter.unusedVariables false
namespace Sha
abbrev W := BitVec 32
/-- A word as an integer: a name that the walk's simp does not open. -/
def U (x : W) : Int := (x.toNat : Int)
/-- A word turned to the right by n bits: likewise a name. -/
def rotr (x : W) (n : Nat) : W := x.rotateRight n
/-- A word as a value. -/
abbrev v32 (x : W) : Value := .int .u32 (U x)
abbrev v8 (n : Int) : Value := .int .u8 n

theorem ofInt_U (x : W) : BitVec.ofInt 32 (U x) = x := by
  unfold U; apply BitVec.eq_of_toNat_eq; simp [BitVec.toNat_ofInt]
theorem U_bd (x : W) : 0 ≤ U x ∧ U x < 4294967296 := by unfold U; have := x.isLt; omega
theorem U_ofInt (n : Int) : U (BitVec.ofInt 32 n) = n % (4294967296 : Int) := by
  unfold U; simp [BitVec.toNat_ofInt]; omega
theorem u32_wrap (n : Int) : IntKind.u32.wrap n = U (BitVec.ofInt 32 n) := by rw [IntKind.wrap_u32, U_ofInt]
theorem U_and (x y : W) : bits .and .u32 (U x) (U y) = U (x &&& y) := by
  show IntKind.u32.wrap ((BitVec.ofInt 32 (U x) &&& BitVec.ofInt 32 (U y)).toNat : Int) = _
  rw [ofInt_U, ofInt_U, u32_wrap]; exact congrArg U (ofInt_U _)
theorem U_xor (x y : W) : bits .xor .u32 (U x) (U y) = U (x ^^^ y) := by
  show IntKind.u32.wrap ((BitVec.ofInt 32 (U x) ^^^ BitVec.ofInt 32 (U y)).toNat : Int) = _
  rw [ofInt_U, ofInt_U, u32_wrap]; exact congrArg U (ofInt_U _)
theorem U_or (x y : W) : bits .or .u32 (U x) (U y) = U (x ||| y) := by
  show IntKind.u32.wrap ((BitVec.ofInt 32 (U x) ||| BitVec.ofInt 32 (U y)).toNat : Int) = _
  rw [ofInt_U, ofInt_U, u32_wrap]; exact congrArg U (ofInt_U _)
theorem U_or_int (x : W) (n : Int) : bits .or .u32 (U x) n = U (x ||| BitVec.ofInt 32 n) := by
  show IntKind.u32.wrap ((BitVec.ofInt 32 (U x) ||| BitVec.ofInt 32 n).toNat : Int) = _
  rw [ofInt_U, u32_wrap]; exact congrArg U (ofInt_U _)
theorem U_add (x y : W) : (U x + U y) % (4294967296 : Int) = U (x + y) := by
  rw [← U_ofInt, BitVec.ofInt_add, ofInt_U, ofInt_U]
theorem U_shl (x : W) (k : Nat) : (U x * (2 : Int) ^ k) % (4294967296 : Int) = U (x <<< k) := by
  unfold U; rw [BitVec.toNat_shiftLeft, Nat.shiftLeft_eq]; simp
theorem U_shr (x : W) (k : Nat) : U x / (2 : Int) ^ k = U (x >>> k) := by
  unfold U; rw [BitVec.toNat_ushiftRight, Nat.shiftRight_eq_div_pow]; simp
theorem U_shl8 (x : W) : (U x * (256 : Int)) % (4294967296 : Int) = U (x <<< 8) := U_shl x 8
theorem U_shr3 (x : W) : U x / (8 : Int) = U (x >>> 3) := U_shr x 3
theorem U_shr10 (x : W) : U x / (1024 : Int) = U (x >>> 10) := U_shr x 10
theorem U_not (x : W) : (4294967295 : Int) - U x = U (~~~x) := by
  unfold U; rw [BitVec.toNat_not]; have := x.isLt; omega
theorem U_mod (n : Int) : n % (4294967296 : Int) = U (BitVec.ofInt 32 n) := (U_ofInt n).symm
theorem U_notmax (x : W) : bits .xor .u32 IntKind.u32.max (U x) = U (~~~x) := by
  rw [show IntKind.u32.max = U (BitVec.allOnes 32) by decide, U_xor]; congr 1
theorem U_not3 (x : W) : bits .xor .u32 (if IntKind.u32.signed = true then -1 else IntKind.u32.max) (U x) = U (~~~x) := U_notmax x
theorem sum5 (a b c d e : W) : (U a + U b + U c + U d + U e) % (4294967296 : Int) = U (a + b + c + d + e) := by
  rw [U_mod]; simp only [BitVec.ofInt_add, ofInt_U]
theorem sum4d (d a b c e : W) : (U d + (U a + U b + U c + U e)) % (4294967296 : Int) = U (d + (a + b + c + e)) := by
  rw [U_mod]; simp only [BitVec.ofInt_add, ofInt_U]
theorem ret_int {k : IntKind} {a b : Int} (h : a = b) : Ending.returned (.int k a) = .returned (.int k b) := by rw [h]
theorem rot (x : W) (n : Nat) (h : 1 ≤ n ∧ n ≤ 31) : (x <<< (32 - n) ||| x >>> n) = rotr x n := by
  unfold rotr; rw [BitVec.rotateRight_def, Nat.mod_eq_of_lt (by omega), BitVec.or_comm]

/-! ### The schedule of a block -/
def fillStep (zs : List Int) (l : List W) (i : Nat) : List W := l.set (i / 4) (l.getD (i / 4) 0 <<< 8 ||| BitVec.ofInt 32 (zs.getD i 0))
def fill (zs : List Int) : Nat → List W
  | 0 => List.replicate 64 0
  | i + 1 => fillStep zs (fill zs i) i
def small0 (x : W) : W := rotr x 7 ^^^ rotr x 18 ^^^ x >>> 3
def small1 (x : W) : W := rotr x 17 ^^^ rotr x 19 ^^^ x >>> 10
def extStep (l : List W) (k : Nat) : List W := l.set (k + 16) (l.getD k 0 + small0 (l.getD (k + 1) 0) + l.getD (k + 9) 0 + small1 (l.getD (k + 14) 0))
def ext (l : List W) : Nat → List W
  | 0 => l
  | k + 1 => extStep (ext l k) k
def wordsOf (zs : List Int) : List W := ext (fill zs 64) 48
theorem fill_length (zs : List Int) (i : Nat) : (fill zs i).length = 64 := by
  induction i with
  | zero => simp [fill]
  | succ i ih => simp [fill, fillStep, ih]
theorem fill_succ (zs : List Int) (k : Nat) (x : W) (n : Int) (hx : x = (fill zs k).getD (k / 4) 0) (hn : n = zs.getD k 0) :
    (fill zs (k + 1)).map v32 = ((fill zs k).map v32).set (k / 4) (v32 (x <<< 8 ||| BitVec.ofInt 32 n)) := by
  subst hx hn; simp [fill, fillStep, List.map_set]
theorem ext_succ (l : List W) (k : Nat) (x0 x1 x9 x14 : W) (h0 : x0 = (ext l k).getD k 0) (h1 : x1 = (ext l k).getD (k + 1) 0) (h9 : x9 = (ext l k).getD (k + 9) 0) (h14 : x14 = (ext l k).getD (k + 14) 0) :
    (ext l (k + 1)).map v32 = ((ext l k).map v32).set (k + 16) (v32 (x0 + small0 x1 + x9 + small1 x14)) := by
  subst h0 h1 h9 h14; simp [ext, extStep, List.map_set]
theorem ext_length (l : List W) (k : Nat) : (ext l k).length = l.length := by
  induction k with
  | zero => rfl
  | succ i ih => simp [ext, extStep, ih]
theorem wordsOf_eq (zs : List Int) : wordsOf zs = ext (fill zs 64) 48 := rfl
/-! ### The rounds -/
def kList : List W := [0x428a2f98#32, 0x71374491#32, 0xb5c0fbcf#32, 0xe9b5dba5#32, 0x3956c25b#32, 0x59f111f1#32, 0x923f82a4#32, 0xab1c5ed5#32, 0xd807aa98#32, 0x12835b01#32, 0x243185be#32, 0x550c7dc3#32, 0x72be5d74#32, 0x80deb1fe#32, 0x9bdc06a7#32, 0xc19bf174#32, 0xe49b69c1#32, 0xefbe4786#32, 0x0fc19dc6#32, 0x240ca1cc#32, 0x2de92c6f#32, 0x4a7484aa#32, 0x5cb0a9dc#32, 0x76f988da#32, 0x983e5152#32, 0xa831c66d#32, 0xb00327c8#32, 0xbf597fc7#32, 0xc6e00bf3#32, 0xd5a79147#32, 0x06ca6351#32, 0x14292967#32, 0x27b70a85#32, 0x2e1b2138#32, 0x4d2c6dfc#32, 0x53380d13#32, 0x650a7354#32, 0x766a0abb#32, 0x81c2c92e#32, 0x92722c85#32, 0xa2bfe8a1#32, 0xa81a664b#32, 0xc24b8b70#32, 0xc76c51a3#32, 0xd192e819#32, 0xd6990624#32, 0xf40e3585#32, 0x106aa070#32, 0x19a4c116#32, 0x1e376c08#32, 0x2748774c#32, 0x34b0bcb5#32, 0x391c0cb3#32, 0x4ed8aa4a#32, 0x5b9cca4f#32, 0x682e6ff3#32, 0x748f82ee#32, 0x78a5636f#32, 0x84c87814#32, 0x8cc70208#32, 0x90befffa#32, 0xa4506ceb#32, 0xbef9a3f7#32, 0xc67178f2#32]
def first8 : List W := [0x6a09e667#32, 0xbb67ae85#32, 0x3c6ef372#32, 0xa54ff53a#32, 0x510e527f#32, 0x9b05688c#32, 0x1f83d9ab#32, 0x5be0cd19#32]
structure R8 where
  a : W
  b : W
  c : W
  d : W
  e : W
  f : W
  g : W
  h : W
def R8.list (r : R8) : List W := [r.a, r.b, r.c, r.d, r.e, r.f, r.g, r.h]
def R8.get (s : List W) : R8 := ⟨s.getD 0 0, s.getD 1 0, s.getD 2 0, s.getD 3 0, s.getD 4 0, s.getD 5 0, s.getD 6 0, s.getD 7 0⟩
def pOf (r : R8) (k x : W) : W := r.h + (rotr r.e 6 ^^^ rotr r.e 11 ^^^ rotr r.e 25) + (r.e &&& r.f ^^^ ~~~r.e &&& r.g) + k + x
def qOf (r : R8) : W := (rotr r.a 2 ^^^ rotr r.a 13 ^^^ rotr r.a 22) + (r.a &&& r.b ^^^ r.a &&& r.c ^^^ r.b &&& r.c)
def round (r : R8) (k x : W) : R8 := ⟨pOf r k x + qOf r, r.a, r.b, r.c, r.d + pOf r k x, r.e, r.f, r.g⟩
def rounds (ks ws : List W) (r : R8) : Nat → R8
  | 0 => r
  | t + 1 => round (rounds ks ws r t) (ks.getD t 0) (ws.getD t 0)
def addStep (l r : List W) (i : Nat) : List W := l.set i (l.getD i 0 + r.getD i 0)
def addUpto (l r : List W) : Nat → List W
  | 0 => l
  | i + 1 => addStep (addUpto l r i) r i
theorem addUpto_length (l r : List W) (i : Nat) : (addUpto l r i).length = l.length := by
  induction i with
  | zero => rfl
  | succ i ih => simp [addUpto, addStep, ih]
def behindOf (s ks : List W) (zs : List Int) : List W := addUpto s (rounds ks (wordsOf zs) (R8.get s) 64).list 8
theorem behindOf_eq (s ks : List W) (zs : List Int) : behindOf s ks zs = addUpto s (rounds ks (wordsOf zs) (R8.get s) 64).list 8 := rfl
theorem behindOf_length (s ks : List W) (zs : List Int) : (behindOf s ks zs).length = s.length := by rw [behindOf, addUpto_length]
theorem wordsOf_length (zs : List Int) : (wordsOf zs).length = 64 := by rw [wordsOf_eq, ext_length, fill_length]
theorem eight (s : List W) (h : s.length = 8) : ∃ a b c d e f g h, s = [a, b, c, d, e, f, g, h] := by
  match s, h with
  | [a, b, c, d, e, f, g, h], _ => exact ⟨a, b, c, d, e, f, g, h, rfl⟩
theorem get_eight (a b c d e f g h : W) : R8.get [a, b, c, d, e, f, g, h] = ⟨a, b, c, d, e, f, g, h⟩ := rfl
theorem rounds_zero (ks ws : List W) (r : R8) : rounds ks ws r 0 = r := rfl
theorem rounds_succ (ks ws : List W) (r : R8) (t : Nat) (a b c d e f g h k x : W) (hr : rounds ks ws r t = ⟨a, b, c, d, e, f, g, h⟩) (hk : k = ks.getD t 0) (hx : x = ws.getD t 0) :
    rounds ks ws r (t + 1) = ⟨h + (rotr e 6 ^^^ rotr e 11 ^^^ rotr e 25) + (e &&& f ^^^ ~~~e &&& g) + k + x + ((rotr a 2 ^^^ rotr a 13 ^^^ rotr a 22) + (a &&& b ^^^ a &&& c ^^^ b &&& c)), a, b, c, d + (h + (rotr e 6 ^^^ rotr e 11 ^^^ rotr e 25) + (e &&& f ^^^ ~~~e &&& g) + k + x), e, f, g⟩ := by
  subst hk hx; rw [rounds, hr]; rfl
theorem addUpto_zero (l r : List W) : addUpto l r 0 = l := rfl
theorem addUpto_succ (l r : List W) (i : Nat) (x y : W) (hx : x = (addUpto l r i).getD i 0) (hy : y = r.getD i 0) :
    (addUpto l r (i + 1)).map v32 = ((addUpto l r i).map v32).set i (v32 (x + y)) := by
  subst hx hy; simp [addUpto, addStep, List.map_set]
/-! ### All blocks -/
def part (zs : List Int) (i : Nat) : List Int := (zs.take ((i + 1) * 64)).drop (i * 64)
def thru (s ks : List W) (zs : List Int) : Nat → List W
  | 0 => s
  | i + 1 => behindOf (thru s ks zs i) ks (part zs i)
theorem thru_zero (s ks : List W) (zs : List Int) : thru s ks zs 0 = s := rfl
theorem thru_succ (s ks : List W) (zs : List Int) (i : Nat) : thru s ks zs (i + 1) = behindOf (thru s ks zs i) ks (part zs i) := rfl
theorem thru_length (s ks : List W) (zs : List Int) (i : Nat) : (thru s ks zs i).length = s.length := by
  induction i with
  | zero => rfl
  | succ i ih => rw [thru_succ, behindOf_length, ih]
theorem part_length (zs : List Int) (i : Nat) (h : (i + 1) * 64 ≤ zs.length) : (part zs i).length = 64 := by simp [part]; omega
theorem part_mem (zs : List Int) (i : Nat) (P : Int → Prop) (h : ∀ n ∈ zs, P n) : ∀ n ∈ part zs i, P n := fun n hn => h n (List.mem_of_mem_take (List.mem_of_mem_drop hn))
theorem part_map (zs : List Int) (i : Nat) (f : Int → Value) : ((zs.map f).take ((i + 1) * 64)).drop (i * 64) = (part zs i).map f := by simp [part, List.map_take, List.map_drop]
attribute [irreducible] thru fill ext wordsOf rounds addUpto behindOf kList first8
end Sha
end
end Go.Proofs.Yteepaoklibflpaa
