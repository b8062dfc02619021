/-
  Plain mathematics of the digest: words of 32 bits, the schedule of a block, the rounds, the filling. No program is named here.
  Words about nodes, as the chapter has them: which may be, which is over which, which is left of two, what a node answers.
  Laws for whole arrays in a walk: a new variable, a box, a load and a store of all cells at once, an element by its index. The cells are whatever; nothing is unrolled.
-/
import Derived.WalkKit
import Derived.Lib.Hide
import Derived.Deep.WholeRow
import Derived.Deep.QuietTactic
import Derived.BigQuiet
import Derived.StillTailTactics
import Derived.Deep.RegionHeld3
namespace Go.Proofs.Ytocfcfoocmkkdaa
section
set_option linter.unusedSimpArgs false
set_option linter.unusedVariables false
namespace Sha
abbrev W := BitVec 32
/-- A word as an integer: a name that the walk's simp does not open. -/
def U (x : W) : Int := (x.toNat : Int)
/-- A word turned to the right by n bits: likewise a name. -/
def rotr (x : W) (n : Nat) : W := x.rotateRight n
/-- A word as a value. -/
abbrev v32 (x : W) : Value := .int .u32 (U x)
abbrev v8 (n : Int) : Value := .int .u8 n

theorem ofInt_U (x : W) : BitVec.ofInt 32 (U x) = x := by
  unfold U; apply BitVec.eq_of_toNat_eq; simp [BitVec.toNat_ofInt]
theorem U_bd (x : W) : 0 ≤ U x ∧ U x < 4294967296 := by unfold U; have := x.isLt; omega
theorem U_ofInt (n : Int) : U (BitVec.ofInt 32 n) = n % (4294967296 : Int) := by
  unfold U; simp [BitVec.toNat_ofInt]; omega
theorem u32_wrap (n : Int) : IntKind.u32.wrap n = U (BitVec.ofInt 32 n) := by rw [IntKind.wrap_u32, U_ofInt]
theorem U_and (x y : W) : bits .and .u32 (U x) (U y) = U (x &&& y) := by
  show IntKind.u32.wrap ((BitVec.ofInt 32 (U x) &&& BitVec.ofInt 32 (U y)).toNat : Int) = _
  rw [ofInt_U, ofInt_U, u32_wrap]; exact congrArg U (ofInt_U _)
theorem U_xor (x y : W) : bits .xor .u32 (U x) (U y) = U (x ^^^ y) := by
  show IntKind.u32.wrap ((BitVec.ofInt 32 (U x) ^^^ BitVec.ofInt 32 (U y)).toNat : Int) = _
  rw [ofInt_U, ofInt_U, u32_wrap]; exact congrArg U (ofInt_U _)
theorem U_or (x y : W) : bits .or .u32 (U x) (U y) = U (x ||| y) := by
  show IntKind.u32.wrap ((BitVec.ofInt 32 (U x) ||| BitVec.ofInt 32 (U y)).toNat : Int) = _
  rw [ofInt_U, ofInt_U, u32_wrap]; exact congrArg U (ofInt_U _)
theorem U_or_int (x : W) (n : Int) : bits .or .u32 (U x) n = U (x ||| BitVec.ofInt 32 n) := by
  show IntKind.u32.wrap ((BitVec.ofInt 32 (U x) ||| BitVec.ofInt 32 n).toNat : Int) = _
  rw [ofInt_U, u32_wrap]; exact congrArg U (ofInt_U _)
theorem U_add (x y : W) : (U x + U y) % (4294967296 : Int) = U (x + y) := by
  rw [← U_ofInt, BitVec.ofInt_add, ofInt_U, ofInt_U]
theorem U_shl (x : W) (k : Nat) : (U x * (2 : Int) ^ k) % (4294967296 : Int) = U (x <<< k) := by
  unfold U; rw [BitVec.toNat_shiftLeft, Nat.shiftLeft_eq]; simp
theorem U_shr (x : W) (k : Nat) : U x / (2 : Int) ^ k = U (x >>> k) := by
  unfold U; rw [BitVec.toNat_ushiftRight, Nat.shiftRight_eq_div_pow]; simp
theorem U_shl8 (x : W) : (U x * (256 : Int)) % (4294967296 : Int) = U (x <<< 8) := U_shl x 8
theorem U_shr3 (x : W) : U x / (8 : Int) = U (x >>> 3) := U_shr x 3
theorem U_shr10 (x : W) : U x / (1024 : Int) = U (x >>> 10) := U_shr x 10
theorem U_not (x : W) : (4294967295 : Int) - U x = U (~~~x) := by
  unfold U; rw [BitVec.toNat_not]; have := x.isLt; omega
theorem U_mod (n : Int) : n % (4294967296 : Int) = U (BitVec.ofInt 32 n) := (U_ofInt n).symm
theorem U_notmax (x : W) : bits .xor .u32 IntKind.u32.max (U x) = U (~~~x) := by
  rw [show IntKind.u32.max = U (BitVec.allOnes 32) by decide, U_xor]; congr 1
theorem U_not3 (x : W) : bits .xor .u32 (if IntKind.u32.signed = true then -1 else IntKind.u32.max) (U x) = U (~~~x) := U_notmax x
theorem sum5 (a b c d e : W) : (U a + U b + U c + U d + U e) % (4294967296 : Int) = U (a + b + c + d + e) := by
  rw [U_mod]; simp only [BitVec.ofInt_add, ofInt_U]
theorem sum4d (d a b c e : W) : (U d + (U a + U b + U c + U e)) % (4294967296 : Int) = U (d + (a + b + c + e)) := by
  rw [U_mod]; simp only [BitVec.ofInt_add, ofInt_U]
theorem ret_int {k : IntKind} {a b : Int} (h : a = b) : Ending.returned (.int k a) = .returned (.int k b) := by rw [h]
theorem rot (x : W) (n : Nat) (h : 1 ≤ n ∧ n ≤ 31) : (x <<< (32 - n) ||| x >>> n) = rotr x n := by
  unfold rotr; rw [BitVec.rotateRight_def, Nat.mod_eq_of_lt (by omega), BitVec.or_comm]

/-! ### The schedule of a block -/
def fillStep (zs : List Int) (l : List W) (i : Nat) : List W := l.set (i / 4) (l.getD (i / 4) 0 <<< 8 ||| BitVec.ofInt 32 (zs.getD i 0))
def fill (zs : List Int) : Nat → List W
  | 0 => List.replicate 64 0
  | i + 1 => fillStep zs (fill zs i) i
def small0 (x : W) : W := rotr x 7 ^^^ rotr x 18 ^^^ x >>> 3
def small1 (x : W) : W := rotr x 17 ^^^ rotr x 19 ^^^ x >>> 10
def extStep (l : List W) (k : Nat) : List W := l.set (k + 16) (l.getD k 0 + small0 (l.getD (k + 1) 0) + l.getD (k + 9) 0 + small1 (l.getD (k + 14) 0))
def ext (l : List W) : Nat → List W
  | 0 => l
  | k + 1 => extStep (ext l k) k
def wordsOf (zs : List Int) : List W := ext (fill zs 64) 48
theorem fill_length (zs : List Int) (i : Nat) : (fill zs i).length = 64 := by
  induction i with
  | zero => simp [fill]
  | succ i ih => simp [fill, fillStep, ih]
theorem fill_succ (zs : List Int) (k : Nat) (x : W) (n : Int) (hx : x = (fill zs k).getD (k / 4) 0) (hn : n = zs.getD k 0) :
    (fill zs (k + 1)).map v32 = ((fill zs k).map v32).set (k / 4) (v32 (x <<< 8 ||| BitVec.ofInt 32 n)) := by
  subst hx hn; simp [fill, fillStep, List.map_set]
theorem ext_succ (l : List W) (k : Nat) (x0 x1 x9 x14 : W) (h0 : x0 = (ext l k).getD k 0) (h1 : x1 = (ext l k).getD (k + 1) 0) (h9 : x9 = (ext l k).getD (k + 9) 0) (h14 : x14 = (ext l k).getD (k + 14) 0) :
    (ext l (k + 1)).map v32 = ((ext l k).map v32).set (k + 16) (v32 (x0 + small0 x1 + x9 + small1 x14)) := by
  subst h0 h1 h9 h14; simp [ext, extStep, List.map_set]
theorem ext_length (l : List W) (k : Nat) : (ext l k).length = l.length := by
  induction k with
  | zero => rfl
  | succ i ih => simp [ext, extStep, ih]
theorem wordsOf_eq (zs : List Int) : wordsOf zs = ext (fill zs 64) 48 := rfl
/-! ### The rounds -/
def kList : List W := [0x428a2f98#32, 0x71374491#32, 0xb5c0fbcf#32, 0xe9b5dba5#32, 0x3956c25b#32, 0x59f111f1#32, 0x923f82a4#32, 0xab1c5ed5#32, 0xd807aa98#32, 0x12835b01#32, 0x243185be#32, 0x550c7dc3#32, 0x72be5d74#32, 0x80deb1fe#32, 0x9bdc06a7#32, 0xc19bf174#32, 0xe49b69c1#32, 0xefbe4786#32, 0x0fc19dc6#32, 0x240ca1cc#32, 0x2de92c6f#32, 0x4a7484aa#32, 0x5cb0a9dc#32, 0x76f988da#32, 0x983e5152#32, 0xa831c66d#32, 0xb00327c8#32, 0xbf597fc7#32, 0xc6e00bf3#32, 0xd5a79147#32, 0x06ca6351#32, 0x14292967#32, 0x27b70a85#32, 0x2e1b2138#32, 0x4d2c6dfc#32, 0x53380d13#32, 0x650a7354#32, 0x766a0abb#32, 0x81c2c92e#32, 0x92722c85#32, 0xa2bfe8a1#32, 0xa81a664b#32, 0xc24b8b70#32, 0xc76c51a3#32, 0xd192e819#32, 0xd6990624#32, 0xf40e3585#32, 0x106aa070#32, 0x19a4c116#32, 0x1e376c08#32, 0x2748774c#32, 0x34b0bcb5#32, 0x391c0cb3#32, 0x4ed8aa4a#32, 0x5b9cca4f#32, 0x682e6ff3#32, 0x748f82ee#32, 0x78a5636f#32, 0x84c87814#32, 0x8cc70208#32, 0x90befffa#32, 0xa4506ceb#32, 0xbef9a3f7#32, 0xc67178f2#32]
def first8 : List W := [0x6a09e667#32, 0xbb67ae85#32, 0x3c6ef372#32, 0xa54ff53a#32, 0x510e527f#32, 0x9b05688c#32, 0x1f83d9ab#32, 0x5be0cd19#32]
structure R8 where
  a : W
  b : W
  c : W
  d : W
  e : W
  f : W
  g : W
  h : W
def R8.list (r : R8) : List W := [r.a, r.b, r.c, r.d, r.e, r.f, r.g, r.h]
def R8.get (s : List W) : R8 := ⟨s.getD 0 0, s.getD 1 0, s.getD 2 0, s.getD 3 0, s.getD 4 0, s.getD 5 0, s.getD 6 0, s.getD 7 0⟩
def pOf (r : R8) (k x : W) : W := r.h + (rotr r.e 6 ^^^ rotr r.e 11 ^^^ rotr r.e 25) + (r.e &&& r.f ^^^ ~~~r.e &&& r.g) + k + x
def qOf (r : R8) : W := (rotr r.a 2 ^^^ rotr r.a 13 ^^^ rotr r.a 22) + (r.a &&& r.b ^^^ r.a &&& r.c ^^^ r.b &&& r.c)
def round (r : R8) (k x : W) : R8 := ⟨pOf r k x + qOf r, r.a, r.b, r.c, r.d + pOf r k x, r.e, r.f, r.g⟩
def rounds (ks ws : List W) (r : R8) : Nat → R8
  | 0 => r
  | t + 1 => round (rounds ks ws r t) (ks.getD t 0) (ws.getD t 0)
def addStep (l r : List W) (i : Nat) : List W := l.set i (l.getD i 0 + r.getD i 0)
def addUpto (l r : List W) : Nat → List W
  | 0 => l
  | i + 1 => addStep (addUpto l r i) r i
theorem addUpto_length (l r : List W) (i : Nat) : (addUpto l r i).length = l.length := by
  induction i with
  | zero => rfl
  | succ i ih => simp [addUpto, addStep, ih]
def behindOf (s ks : List W) (zs : List Int) : List W := addUpto s (rounds ks (wordsOf zs) (R8.get s) 64).list 8
theorem behindOf_eq (s ks : List W) (zs : List Int) : behindOf s ks zs = addUpto s (rounds ks (wordsOf zs) (R8.get s) 64).list 8 := rfl
theorem behindOf_length (s ks : List W) (zs : List Int) : (behindOf s ks zs).length = s.length := by rw [behindOf, addUpto_length]
theorem wordsOf_length (zs : List Int) : (wordsOf zs).length = 64 := by rw [wordsOf_eq, ext_length, fill_length]
theorem eight (s : List W) (h : s.length = 8) : ∃ a b c d e f g h, s = [a, b, c, d, e, f, g, h] := by
  match s, h with
  | [a, b, c, d, e, f, g, h], _ => exact ⟨a, b, c, d, e, f, g, h, rfl⟩
theorem get_eight (a b c d e f g h : W) : R8.get [a, b, c, d, e, f, g, h] = ⟨a, b, c, d, e, f, g, h⟩ := rfl
theorem rounds_zero (ks ws : List W) (r : R8) : rounds ks ws r 0 = r := rfl
theorem rounds_succ (ks ws : List W) (r : R8) (t : Nat) (a b c d e f g h k x : W) (hr : rounds ks ws r t = ⟨a, b, c, d, e, f, g, h⟩) (hk : k = ks.getD t 0) (hx : x = ws.getD t 0) :
    rounds ks ws r (t + 1) = ⟨h + (rotr e 6 ^^^ rotr e 11 ^^^ rotr e 25) + (e &&& f ^^^ ~~~e &&& g) + k + x + ((rotr a 2 ^^^ rotr a 13 ^^^ rotr a 22) + (a &&& b ^^^ a &&& c ^^^ b &&& c)), a, b, c, d + (h + (rotr e 6 ^^^ rotr e 11 ^^^ rotr e 25) + (e &&& f ^^^ ~~~e &&& g) + k + x), e, f, g⟩ := by
  subst hk hx; rw [rounds, hr]; rfl
theorem addUpto_zero (l r : List W) : addUpto l r 0 = l := rfl
theorem addUpto_succ (l r : List W) (i : Nat) (x y : W) (hx : x = (addUpto l r i).getD i 0) (hy : y = r.getD i 0) :
    (addUpto l r (i + 1)).map v32 = ((addUpto l r i).map v32).set i (v32 (x + y)) := by
  subst hx hy; simp [addUpto, addStep, List.map_set]
/-! ### All blocks -/
def part (zs : List Int) (i : Nat) : List Int := (zs.take ((i + 1) * 64)).drop (i * 64)
def thru (s ks : List W) (zs : List Int) : Nat → List W
  | 0 => s
  | i + 1 => behindOf (thru s ks zs i) ks (part zs i)
theorem thru_zero (s ks : List W) (zs : List Int) : thru s ks zs 0 = s := rfl
theorem thru_succ (s ks : List W) (zs : List Int) (i : Nat) : thru s ks zs (i + 1) = behindOf (thru s ks zs i) ks (part zs i) := rfl
theorem thru_length (s ks : List W) (zs : List Int) (i : Nat) : (thru s ks zs i).length = s.length := by
  induction i with
  | zero => rfl
  | succ i ih => rw [thru_succ, behindOf_length, ih]
theorem part_length (zs : List Int) (i : Nat) (h : (i + 1) * 64 ≤ zs.length) : (part zs i).length = 64 := by simp [part]; omega
theorem part_mem (zs : List Int) (i : Nat) (P : Int → Prop) (h : ∀ n ∈ zs, P n) : ∀ n ∈ part zs i, P n := fun n hn => h n (List.mem_of_mem_take (List.mem_of_mem_drop hn))
theorem part_map (zs : List Int) (i : Nat) (f : Int → Value) : ((zs.map f).take ((i + 1) * 64)).drop (i * 64) = (part zs i).map f := by simp [part, List.map_take, List.map_drop]
attribute [irreducible] thru fill ext wordsOf rounds addUpto behindOf kList first8
end Sha
end
section
set_option linter.unusedSimpArgs false
set_option linter.unusedVariables false
/-- A word: a node's number, a status, an incarnation. -/
structure Mb where
  I : Int
  S : Int
  N : Int
theorem Mb.ext' {a b : Mb} (h1 : a.I = b.I) (h2 : a.S = b.S) (h3 : a.N = b.N) : a = b := by cases a; cases b; cases h1; cases h2; cases h3; rfl
instance : DecidableEq Mb := fun a b =>
  if h : a.I = b.I ∧ a.S = b.S ∧ a.N = b.N then isTrue (Mb.ext' h.1 h.2.1 h.2.2) else isFalse (fun e => h (by subst e; exact ⟨rfl, rfl, rfl⟩))
theorem Mb.eq_iff (a b : Mb) : a = b ↔ a.I = b.I ∧ a.S = b.S ∧ a.N = b.N := ⟨fun e => by subst e; exact ⟨rfl, rfl, rfl⟩, fun h => Mb.ext' h.1 h.2.1 h.2.2⟩
structure Mb.ok (m : Mb) : Prop where
  i : -9223372036854775808 ≤ m.I ∧ m.I ≤ 9223372036854775807
  s : -9223372036854775808 ≤ m.S ∧ m.S ≤ 9223372036854775807
  n : -9223372036854775808 ≤ m.N ∧ m.N ≤ 9223372036854775807
namespace Mb
def none : Mb := ⟨0, 0, 0⟩
theorem none_ok : none.ok := ⟨by decide, by decide, by decide⟩
def May (m : Mb) : Prop := (1 ≤ m.I ∧ m.I ≤ 64) ∧ (1 ≤ m.S ∧ m.S ≤ 4) ∧ 0 ≤ m.N ∧ m.N ≤ 2147483647
instance (m : Mb) : Decidable m.May := by unfold May; infer_instance
def err (m : Mb) : Int := if m.May then 0 else 2
def Both (a b : Mb) : Prop := a.May ∧ b.May ∧ a.I = b.I
instance (a b : Mb) : Decidable (Both a b) := by unfold Both; infer_instance
def berr (a b : Mb) : Int := if Both a b then 0 else 2
/-- Of two words about one node. -/
def Up (a b : Mb) : Prop := b.N < a.N ∨ a.N = b.N ∧ b.S < a.S
instance (a b : Mb) : Decidable (Up a b) := by unfold Up; infer_instance
def Over (a b : Mb) : Prop := Both a b ∧ Up a b
instance (a b : Mb) : Decidable (Over a b) := by unfold Over; infer_instance
def merge (a b : Mb) : Mb := if Both a b then (if Up a b then a else b) else none
def live (m : Mb) : Bool := decide (m.S = 1 ∨ m.S = 2)
/-- What a node is behind a word about itself, whether it is told, and why not. -/
def refute (me w : Mb) : Mb × Bool × Int :=
  if ¬ Both me w ∨ me.S ≠ 1 then (none, false, 2)
  else if w.S = 1 then (⟨me.I, me.S, if me.N < w.N then w.N else me.N⟩, false, 0)
  else if w.N < me.N then (me, false, 0)
  else if w.N = 2147483647 then (none, false, 5)
  else (⟨me.I, me.S, w.N + 1⟩, true, 0)
theorem Both.symm {a b : Mb} (h : a.Both b) : b.Both a := ⟨h.2.1, h.1, h.2.2.symm⟩
theorem up_not {a b : Mb} (h : a.Up b) : ¬ b.Up a := by unfold Up at *; omega
theorem up_trans {a b c : Mb} (h : a.Up b) (h2 : b.Up c) : a.Up c := by unfold Up at *; omega
theorem up_or {a b : Mb} (h : a.I = b.I) : a.Up b ∨ b.Up a ∨ a = b := by
  rw [eq_iff]; unfold Up; omega
theorem merge_left {a b : Mb} (h : a.Both b) (hn : ¬ b.Up a) : merge a b = a := by
  unfold merge
  rw [if_pos h]
  split
  · rfl
  · rcases up_or h.2.2 with x | x | x
    · contradiction
    · contradiction
    · exact x.symm
theorem May.ok {m : Mb} (h : m.May) : m.ok := by
  obtain ⟨h1, h2, h3⟩ := h
  exact ⟨by omega, by omega, by omega⟩
theorem merge_ok (a b : Mb) : (merge a b).ok := by
  unfold merge
  split
  · rename_i h
    split
    · exact h.1.ok
    · exact h.2.1.ok
  · exact none_ok
theorem refute_ok (a b : Mb) : (refute a b).1.ok := by
  unfold refute
  split
  · exact none_ok
  · rename_i h
    have hb : Both a b := Classical.byContradiction fun hn => h (Or.inl hn)
    have h1 := hb.1.ok
    have h2 := hb.2.1.ok
    have h3 : b.N ≤ 2147483647 := hb.2.1.2.2.2
    split
    · refine ⟨h1.i, h1.s, ?_⟩
      show -9223372036854775808 ≤ (if a.N < b.N then b.N else a.N) ∧ (if a.N < b.N then b.N else a.N) ≤ 9223372036854775807
      split
      · exact h2.n
      · exact h1.n
    · split
      · exact h1
      · split
        · exact none_ok
        · have := h2.n
          exact ⟨h1.i, h1.s, by show -9223372036854775808 ≤ b.N + 1 ∧ b.N + 1 ≤ 9223372036854775807; omega⟩
end Mb
end
section
set_option linter.unusedSimpArgs false
set_option linter.unusedVariables false
variable {P : Program}
/-- The block g holds the cells cs, each of which may be written. -/
def Blk (w : World) (g : Nat) (cs : List Value) (t : TypeId) : Prop := w.heap[g]? = some (.cells cs.toArray t (0, 0))
theorem Blk.new (w : World) (cs : Array Value) (t : TypeId) : Blk (w.alloc (.cells cs t)) w.heap.size cs.toList t := by
  unfold Blk; rw [heap_alloc_new]
theorem Blk.old {w : World} {g : Nat} {cs : List Value} {t : TypeId} (h : Blk w g cs t) (o : Obj) : Blk (w.alloc o) g cs t := by
  have hlt : g < w.heap.size := by
    by_cases hlt : g < w.heap.size
    · exact hlt
    · unfold Blk at h; rw [Array.getElem?_eq_none (by omega)] at h; cases h
  unfold Blk; rw [RowKit.Below.heap_alloc _ _ _ hlt]; exact h
theorem Blk.lt {w : World} {g : Nat} {cs : List Value} {t : TypeId} (h : Blk w g cs t) : g < w.heap.size := by
  by_cases hlt : g < w.heap.size
  · exact hlt
  · unfold Blk at h; rw [Array.getElem?_eq_none (by omega)] at h; cases h
theorem Blk.drew {w : World} {g : Nat} {cs : List Value} {t : TypeId} (h : Blk w g cs t) : Blk w.drew g cs t := h
theorem Blk.drewN {w : World} {g : Nat} {cs : List Value} {t : TypeId} (h : Blk w g cs t) (n : Nat) : Blk (w.drewN n) g cs t := h
theorem Blk.below {w w' : World} {B g : Nat} {cs : List Value} {t : TypeId} (h : Blk w g cs t) (hb : RowKit.Below B w w') (hg : g < B) : Blk w' g cs t := by
  unfold Blk; rw [hb.block g hg]; exact h
theorem Blk.cell {w : World} {g : Nat} {cs : List Value} {t : TypeId} (h : Blk w g cs t) (i : Nat) : w.cell? ⟨g, i, none⟩ = cs[i]? := by
  rw [cell_of_row w g i cs.toArray t (0, 0) h]; simp
theorem Blk.free {w : World} {g : Nat} {cs : List Value} {t : TypeId} (h : Blk w g cs t) (i : Nat) : w.frozen? ⟨g, i, none⟩ = false := frozen_of_row w g i _ t h
theorem Blk.set {w : World} {g : Nat} {cs : List Value} {t : TypeId} (h : Blk w g cs t) (i : Nat) (v : Value) : Blk (w.setCell ⟨g, i, none⟩ v) g (cs.set i v) t := by
  unfold Blk; rw [heap_setCell_same w g i _ t v h]; simp
theorem Blk.setOther {w : World} {g : Nat} {cs : List Value} {t : TypeId} (h : Blk w g cs t) (a : Addr) (v : Value) (hn : g ≠ a.block) : Blk (w.setCell a v) g cs t := by
  unfold Blk; rw [heap_setCell_other w a g v hn]; exact h
theorem Blk.row {w : World} {g : Nat} {cs : List Value} {t : TypeId} (h : Blk w g cs t) (cs' : List Value) : Blk (w.setRow g cs'.toArray) g cs' t := setRow_heap w g _ _ t (0, 0) h
theorem Blk.rowOther {w : World} {g k : Nat} {cs : List Value} {t : TypeId} (h : Blk w g cs t) (cs' : Array Value) (hn : g ≠ k) : Blk (w.setRow k cs') g cs t := by
  unfold Blk; rw [setRow_other w k g cs' hn]; exact h
theorem below_drewN {B : Nat} {a w : World} (h : RowKit.Below B a w) (n : Nat) : RowKit.Below B a (w.drewN n) := ⟨h.os, h.tape, h.output, h.size, h.block⟩
theorem Below.setRow {B : Nat} {a w : World} (h : RowKit.Below B a w) {g : Nat} (hg : B ≤ g) (cs : Array Value) : RowKit.Below B a (w.setRow g cs) :=
  h.trans ⟨rfl, rfl, rfl, by simp, fun k hk => setRow_other w g k cs (by omega)⟩

theorem still_of_quiet {ops : Array Oper} {w : World} {Q : Act → Prop} : ∀ (l : List Oper) (a : Act), wpQuiet P ops (fun w' => w' = w) Q l a → wpStill P ops w Q l a
  | [], _, h => h
  | o :: rest, a, h => by
    unfold wpQuiet at h
    unfold wpStill
    split
    · rename_i hw
      rw [if_pos hw] at h
      obtain ⟨v, h1, h2⟩ := h
      have h3 := h1 w rfl
      have h4 := still_of_quiet rest _ h2
      unfold Oper.quietAt at h3
      unfold Oper.still
      generalize (execOp a.eval o).run P w = r at *
      cases r with
      | ok n w' =>
        cases n <;> simp only [Oper.quietUpon] at h3 <;> simp only [Oper.stillUpon]
        case value u => obtain ⟨e1, e2⟩ := h3; subst e2; exact ⟨e1, h4⟩
        case skip => obtain ⟨e1, e2⟩ := h3; subst e2; exact ⟨e1, h4⟩
        case enter f args => exact ⟨h3.1, v, h3.2, h4⟩
      | halt x w' => simp only [Oper.quietUpon] at h3
    · rename_i hw
      rw [if_neg hw] at h
      exact still_of_quiet rest _ h
/-- A region that draws its order: a head that reads and calls quietly, a tail whose order is forced. -/
theorem region_tail {id : Nat} {Q : Exit → Act → World → Prop} {a : Act} {w : World} {l : List Oper} (n : Nat) (hm : P.follows .mixedOrders = true) (hB : Region.lexTailB .any l.toArray n = true)
    (h : wpQuiet P l.toArray (fun w' => w' = w.drew) (fun a' => wpList P l.toArray Q (l.drop n) a' w.drew) (l.take n) a) : (Code.region id l.toArray true).wp P Q a w :=
  wp_region_still_tail n hm hB (still_of_quiet _ _ h)
/-- Two variables of a statement that draws its order: what is known of them while it runs. -/
structure Two (w0 : World) (B : Nat) (d1 d2 : Bool) (t1 t2 : TypeId) (c1 c2 : List Value) (g1 g2 : Nat) (wv : World) : Prop where
  below : RowKit.Below B w0 wv
  size : B ≤ wv.heap.size
  one : d1 = true → B ≤ g1 ∧ Blk wv g1 c1 t1
  two : d2 = true → B ≤ g2 ∧ Blk wv g2 c2 t2
  apart : d1 = true → d2 = true → g1 ≠ g2
variable {w0 wv : World} {B g1 g2 : Nat} {d1 d2 : Bool} {t1 t2 : TypeId} {c1 c2 : List Value}
theorem Two.alloc1 (h : Two w0 B false d2 t1 t2 c1 c2 g1 g2 wv) (c : List Value) : Two w0 B true d2 t1 t2 c c2 wv.heap.size g2 (wv.alloc (.cells c.toArray t1)) :=
  ⟨h.below.alloc h.size _, by simp; have := h.size; omega, fun _ => ⟨h.size, by simpa using Blk.new wv c.toArray t1⟩, fun e => ⟨(h.two e).1, (h.two e).2.old _⟩, fun _ e => by have := (h.two e).2.lt; omega⟩
theorem Two.alloc2 (h : Two w0 B d1 false t1 t2 c1 c2 g1 g2 wv) (c : List Value) : Two w0 B d1 true t1 t2 c1 c g1 wv.heap.size (wv.alloc (.cells c.toArray t2)) :=
  ⟨h.below.alloc h.size _, by simp; have := h.size; omega, fun e => ⟨(h.one e).1, (h.one e).2.old _⟩, fun _ => ⟨h.size, by simpa using Blk.new wv c.toArray t2⟩, fun e _ => by have := (h.one e).2.lt; omega⟩
theorem Two.call (h : Two w0 B d1 d2 t1 t2 c1 c2 g1 g2 wv) {w1 : World} (hb : RowKit.Below wv.heap.size wv w1) : Two w0 B d1 d2 t1 t2 c1 c2 g1 g2 w1 :=
  ⟨h.below.trans (hb.mono h.size), Nat.le_trans h.size hb.size, fun e => ⟨(h.one e).1, (h.one e).2.below hb (h.one e).2.lt⟩, fun e => ⟨(h.two e).1, (h.two e).2.below hb (h.two e).2.lt⟩, h.apart⟩
theorem Two.store1 (h : Two w0 B true d2 t1 t2 c1 c2 g1 g2 wv) (c : List Value) : Two w0 B true d2 t1 t2 c c2 g1 g2 (wv.setRow g1 c.toArray) :=
  ⟨Below.setRow h.below (h.one rfl).1 _, by simp; exact h.size, fun _ => ⟨(h.one rfl).1, (h.one rfl).2.row c⟩, fun e => ⟨(h.two e).1, (h.two e).2.rowOther _ (fun e' => h.apart rfl e e'.symm)⟩, h.apart⟩
theorem Two.store2 (h : Two w0 B d1 true t1 t2 c1 c2 g1 g2 wv) (c : List Value) : Two w0 B d1 true t1 t2 c1 c g1 g2 (wv.setRow g2 c.toArray) :=
  ⟨Below.setRow h.below (h.two rfl).1 _, by simp; exact h.size, fun e => ⟨(h.one e).1, (h.one e).2.rowOther _ (h.apart e rfl)⟩, fun _ => ⟨(h.two rfl).1, (h.two rfl).2.row c⟩, h.apart⟩
section
variable {ops : Array Oper} {rest : List Oper} {o : Oper} {a : Act} {w : World} {Q : Exit → Act → World → Prop}
variable {K : Act → World → Prop}
theorem wp_alloc_arr (ty : TypeId) (ho : o.op = .alloc ty) (cs : Array Value) (hz : (P.info? ty).map (fun i => i.zero) = some (some (.agg cs)))
    (h : K (a.put o.dst (.pointer (some ⟨w.heap.size, 0, none⟩))) (w.alloc (.cells cs ty))) : o.wp P a w K Q := by
  unfold Oper.wp execOp
  have hz' : (zeroValue ty).run P w = .ok (.agg cs) w := by
    cases hq : P.info? ty with
    | none => simp [hq] at hz
    | some i => simp [hq] at hz; simp [zeroValue, typeInfo, hq, hz]
  simp only [ho, Instr.alloc, Sem.run_bind, hz', Result.andThen_ok, Sem.run_pure]
  exact h
/-- One step of a region that draws its order. -/
theorem ready_step {md : Region.Mode} {fuel : Nat} {listed : Array Bool} {i : Nat} {o : Oper} {rs : List Nat} (ho : ops[i]? = some o) (hw : Region.wanted o (yielded ops a.tmps) = true)
    (h : ∀ K : Act → World → Prop, (∀ a w, wpAny P md ops Q fuel (listed.setIfInBounds i true) a w → K a w) → o.wp P a w K Q)
    (hs : AllReady P md ops Q fuel listed a w rs) : AllReady P md ops Q fuel listed a w (i :: rs) :=
  AllReady.cons ho (fun K hK => by rw [if_pos hw]; exact h K hK) hs
/-- The same where a fact S on the memory is held. -/
theorem ready_stepH {md : Region.Mode} {S : World → Prop} {fuel : Nat} {listed : Array Bool} {i : Nat} {o : Oper} {rs : List Nat} (ho : ops[i]? = some o) (hw : Region.wanted o (yielded ops a.tmps) = true)
    (h : ∀ K : Act → World → Prop, (∀ a w, S w → wpAnyH P md ops Q S fuel (listed.setIfInBounds i true) a w → K a w) → o.wp P a w K Q)
    (hs : AllReadyH P md ops Q S fuel listed a w rs) : AllReadyH P md ops Q S fuel listed a w (i :: rs) :=
  AllReadyH.cons ho (fun K hK => by rw [if_pos hw]; exact h K (fun a w hS h' => hK.out a w hS (fun _ => h'))) hs
/-- A whole array is loaded: in whatever world holds it. -/
theorem yieldsIf_load_row {S : World → Prop} {o : Oper} {a : Act} (hw : Region.wanted o (yielded ops a.tmps) = true) (ty : TypeId) (x : Operand) (ho : o.op = .load ty x)
    (g : Nat) (hx : a.eval x = .pointer (some ⟨g, 0, none⟩)) (cs : List Value) (t : TypeId) (d : TypeDesc) (hS : ∀ w, S w → Blk w g cs t)
    (hu : P.underlying ty = some d) (hd : (match d with | .struct _ | .array _ _ => true | _ => false) = true) (hi : (P.info? ty).map (·.size) = some cs.toArray.size) : YieldsIf P ops S o (.agg cs.toArray) a :=
  .inl ⟨hw, fun w hw' => by
    unfold execOp
    simp only [ho, hx, Instr.loadAt, Instr.sureAddr, Sem.run_bind, Sem.run_pure, Result.andThen_ok, run_loadVar_row w g t ty cs.toArray (0, 0) d (hS w hw') hu hd hi]⟩
theorem wpList_alloc_arr (hgd : o.guard = none) (ty : TypeId) (ho : o.op = .alloc ty) (cs : Array Value) (hz : (P.info? ty).map (fun i => i.zero) = some (some (.agg cs)))
    (h : wpList P ops Q rest (a.put o.dst (.pointer (some ⟨w.heap.size, 0, none⟩))) (w.alloc (.cells cs ty))) : wpList P ops Q (o :: rest) a w := by
  exact wpList_plain hgd fun K hK => wp_alloc_arr ty ho cs hz (hK _ _ h)
theorem wpList_box_arr (hgd : o.guard = none) (ty : TypeId) (x : Operand) (ho : o.op = .box ty x) (cs : Array Value) (hx : a.eval x = .agg cs)
    (h : wpList P ops Q rest (a.put o.dst (.pointer (some ⟨w.heap.size, 0, none⟩))) (w.alloc (.cells cs ty))) : wpList P ops Q (o :: rest) a w := by
  refine wpList_plain hgd fun K hK => ?_
  unfold Oper.wp execOp
  simp only [ho, hx, Instr.box, Sem.run_bind, Result.andThen_ok, Sem.run_pure]
  exact hK _ _ h
theorem wpList_build' (hg : o.guard = none) (t : TypeId) (parts : Array (Nat × Operand)) (ho : o.op = .build t parts) (cs : Array Value)
    (hf : P.built t (parts.map fun (i, x) => (i, a.eval x)).toList = some cs)
    (h : wpList P ops Q rest (a.put o.dst (.agg cs)) w) : wpList P ops Q (o :: rest) a w :=
  wpList_build hg t parts ho (by rw [hf]; rfl) (by rw [hf]; exact h)
theorem run_index_arr (ty : TypeId) (cs : Array Value) (i : Int) (n : Nat) (elem : TypeId) (hu : P.underlying ty = some (.array n elem)) (d : TypeDesc) (hue : P.underlying elem = some d)
    (hna : (match d with | .struct _ | .array _ _ => true | _ => false) = false) (he : (P.info? elem).map (fun i => i.size) = some 1) (hi : 0 ≤ i ∧ i < n) (v : Value) (hv : cs[i.toNat]? = some v) (w : World) :
    (Instr.index ty (.agg cs) (.int .i64 i)).run P w = .ok v w := by
  have h2 : (sizeOf elem).run P w = .ok 1 w := by
    cases hq : P.info? elem with
    | none => simp [hq] at he
    | some j => simp [hq] at he; simp [sizeOf, typeInfo, hq, he]
  have hagg : (isAgg elem).run P w = .ok false w := by
    unfold isAgg
    rw [Sem.run_bind, run_underlying hue w]
    cases d <;> simp_all
  simp [Instr.index, asIntOf, run_underlying hu, hi, h2, part, hagg, hv]
theorem wpList_index_arr (hgd : o.guard = none) (ty : TypeId) (x ix : Operand) (ho : o.op = .index ty x ix) (cs : Array Value) (hx : a.eval x = .agg cs) (i : Int) (hi : a.eval ix = .int .i64 i)
    (n : Nat) (elem : TypeId) (hu : P.underlying ty = some (.array n elem)) (d : TypeDesc) (hue : P.underlying elem = some d)
    (hna : (match d with | .struct _ | .array _ _ => true | _ => false) = false) (he : (P.info? elem).map (fun i => i.size) = some 1) (hlt : 0 ≤ i ∧ i < n) (v : Value) (hv : cs[i.toNat]? = some v)
    (h : wpList P ops Q rest (a.put o.dst v) w) : wpList P ops Q (o :: rest) a w := by
  refine wpList_plain hgd fun K hK => ?_
  unfold Oper.wp execOp
  simp only [ho, hx, hi, Sem.run_bind, run_index_arr ty cs i n elem hu d hue hna he hlt v hv, Result.andThen_ok, Sem.run_pure]
  exact hK _ _ h
end
end
end Go.Proofs.Ytocfcfoocmkkdaa
