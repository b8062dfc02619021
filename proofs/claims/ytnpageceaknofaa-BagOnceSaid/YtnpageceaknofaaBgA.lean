/-
  What a bag is asked to do, of numbers and of texts, the program's and the reference's alike: a structure over its functions' numbers.
-/
import Derived.Test.YtnpageceaknofaaBag
import Derived.Test.YtnpageceaknofaaObj2
import Derived.Test.YtnpageceaknofaaNums
namespace Go.Proofs.Ytnpageceaknofaa
set_option linter.unusedSimpArgs false
set_option linter.unusedVariables false
open Go.RowKit Sha Bag
/-- A bag's state: its room, its things. -/
abbrev BagRep (α : Type) := ObjRep (Nat × List α)
/-- A kind of things: how one lies in memory, the zero one, which ones there are. -/
structure Kind (α : Type) where
  enc : α → Value
  zero : α
  fit : α → Prop
  okz : fit zero
def numK : Kind Int := ⟨v64, 0, fun n => -9223372036854775808 ≤ n ∧ n ≤ 9223372036854775807, by omega⟩
def textK : Kind ByteArray := ⟨.string, .empty, fun _ => True, trivial⟩
variable {α : Type}
def BNewDone (R : BagRep α) (n : Int) (w : World) (e : Ending) (w' : World) : Prop :=
  Below w.heap.size w w' ∧ ((newE n = 0 ∧ ∃ b fp, e = .returned (.tuple #[optr b, v64 0]) ∧ R w' b fp (n.toNat, []) ∧ ∀ k ∈ fp, w.heap.size ≤ k) ∨ (newE n = 2 ∧ e = .returned (.tuple #[.pointer none, v64 2])))
structure BagOK (K : Kind α) (fN fP fT fA : Nat) (R : BagRep α) : Prop where
  held : Held R
  ok : ∀ {w b fp m l}, R w b fp (m, l) → l.length ≤ m ∧ m ≤ 2000 ∧ ∀ x ∈ l, K.fit x
  new : ∀ (n : Int) (w : World), -9223372036854775808 ≤ n ∧ n ≤ 9223372036854775807 → Calls Try.prog fN #[v64 n] w (BNewDone R n w)
  put : ∀ (b : Nat) (fp : List Nat) (m : Nat) (l : List α) (x : α) (w : World), R w b fp (m, l) → K.fit x → Calls Try.prog fP #[optr b, K.enc x] w (ODone R b fp (m, putL m l x) (v64 (putE m l)) w)
  take : ∀ (b : Nat) (fp : List Nat) (m : Nat) (l : List α) (i : Int) (w : World), R w b fp (m, l) → -9223372036854775808 ≤ i ∧ i ≤ 9223372036854775807 → Calls Try.prog fT #[optr b, v64 i] w (ODone R b fp (m, takeL l i) (.tuple #[K.enc (atV K.zero l i), v64 (atE l i)]) w)
  at_ : ∀ (b : Nat) (fp : List Nat) (m : Nat) (l : List α) (i : Int) (w : World), R w b fp (m, l) → -9223372036854775808 ≤ i ∧ i ≤ 9223372036854775807 → Calls Try.prog fA #[optr b, v64 i] w (ODone R b fp (m, l) (.tuple #[K.enc (atV K.zero l i), v64 (atE l i)]) w)
def QDone (v : Value) (w : World) (e : Ending) (w' : World) : Prop := e = .returned v ∧ ∃ k, w' = w.drewN k
/-- A list of a bag's things, told as new memory. -/
def AllDone (K : Kind α) (own : World → Nat → Value → List α → Prop) (R : BagRep α) (b : Nat) (fp : List Nat) (m : Nat) (l : List α) (w : World) (e : Ending) (w' : World) : Prop :=
  ∃ v fp', e = .returned v ∧ own w' w.heap.size v l ∧ R w' b fp' (m, l) ∧ Touch fp w w' ∧ From fp fp' w ∧ ∀ g, v.ownBlock = some g → g ∉ fp'
def CopyDone (R : BagRep α) (b : Nat) (fp : List Nat) (s : Nat × List α) (w : World) (e : Ending) (w' : World) : Prop :=
  ∃ c fp' gp, e = .returned (optr c) ∧ R w' b fp' s ∧ R w' c gp s ∧ Touch fp w w' ∧ From fp fp' w ∧ (∀ k ∈ gp, w.heap.size ≤ k) ∧ Apart fp' gp
structure BagMore (K : Kind α) (own : World → Nat → Value → List α → Prop) (fL fR fA : Nat) (R : BagRep α) : Prop where
  len : ∀ (b : Nat) (fp : List Nat) (m : Nat) (l : List α) (w : World), R w b fp (m, l) → Calls Try.prog fL #[optr b] w (QDone (v64 l.length) w)
  room : ∀ (b : Nat) (fp : List Nat) (m : Nat) (l : List α) (w : World), R w b fp (m, l) → Calls Try.prog fR #[optr b] w (QDone (v64 ((m : Int) - (l.length : Int))) w)
  all : ∀ (b : Nat) (fp : List Nat) (m : Nat) (l : List α) (w : World), R w b fp (m, l) → Calls Try.prog fA #[optr b] w (AllDone K own R b fp m l w)
def ownN (w : World) (B : Nat) (v : Value) (l : List Int) : Prop := Own64 w B 3 v l.length (l.map v64)
/-- What the program's bags of numbers are asked to do. -/
structure NumBagOK (R : BagRep Int) : Prop where
  ok : BagOK numK 8 12 13 20 R
  more : BagMore numK ownN 17 18 15 R
  copy : ∀ (b : Nat) (fp : List Nat) (s : Nat × List Int) (w : World), R w b fp s → Calls Try.prog 11 #[optr b] w (CopyDone R b fp s w)
end Go.Proofs.Ytnpageceaknofaa
