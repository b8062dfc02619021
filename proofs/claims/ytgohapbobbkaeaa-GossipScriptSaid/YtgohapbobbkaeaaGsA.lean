/-
  What a buffer of words is asked to do, the program's and the reference's alike: a structure over its functions' numbers.
-/
import Derived.Test.YtgohapbobbkaeaaGs
import Derived.Test.YtgohapbobbkaeaaObj2
import Derived.Test.YtgohapbobbkaeaaWRow
import Derived.Test.YtgohapbobbkaeaaNums
namespace Go.Proofs.Ytgohapbobbkaeaa
set_option linter.unusedSimpArgs false
set_option linter.unusedVariables false
open Go.RowKit Sha
/-- A buffer's state: of how many nodes, its words in the order in which they are told. -/
abbrev GRepT := ObjRep (Nat × List Tl)
def GNewDone (R : GRepT) (n : Int) (w : World) (e : Ending) (w' : World) : Prop :=
  Below w.heap.size w w' ∧ (((1 ≤ n ∧ n ≤ 64) ∧ ∃ b fp, e = .returned (.tuple #[optr b, v64 0]) ∧ R w' b fp (n.toNat, []) ∧ ∀ k ∈ fp, w.heap.size ≤ k) ∨ (¬ (1 ≤ n ∧ n ≤ 64) ∧ e = .returned (.tuple #[.pointer none, v64 2])))
def GQDone (v : Value) (w : World) (e : Ending) (w' : World) : Prop := e = .returned v ∧ ∃ k, w' = w.drewN k
/-- The words told, as new memory. -/
def GTakeDone (R : GRepT) (b : Nat) (fp : List Nat) (N : Nat) (l : List Tl) (n : Int) (w : World) (e : Ending) (w' : World) : Prop :=
  ∃ v fp', e = .returned v ∧ w'.ownsRow w.heap.size mt 3 v (Gs.told l n).length ((Gs.told l n).flatMap mc) ∧ R w' b fp' (N, Gs.left N l n) ∧ Touch fp w w' ∧ From fp fp' w ∧ ∀ g, v.ownBlock = some g → g ∉ fp'
structure GossipOK (fN fA fT fL fM : Nat) (R : GRepT) : Prop where
  held : Held R
  ok : ∀ {w b fp N l}, R w b fp (N, l) → Gs.OK N l
  new : ∀ (n : Int) (w : World), -9223372036854775808 ≤ n ∧ n ≤ 9223372036854775807 → Calls Try.prog fN #[v64 n] w (GNewDone R n w)
  add : ∀ (b : Nat) (fp : List Nat) (N : Nat) (l : List Tl) (m : Mb) (w : World), R w b fp (N, l) → Calls Try.prog fA #[optr b, mv m] w (ODone R b fp (N, (Gs.add N l m).1) (.tuple #[.bool (Gs.add N l m).2.1, v64 (Gs.add N l m).2.2]) w)
  take : ∀ (b : Nat) (fp : List Nat) (N : Nat) (l : List Tl) (n : Int) (w : World), R w b fp (N, l) → -9223372036854775808 ≤ n ∧ n ≤ 9223372036854775807 → Calls Try.prog fT #[optr b, v64 n] w (GTakeDone R b fp N l n w)
  len : ∀ (b : Nat) (fp : List Nat) (N : Nat) (l : List Tl) (w : World), R w b fp (N, l) → Calls Try.prog fL #[optr b] w (GQDone (v64 l.length) w)
  lim : ∀ (b : Nat) (fp : List Nat) (N : Nat) (l : List Tl) (w : World), R w b fp (N, l) → Calls Try.prog fM #[optr b] w (GQDone (v64 (Gs.lim N)) w)
end Go.Proofs.Ytgohapbobbkaeaa
