/-
  What lots are asked to do, the program's and the reference's alike: a structure over their functions' numbers.
-/
import Derived.Test.YtfoomffbjjcjjaaLot
import Derived.Test.YtfoomffbjjcjjaaObj
import Derived.Test.YtfoomffbjjcjjaaNums
namespace Go.Proofs.Ytfoomffbjjcjjaa
set_option linter.unusedSimpArgs false
set_option linter.unusedVariables false
open Go.RowKit Sha Lot
/-- How lots lie in memory: at a block, over some blocks, which lots, how many used. -/
abbrev LotRep := World → Nat → List Nat → List Int → Nat → Prop
abbrev lptr (b : Nat) : Value := .pointer (some ⟨b, 0, none⟩)
/-- A call on lots: what it answers, what they are behind it. -/
def OpDone (R : LotRep) (b : Nat) (fp : List Nat) (L : List Int) (N : Nat) (v : Value) (w : World) (e : Ending) (w' : World) : Prop :=
  e = .returned v ∧ ∃ fp', R w' b fp' L N ∧ Touch fp w w' ∧ From fp fp' w
def ShufDone (R : LotRep) (b : Nat) (fp : List Nat) (L : List Int) (N : Nat) (xs : List Int) (w : World) (e : Ending) (w' : World) : Prop :=
  ∃ v fp', e = .returned v ∧ Own64 w' w.heap.size 3 v xs.length (xs.map v64) ∧ R w' b fp' L N ∧ Touch fp w w' ∧ From fp fp' w ∧ ∀ g, v.ownBlock = some g → g ∉ fp'
def NewDone (R : LotRep) (L : List Int) (w : World) (e : Ending) (w' : World) : Prop :=
  Below w.heap.size w w' ∧ ((newErr L = 0 ∧ ∃ b fp, e = .returned (.tuple #[lptr b, .int .i64 0]) ∧ R w' b fp L 0 ∧ ∀ k ∈ fp, w.heap.size ≤ k) ∨ (newErr L ≠ 0 ∧ e = .returned (.tuple #[.pointer none, .int .i64 (newErr L)])))
structure LotOK (fN fD fP fS : Nat) (R : LotRep) : Prop where
  lots : ∀ {w b fp L N}, R w b fp L N → L.length ≤ 1000 ∧ (∀ n ∈ L, 0 ≤ n) ∧ (∀ n ∈ L, n ≤ 9223372036854775807)
  low : ∀ {w b fp L N}, R w b fp L N → ∀ k ∈ fp, k < w.heap.size
  keep : ∀ {w w' : World} {b fp L N}, R w b fp L N → (∀ k ∈ fp, w'.heap[k]? = w.heap[k]?) → R w' b fp L N
  new : ∀ (zs : List Int) (n : Nat) (p : Option Addr) (cap : Nat) (w : World), zs.length = n → GoodN w zs p cap → Calls Try.prog fN #[.slice p n cap] w (NewDone R zs w)
  draw : ∀ (b : Nat) (fp : List Nat) (L : List Int) (N : Nat) (w : World), R w b fp L N → N ≤ 1000000000 → Calls Try.prog fD #[lptr b] w (OpDone R b fp L (N + 1) (v64 (lotAt L N)) w)
  pick : ∀ (b : Nat) (fp : List Nat) (L : List Int) (N : Nat) (n : Int) (w : World), R w b fp L N → N ≤ 1000000000 → -9223372036854775808 ≤ n ∧ n ≤ 9223372036854775807 → Calls Try.prog fP #[lptr b, .int .i64 n] w (OpDone R b fp L (N + pickN n) (v64 (pickV L N n)) w)
  shuffle : ∀ (b : Nat) (fp : List Nat) (L : List Int) (N : Nat) (m : Nat) (w : World), R w b fp L N → N ≤ 1000000000 → m ≤ 100 → Calls Try.prog fS #[lptr b, .int .i64 m] w (ShufDone R b fp L (N + shufN m) (shuf L N m) w)
structure LotUsed (fU : Nat) (R : LotRep) : Prop where
  used : ∀ (b : Nat) (fp : List Nat) (L : List Int) (N : Nat) (w : World), R w b fp L N → N ≤ 1000000000 → Calls Try.prog fU #[lptr b] w (OpDone R b fp L N (v64 N) w)
end Go.Proofs.Ytfoomffbjjcjjaa
