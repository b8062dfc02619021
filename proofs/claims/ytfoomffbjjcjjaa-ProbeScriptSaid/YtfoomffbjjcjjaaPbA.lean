/-
  What rounds are asked to do: a structure over their functions' numbers.
-/
import Derived.Test.YtfoomffbjjcjjaaSlcN
import Derived.Test.YtfoomffbjjcjjaaRd
import Derived.Test.YtfoomffbjjcjjaaLtA
namespace Go.Proofs.Ytfoomffbjjcjjaa
set_option linter.unusedSimpArgs false
set_option linter.unusedVariables false
open Go.RowKit Sha Lot
/-- Lots as an argument: none, or an object. -/
def LArg (LR : LotRep) (w : World) (lv : Value) (fl : List Nat) (Ls : List Int) (N : Nat) : Prop := (lv = .pointer none ∧ fl = [] ∧ Ls = []) ∨ ∃ bl, lv = lptr bl ∧ LR w bl fl Ls N
theorem LArg.bare (LR : LotRep) (w : World) (N : Nat) : LArg LR w (.pointer none) [] [] N := .inl ⟨rfl, rfl, rfl⟩
theorem LArg.nil_inv {LR : LotRep} {w : World} {fl : List Nat} {Ls : List Int} {N : Nat} (h : LArg LR w (.pointer none) fl Ls N) : fl = [] ∧ Ls = [] := by
  rcases h with h | ⟨bl, h, _⟩
  · exact h.2
  · cases h
abbrev PRepT := ObjRep Rd.St
def PbNew (xs : List Int) : Prop := xs.Nodup ∧ ∀ n ∈ xs, 1 ≤ n ∧ n ≤ 64
/-- A call on a round with lots. -/
def PbDone (R : PRepT) (LR : LotRep) (b : Nat) (fp : List Nat) (lv : Value) (fl : List Nat) (Ls : List Int) (s' : Rd.St) (N' : Nat) (v : Value) (w : World) (e : Ending) (w' : World) : Prop :=
  e = .returned v ∧ ∃ fp' fl', R w' b fp' s' ∧ LArg LR w' lv fl' Ls N' ∧ Apart fp' fl' ∧ Touch (fp ++ fl) w w' ∧ From (fp ++ fl) (fp' ++ fl') w
def PbMade (R : PRepT) (LR : LotRep) (xs : List Int) (n : Nat) (lv : Value) (fl : List Nat) (Ls : List Int) (N : Nat) (w : World) (e : Ending) (w' : World) : Prop :=
  (PbNew xs ∧ ∃ b fp' fl', e = .returned (.tuple #[optr b, v64 0]) ∧ R w' b fp' ⟨Rd.ordered xs Ls N, 0⟩ ∧ LArg LR w' lv fl' Ls (N + shufN n) ∧ Apart fp' fl' ∧ Touch fl w w' ∧ From fl fl' w ∧ ∀ k ∈ fp', w.heap.size ≤ k) ∨
  (¬ PbNew xs ∧ e = .returned (.tuple #[.pointer none, v64 2]) ∧ ∃ fl' N', LArg LR w' lv fl' Ls N' ∧ Touch fl w w' ∧ From fl fl' w)
def PbOrder (L : List Int) (w : World) (e : Ending) (w' : World) : Prop := ∃ v, e = .returned v ∧ Own64 w' w.heap.size it v L.length (L.map v64) ∧ Below w.heap.size w w'
structure ProbeOK (fN fX fA fR fO fT : Nat) (R : PRepT) (LR : LotRep) : Prop where
  held : Held R
  ok : ∀ {w b fp s}, R w b fp s → Rd.OK s
  new : ∀ (xs : List Int) (n : Nat) (q : Option Addr) (c : Nat) (lv : Value) (fl : List Nat) (Ls : List Int) (N : Nat) (w : World), xs.length = n → GoodN w xs q c → n ≤ 100 → LArg LR w lv fl Ls N → N ≤ 1000000000 → (∀ a, q = some a → a.block ∉ fl) → Calls Try.prog fN #[.slice q n c, lv] w (PbMade R LR xs n lv fl Ls N w)
  next : ∀ (b : Nat) (fp : List Nat) (s : Rd.St) (lv : Value) (fl : List Nat) (Ls : List Int) (N : Nat) (w : World), R w b fp s → LArg LR w lv fl Ls N → Apart fp fl → N ≤ 1000000000 → Calls Try.prog fX #[optr b, lv] w (PbDone R LR b fp lv fl Ls (Rd.nextS s Ls N) (Rd.nextN s N) (v64 (Rd.nextV s Ls N)) w)
  add : ∀ (b : Nat) (fp : List Nat) (s : Rd.St) (x : Int) (lv : Value) (fl : List Nat) (Ls : List Int) (N : Nat) (w : World), R w b fp s → LArg LR w lv fl Ls N → Apart fp fl → N ≤ 1000000000 → Calls Try.prog fA #[optr b, v64 x, lv] w (PbDone R LR b fp lv fl Ls (Rd.addS s x Ls N) (Rd.addN s x N) (v64 (Rd.addE s.L x)) w)
  rem : ∀ (b : Nat) (fp : List Nat) (s : Rd.St) (x : Int) (w : World), R w b fp s → Calls Try.prog fR #[optr b, v64 x] w (ODone R b fp (Rd.remS s x) (v64 (Rd.remE s x)) w)
  order : ∀ (b : Nat) (fp : List Nat) (s : Rd.St) (w : World), R w b fp s → Calls Try.prog fO #[optr b] w (PbOrder s.L w)
  told : ∀ (b : Nat) (fp : List Nat) (s : Rd.St) (w : World), R w b fp s → Calls Try.prog fT #[optr b] w fun e w' => e = .returned (v64 s.t) ∧ Below w.heap.size w w'
section
variable {fN fX fA fR fO fT : Nat} {R : PRepT} {LR : LotRep}
/-- Without lots. -/
theorem ProbeOK.newN (F : ProbeOK fN fX fA fR fO fT R LR) (xs : List Int) (n : Nat) (q : Option Addr) (c : Nat) (w : World) (hn : xs.length = n) (hg : GoodN w xs q c) (hm : n ≤ 100) (hx : PbNew xs) : Calls Try.prog fN #[.slice q n c, .pointer none] w fun e w' => ∃ b fp, e = .returned (.tuple #[optr b, v64 0]) ∧ R w' b fp ⟨Rd.ordered xs [] 0, 0⟩ ∧ Below w.heap.size w w' ∧ ∀ k ∈ fp, w.heap.size ≤ k := by
  refine (F.new xs n q c (.pointer none) [] [] 0 w hn hg hm (LArg.bare _ _ _) (by omega) (fun a _ h => by cases h)).mono ?_
  rintro e w' (⟨_, b, fp', fl', rfl, hr, _, _, ht, _, hf⟩ | ⟨h, _⟩)
  · exact ⟨b, fp', rfl, hr, ⟨ht.os, ht.tape, ht.output, ht.size, fun k hk => ht.block k hk (by simp)⟩, hf⟩
  · exact absurd hx h
theorem PbDone.bare {b : Nat} {fp : List Nat} {s' : Rd.St} {N' : Nat} {v : Value} {w w' : World} {e : Ending} (h : PbDone R LR b fp (.pointer none) [] [] s' N' v w e w') : ODone R b fp s' v w e w' := by
  obtain ⟨he, fp', fl', hr, hl, _, ht, hf⟩ := h
  obtain ⟨rfl, _⟩ := hl.nil_inv
  rw [List.append_nil] at ht hf
  rw [List.append_nil] at hf
  exact ⟨he, fp', hr, ht, hf⟩
theorem ProbeOK.nextN (F : ProbeOK fN fX fA fR fO fT R LR) (b : Nat) (fp : List Nat) (s : Rd.St) (w : World) (h : R w b fp s) : Calls Try.prog fX #[optr b, .pointer none] w (ODone R b fp (Rd.nextS s [] 0) (v64 (Rd.nextV s [] 0)) w) :=
  (F.next b fp s (.pointer none) [] [] 0 w h (LArg.bare _ _ _) (fun _ _ h => by cases h) (by omega)).mono fun e w' h => h.bare
theorem ProbeOK.addN (F : ProbeOK fN fX fA fR fO fT R LR) (b : Nat) (fp : List Nat) (s : Rd.St) (x : Int) (w : World) (h : R w b fp s) : Calls Try.prog fA #[optr b, v64 x, .pointer none] w (ODone R b fp (Rd.addS s x [] 0) (v64 (Rd.addE s.L x)) w) :=
  (F.add b fp s x (.pointer none) [] [] 0 w h (LArg.bare _ _ _) (fun _ _ h => by cases h) (by omega)).mono fun e w' h => h.bare
end
end Go.Proofs.Ytfoomffbjjcjjaa
