/-
  A round together with its lots, as one object; the reference's and the program's.
-/
import Derived.Test.YtfoomffbjjcjjaaPlQ
import Derived.Test.YtfoomffbjjcjjaaRpE
import Derived.Test.YtfoomffbjjcjjaaLtC
namespace Go.Proofs.Ytfoomffbjjcjjaa
set_option linter.unusedSimpArgs false
set_option linter.unusedVariables false
open Go.RowKit Sha Lot
/-- A round's state, and its lots'. -/
abbrev Cst := Rd.St × (List Int × Nat)
def CRep (R : PRepT) (LR : LotRep) (bl : Nat) : ObjRep Cst := fun w b fp s => ∃ fr fl, fp = fr ++ fl ∧ Apart fr fl ∧ R w b fr s.1 ∧ LR w bl fl s.2.1 s.2.2
theorem cHeld {R : PRepT} {LR : LotRep} (K : Held R) (KL : Rep LR) (bl : Nat) : Held (CRep R LR bl) where
  low := fun h k hk => by
    obtain ⟨fr, fl, rfl, _, hr, hl⟩ := h
    rcases List.mem_append.1 hk with h1 | h1
    · exact K.low hr k h1
    · exact KL.low hl k h1
  keep := fun h hk => by
    obtain ⟨fr, fl, rfl, ha, hr, hl⟩ := h
    exact ⟨fr, fl, rfl, ha, K.keep hr fun k h1 => hk k (List.mem_append.2 (.inl h1)), KL.keep hl fun k h1 => hk k (List.mem_append.2 (.inr h1))⟩
/-- What is asked of a round with its lots. -/
structure CompOK (fX fA fR : Nat) (bl : Nat) (C : ObjRep Cst) : Prop where
  held : Held C
  ok : ∀ {w b fp s}, C w b fp s → Rd.OK s.1
  next : ∀ (b : Nat) (fp : List Nat) (s : Rd.St) (Ls : List Int) (N : Nat) (w : World), C w b fp (s, (Ls, N)) → N ≤ 1000000000 → Calls Try.prog fX #[optr b, lptr bl] w (ODone C b fp (Rd.nextS s Ls N, (Ls, Rd.nextN s N)) (v64 (Rd.nextV s Ls N)) w)
  add : ∀ (b : Nat) (fp : List Nat) (s : Rd.St) (x : Int) (Ls : List Int) (N : Nat) (w : World), C w b fp (s, (Ls, N)) → N ≤ 1000000000 → Calls Try.prog fA #[optr b, v64 x, lptr bl] w (ODone C b fp (Rd.addS s x Ls N, (Ls, Rd.addN s x N)) (v64 (Rd.addE s.L x)) w)
  rem : ∀ (b : Nat) (fp : List Nat) (s : Rd.St) (x : Int) (Ls : List Int) (N : Nat) (w : World), C w b fp (s, (Ls, N)) → Calls Try.prog fR #[optr b, v64 x] w (ODone C b fp (Rd.remS s x, (Ls, N)) (v64 (Rd.remE s x)) w)
theorem LArg.obj {LR : LotRep} {w : World} {bl : Nat} {fl : List Nat} {Ls : List Int} {N : Nat} (h : LArg LR w (lptr bl) fl Ls N) : LR w bl fl Ls N := by
  rcases h with h | ⟨bl', h, hr⟩
  · cases h.1
  · cases h; exact hr
theorem comp_rem {R : PRepT} {LR : LotRep} (KL : Rep LR) {b bl : Nat} {fr fl : List Nat} {s' : Rd.St} {Ls : List Int} {N : Nat} {v : Value} {w w' : World} {e : Ending} (ha : Apart fr fl) (hl : LR w bl fl Ls N) (hfr : ∀ k ∈ fr, k < w.heap.size) (h : ODone R b fr s' v w e w') : ODone (CRep R LR bl) b (fr ++ fl) (s', (Ls, N)) v w e w' := by
  obtain ⟨he, fr', hr', ht, hf⟩ := h
  have hlow := KL.low hl
  refine ⟨he, fr' ++ fl, ⟨fr', fl, rfl, ha.from_ hf hlow, hr', KL.keep hl (ht.keep ha hlow)⟩, ⟨ht.os, ht.tape, ht.output, ht.size, fun k hk hn => ht.block k hk fun h1 => hn (List.mem_append.2 (.inl h1))⟩, fun k hk => ?_⟩
  rcases List.mem_append.1 hk with h1 | h1
  · rcases hf k h1 with h2 | h2
    · exact .inl (List.mem_append.2 (.inl h2))
    · exact .inr h2
  · exact .inl (List.mem_append.2 (.inr h1))
theorem progComp {R : PRepT} {LR : LotRep} (F : PProbe R LR) (KL : Rep LR) (bl : Nat) : CompOK 20 21 22 bl (CRep R LR bl) where
  held := cHeld F.held KL bl
  ok := fun h => by obtain ⟨fr, fl, _, _, hr, _⟩ := h; exact F.ok hr
  next := fun b fp s Ls N w h hN => by
    obtain ⟨fr, fl, rfl, ha, hr, hl⟩ := h
    refine (F.next b fr s (lptr bl) fl Ls N w hr (.inr ⟨bl, rfl, hl⟩) ha hN).mono ?_
    rintro e w' ⟨he, fr', fl', hr', hl', ha', ht, hf⟩
    exact ⟨he, fr' ++ fl', ⟨fr', fl', rfl, ha', hr', hl'.obj⟩, ht, hf⟩
  add := fun b fp s x Ls N w h hN => by
    obtain ⟨fr, fl, rfl, ha, hr, hl⟩ := h
    refine (F.add b fr s x (lptr bl) fl Ls N w hr (.inr ⟨bl, rfl, hl⟩) ha hN).mono ?_
    rintro e w' ⟨he, fr', fl', hr', hl', ha', ht, hf⟩
    exact ⟨he, fr' ++ fl', ⟨fr', fl', rfl, ha', hr', hl'.obj⟩, ht, hf⟩
  rem := fun b fp s x Ls N w h => by
    obtain ⟨fr, fl, rfl, ha, hr, hl⟩ := h
    exact (F.rem b fr s x w hr).mono fun e w' h => comp_rem KL ha hl (F.held.low hr) h
theorem refComp (bl : Nat) : CompOK 32 33 34 bl (CRep RRep RefLot bl) where
  held := cHeld rrHeld refLotOK.rep bl
  ok := fun h => by obtain ⟨fr, fl, _, _, hr, _⟩ := h; exact hr.2
  next := fun b fp s Ls N w h hN => by
    obtain ⟨fr, fl, rfl, ha, hr, hl⟩ := h
    refine (rnext_any b fr s bl fl Ls N w hr hl ha hN).mono ?_
    rintro e w' ⟨he, fr', fl', hr', hl', ha', ht, hf⟩
    exact ⟨he, fr' ++ fl', ⟨fr', fl', rfl, ha', hr', hl'⟩, ht, hf⟩
  add := fun b fp s x Ls N w h hN => by
    obtain ⟨fr, fl, rfl, ha, hr, hl⟩ := h
    refine (radd_any b fr s x bl fl Ls N w hr hl ha hN).mono ?_
    rintro e w' ⟨he, fr', fl', hr', hl', ha', ht, hf⟩
    exact ⟨he, fr' ++ fl', ⟨fr', fl', rfl, ha', hr', hl'⟩, ht, hf⟩
  rem := fun b fp s x Ls N w h => by
    obtain ⟨fr, fl, rfl, ha, hr, hl⟩ := h
    exact (rrem_any b fr s x w hr).mono fun e w' h => comp_rem refLotOK.rep ha hl (rrHeld.low hr) h
end Go.Proofs.Ytfoomffbjjcjjaa
