/-
  Records among the arguments: a slice of slices of bytes, opened.
-/
import Derived.Test.YtfjopbgnijfajaaOpenC
import Derived.Test.YtfjopbgnijfajaaRecs
namespace Go.Proofs.Ytfjopbgnijfajaa
set_option linter.unusedSimpArgs false
set_option linter.unusedVariables false
open Go.ChangeShapes Go.WideShapes Go.ChangeAt Go.RowKit Sha
section
variable {H : Type} {enc : TypeId × Value → H} {w : World} {base : Nat} {spare : Nat → Bool} {held : Bool}
theorem cells1S : Try.prog.cellsOf 26 = 1 := by kernel_rfl
theorem cells1B : Try.prog.cellsOf 5 = 1 := by kernel_rfl
theorem open_rec {fuel : Nat} {cs : List Value} {x : DataW H × List MemPlace} (h : DataW.trod enc Try.prog w base spare held fuel 26 cs = some x) :
    ∃ y : SHdr, cs = [cellS y] ∧ GoodS w y := by
  obtain ⟨q, B, cap, c1, hA, hle, hm, hn, hB⟩ := cells_bytesl Try.underlying26 Try.underlying5 cells1B h
  exact ⟨(B, q, cap), c1, hB, hA, hle, by unfold maxLen at hm; omega, hn⟩
/-- Records among the arguments; what is read of them. -/
theorem open_recs_n {r : Reach} {b0 : Nat} {v : Value} {d : DataW H} {p : List MemPlace} (hv : Value.okWide Try.prog w r b0 22 v) (h : DataW.Trod enc Try.prog w base spare held 22 v d p) :
    ∃ (q : Option Addr) (l : List (List Int)) (len cap : Nat), v = .slice q len cap ∧ Recs w q len cap l ∧ (len = 0 ∨ ∃ elems spare, d = .slice elems spare ∧ elems.length = len) := by
  obtain ⟨a0, len0, cap0, rfl⟩ := okWide_slice Try.underlying22 hv
  obtain ⟨fuel, hf⟩ := h
  rcases Deep.open_slice Try.underlying22 hf with ⟨hcs, hx⟩ | ⟨a, len, cap, m, n, D, Pl, hcs, _, hl, hm, hmm, hx, hel⟩
  · simp [Value.cells] at hcs
    obtain ⟨rfl, rfl, rfl⟩ := hcs
    exact ⟨none, [], 0, 0, rfl, Recs.none_ _, Or.inl rfl⟩
  · simp [Value.cells] at hcs
    obtain ⟨rfl, rfl, rfl⟩ := hcs
    have hlm : len0 ≤ m := by rw [hmm]; split <;> omega
    have key : ∀ i, i < len0 → ∃ y : SHdr, w.cells? base (a.add (i * 1)) 1 = some [cellS y] ∧ GoodS w y := by
      intro i hi
      obtain ⟨cs', h1, h2⟩ := hel i (by omega)
      rw [cells1S] at h1
      obtain ⟨y, rfl, hg⟩ := open_rec h2
      exact ⟨y, h1, hg⟩
    have : Inhabited SHdr := ⟨([], none, 0)⟩
    obtain ⟨f, hF⟩ := Deep.choose_lt key
    have hgood : ∀ y ∈ (List.range len0).map f, GoodS w y := by
      intro y hy
      obtain ⟨i, hi, rfl⟩ := List.mem_map.1 hy
      exact (hF i (List.mem_range.1 hi)).2
    refine ⟨some a, ((List.range len0).map f).map (·.1), len0, cap0, rfl, ⟨by simp, hl, by unfold maxLen at hm; omega, (fun h => by cases h), (List.range len0).map f, rfl, ?_, hgood⟩, Or.inr ⟨_, _, congrArg Prod.fst hx, by simp⟩⟩
    by_cases h0 : len0 = 0
    · subst h0; exact At.nil _ _
    · have h1 := (World.cells?_some (hF 0 (by omega)).1).2.2 0 (by omega)
      have hsp : a.spot = none := by
        have e : (a.add (0 * 1)).add 0 = a := by simp [Addr.add]
        rw [e, show ([cellS (f 0)] : List Value)[0]? = some (cellS (f 0)) from rfl] at h1
        cases hs : a.spot with
        | none => rfl
        | some s =>
          unfold World.cell? at h1
          split at h1
          · simp [hs] at h1
          · cases h1
      obtain ⟨b, off, sp⟩ := a
      simp only at hsp
      subst hsp
      refine Or.inr ⟨b, off, rfl, fun j v hj => ?_⟩
      rw [List.getElem?_map, List.getElem?_map] at hj
      rcases Nat.lt_or_ge j len0 with hlt | hge
      · rw [List.getElem?_range hlt] at hj
        simp only [Option.map_some, Option.some.injEq] at hj
        subst hj
        have h2 := (World.cells?_some (hF j hlt).1).2.2 0 (by omega)
        rw [Addr.add_mid, Addr.add_mid, Nat.mul_one, Nat.add_zero] at h2
        rw [h2]; rfl
      · rw [List.getElem?_eq_none (by simpa using hge)] at hj; cases hj
theorem open_recs {r : Reach} {b0 : Nat} {v : Value} {d : DataW H} {p : List MemPlace} (hv : Value.okWide Try.prog w r b0 22 v) (h : DataW.Trod enc Try.prog w base spare held 22 v d p) :
    ∃ (q : Option Addr) (l : List (List Int)) (len cap : Nat), v = .slice q len cap ∧ Recs w q len cap l := by
  obtain ⟨q, l, len, cap, h1, h2, _⟩ := open_recs_n hv h
  exact ⟨q, l, len, cap, h1, h2⟩
end
end Go.Proofs.Ytfjopbgnijfajaa
