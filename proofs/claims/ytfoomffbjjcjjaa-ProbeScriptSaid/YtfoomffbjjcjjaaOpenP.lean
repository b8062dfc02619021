/-
  Acts (pairs of numbers) among the arguments, opened, for seats without bags (from XOpenA).
-/
import Derived.Test.YtfoomffbjjcjjaaRowB
import Derived.Test.YtfoomffbjjcjjaaActsP
import Derived.Deep.SlicePairs
namespace Go.Proofs.Ytfoomffbjjcjjaa
set_option linter.unusedSimpArgs false
set_option linter.unusedVariables false
open Go.ChangeShapes Go.WideShapes Go.ChangeAt Go.RowKit Sha
theorem at_of_cells {w : World} {a : Addr} {cs : List Value} (h : ∀ i v, cs[i]? = some v → w.cell? (a.add i) = some v) : At w (some a) cs := by
  by_cases h0 : cs = []
  · exact .inl h0
  · have hl : 0 < cs.length := List.length_pos_iff.2 h0
    have h1 := h 0 cs[0] (List.getElem?_eq_getElem hl)
    have hsp : a.spot = none := by
      have : a.add 0 = a := by simp [Addr.add]
      rw [this] at h1
      cases hs : a.spot with
      | none => rfl
      | some s =>
        unfold World.cell? at h1
        split at h1
        · simp [hs] at h1
        · cases h1
    obtain ⟨b, off, sp⟩ := a
    simp only at hsp
    subst hsp
    refine Or.inr ⟨b, off, rfl, fun i v hi => ?_⟩
    have h2 := h i v hi
    rwa [Addr.add_mid] at h2
theorem acts_inv (acts : List (Int × Int)) (j : Nat) (v : Value) (hv : (acts.flatMap actCells)[j]? = some v) : ∃ (i : Nat) (hi : i < acts.length), (j = i * 2 ∧ v = v64 acts[i].1) ∨ (j = i * 2 + 1 ∧ v = v64 acts[i].2) := by
  have hj : j < (acts.flatMap actCells).length := (List.getElem?_eq_some_iff.1 hv).1
  rw [acts_length] at hj
  have hk : j / 2 < acts.length := by omega
  refine ⟨j / 2, hk, ?_⟩
  obtain ⟨h1, h2⟩ := acts_get acts (j / 2) hk
  rcases Nat.mod_two_eq_zero_or_one j with hm | hm
  · left
    refine ⟨by omega, ?_⟩
    rw [show 2 * (j / 2) = j by omega, hv] at h1
    exact Option.some.inj h1
  · right
    refine ⟨by omega, ?_⟩
    rw [show 2 * (j / 2) + 1 = j by omega, hv] at h2
    exact Option.some.inj h2
section
variable {H : Type} {enc : TypeId × Value → H} {P : Program} {w : World} {base : Nat} {spare : Nat → Bool} {held : Bool}
theorem open_acts {r : Reach} {b0 : Nat} {t e : TypeId} {f0 f1 : Field} {v : Value} {d : DataW H} {p : List MemPlace} (ht : P.underlying t = some (.slice e)) (he : P.underlying e = some (.struct #[f0, f1]))
    (ce : P.cellsOf e = 2) (o0 : f0.offset = 0) (o1 : f1.offset = 1) (c0 : P.cellsOf f0.type = 1) (c1 : P.cellsOf f1.type = 1) (u0 : P.underlying f0.type = some (.int .i64)) (u1 : P.underlying f1.type = some (.int .i64))
    (hv : Value.okWide P w r b0 t v) (h : DataW.Trod enc P w base spare held t v d p) :
    ∃ (q : Option Addr) (acts : List (Int × Int)) (len cap : Nat), v = .slice q len cap ∧ acts.length = len ∧ GoodA w acts q cap := by
  obtain ⟨a0, len0, cap0, rfl⟩ := okWide_slice ht hv
  obtain ⟨fuel, hf⟩ := h
  rcases Deep.open_slice_pairs ht he ce o0 o1 c0 c1 hf with ⟨hcs, hx⟩ | ⟨a, len, cap, m, n, V0, V1, D0, D1, P0, P1, hcs, _, hl, hm, hmm, hx, hel⟩
  · simp [Value.cells] at hcs
    obtain ⟨rfl, rfl, rfl⟩ := hcs
    exact ⟨none, [], 0, 0, rfl, rfl, by simp, At.nil _ _, by simp, by omega, fun _ => rfl⟩
  · simp [Value.cells] at hcs
    obtain ⟨rfl, rfl, rfl⟩ := hcs
    have hlm : len0 ≤ m := by rw [hmm]; split <;> omega
    have key : ∀ i, i < len0 → ∃ y : Int × Int, w.cell? (a.add (i * 2)) = some (v64 y.1) ∧ w.cell? (a.add (i * 2 + 1)) = some (v64 y.2) ∧ (-9223372036854775808 ≤ y.1 ∧ y.1 ≤ 9223372036854775807) ∧ -9223372036854775808 ≤ y.2 ∧ y.2 ≤ 9223372036854775807 := by
      intro i hi
      obtain ⟨h1, h2, h3, h4⟩ := hel i (by omega)
      obtain ⟨N, e1, _, w1⟩ := DataW.trod_int u0 h3
      obtain ⟨M, e2, _, w2⟩ := DataW.trod_int u1 h4
      simp at e1 e2
      exact ⟨(N, M), by rw [h1, e1], by rw [h2, e2], bounds_i64 w1, bounds_i64 w2⟩
    have : Inhabited (Int × Int) := ⟨(0, 0)⟩
    obtain ⟨f, hF⟩ := Deep.choose_lt key
    refine ⟨some a, (List.range len0).map f, len0, cap0, rfl, by simp, ?_, at_of_cells fun j v hj => ?_, by simpa using hl, by unfold maxLen at hm; omega, fun h => by cases h⟩
    · intro y hy
      obtain ⟨i, hi, rfl⟩ := List.mem_map.1 hy
      exact (hF i (List.mem_range.1 hi)).2.2
    · obtain ⟨i, hi, h⟩ := acts_inv _ j v hj
      have hi' : i < len0 := by simpa using hi
      obtain ⟨h1, h2, _⟩ := hF i hi'
      rcases h with ⟨rfl, rfl⟩ | ⟨rfl, rfl⟩
      · simpa using h1
      · simpa using h2
end
end Go.Proofs.Ytfoomffbjjcjjaa
