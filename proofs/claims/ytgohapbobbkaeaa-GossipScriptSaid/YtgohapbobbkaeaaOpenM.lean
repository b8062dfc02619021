/-
  Words among the arguments, opened: one by its value, and slices of them.
-/
import Derived.Test.YtgohapbobbkaeaaOpenC
import Derived.Test.YtgohapbobbkaeaaWords
import Derived.Deep.Slices
import Derived.Deep.Strs
namespace Go.Proofs.Ytgohapbobbkaeaa
set_option linter.unusedSimpArgs false
set_option linter.unusedVariables false
open Go.ChangeShapes Go.WideShapes Go.ChangeAt Go.RowKit Sha
section
variable {H : Type} {enc : TypeId × Value → H} {w : World} {base : Nat} {spare : Nat → Bool} {held : Bool}
theorem cells3m : Try.prog.cellsOf 32 = 3 := by kernel_rfl
theorem cells1im : Try.prog.cellsOf 3 = 1 := by kernel_rfl
theorem open_memc {fuel : Nat} {cs : List Value} {x : DataW H × List MemPlace} (h : DataW.trod enc Try.prog w base spare held fuel 32 cs = some x) : ∃ m : Mb, cs = mc m ∧ m.ok := by
  obtain ⟨y0, y1, y2, n, _, hl, h0, h1, h2⟩ := Deep.trod_struct3 Try.underlying32 h
  have h0' : DataW.trod enc Try.prog w base spare held n 3 ((cs.drop 0).take 1) = some y0 := by rw [← cells1im]; exact h0
  have h1' : DataW.trod enc Try.prog w base spare held n 3 ((cs.drop 1).take 1) = some y1 := by rw [← cells1im]; exact h1
  have h2' : DataW.trod enc Try.prog w base spare held n 3 ((cs.drop 2).take 1) = some y2 := by rw [← cells1im]; exact h2
  rw [cells3m] at hl
  clear h0 h1 h2 h
  obtain ⟨I, c0, _, hw0⟩ := DataW.trod_int Try.underlying3 h0'
  obtain ⟨S, c1, _, hw1⟩ := DataW.trod_int Try.underlying3 h1'
  obtain ⟨N, c2, _, hw2⟩ := DataW.trod_int Try.underlying3 h2'
  have e : cs = mc ⟨I, S, N⟩ := by
    rcases cs with _ | ⟨a, _ | ⟨b, _ | ⟨c, r⟩⟩⟩
    · simp at hl
    · simp at hl
    · simp at hl
    · simp at c0 c1 c2 hl
      subst c0 c1 c2 hl
      rfl
  exact ⟨⟨I, S, N⟩, e, ⟨bounds_i64 hw0, bounds_i64 hw1, bounds_i64 hw2⟩⟩
/-- A word among the arguments. -/
theorem open_mem1 {r : Reach} {b0 : Nat} {v : Value} {d : DataW H} {p : List MemPlace} (hv : Value.okWide Try.prog w r b0 32 v) (h : DataW.Trod enc Try.prog w base spare held 32 v d p) :
    ∃ m : Mb, v = mv m ∧ m.ok := by
  obtain ⟨cs, rfl, _⟩ := okWide_struct Try.underlying32 hv
  obtain ⟨fuel, hf⟩ := h
  obtain ⟨m, h1, h2⟩ := open_memc hf
  simp [Value.cells] at h1
  exact ⟨m, by rw [← Array.toArray_toList (xs := cs), h1], h2⟩
/-- A slice of words among the arguments. -/
theorem open_mems {r : Reach} {b0 : Nat} {v : Value} {d : DataW H} {p : List MemPlace} (hv : Value.okWide Try.prog w r b0 35 v) (h : DataW.Trod enc Try.prog w base spare held 35 v d p) :
    ∃ (q : Option Addr) (l : List Mb) (len cap : Nat), v = .slice q len cap ∧ l.length = len ∧ GoodW w l q cap := by
  obtain ⟨a0, len0, cap0, rfl⟩ := okWide_slice Try.underlying35 hv
  obtain ⟨fuel, hf⟩ := h
  rcases Deep.open_slice Try.underlying35 hf with ⟨hcs, hx⟩ | ⟨a, len, cap, m, n, D, Pl, hcs, _, hl, hm, hmm, hx, hel⟩
  · simp [Value.cells] at hcs
    obtain ⟨rfl, rfl, rfl⟩ := hcs
    exact ⟨none, [], 0, 0, rfl, rfl, by simp, At.nil _ _, by simp, by omega, fun _ => rfl⟩
  · simp [Value.cells] at hcs
    obtain ⟨rfl, rfl, rfl⟩ := hcs
    have hlm : len0 ≤ m := by rw [hmm]; split <;> omega
    have key : ∀ i, i < len0 → ∃ y : Mb, w.cells? base (a.add (i * 3)) 3 = some (mc y) ∧ y.ok := by
      intro i hi
      obtain ⟨cs', h1, h2⟩ := hel i (by omega)
      rw [cells3m] at h1
      obtain ⟨y, rfl, hg⟩ := open_memc h2
      exact ⟨y, h1, hg⟩
    have : Inhabited Mb := ⟨Mb.none⟩
    obtain ⟨f, hF⟩ := Deep.choose_lt key
    have hlen : ((List.range len0).map f).length = len0 := by simp
    refine ⟨some a, (List.range len0).map f, len0, cap0, rfl, hlen, ?_, ?_, by rw [hlen]; exact hl, by unfold maxLen at hm; omega, (fun h => by cases h)⟩
    · intro y hy
      obtain ⟨i, hi, rfl⟩ := List.mem_map.1 hy
      exact (hF i (List.mem_range.1 hi)).2
    by_cases h0 : len0 = 0
    · subst h0; exact At.nil _ _
    · have h1 := (World.cells?_some (hF 0 (by omega)).1).2.2 0 (by omega)
      have hsp : a.spot = none := by
        have e : (a.add (0 * 3)).add 0 = a := by simp [Addr.add]
        rw [e, show (mc (f 0))[0]? = some (.int .i64 (f 0).I) from rfl] at h1
        cases hs : a.spot with
        | none => rfl
        | some s =>
          unfold World.cell? at h1
          split at h1
          · simp [hs] at h1
          · cases h1
      obtain ⟨b, off, sp⟩ := a
      simp only at hsp
      subst hsp
      refine Or.inr ⟨b, off, rfl, fun j v hj => ?_⟩
      obtain ⟨i, r, hi, hr, rfl, hv'⟩ := wflat_inv _ j v hj
      have h2 := (World.cells?_some (hF i (by simpa using hi)).1).2.2 r hr
      rw [Addr.add_mid, Addr.add_mid, Nat.add_assoc] at h2
      rw [h2]
      simpa using hv'
end
end Go.Proofs.Ytgohapbobbkaeaa
