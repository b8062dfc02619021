/-
  Acts of disks among the arguments: a slice of structs (two numbers, bytes), opened.
-/
import Derived.Test.YtooljhdfmfkpeaaOpenC
import Derived.Test.YtooljhdfmfkpeaaActD
import Derived.Deep.Slices
import Derived.Deep.Strs
namespace Go.Proofs.Ytooljhdfmfkpeaa
set_option linter.unusedSimpArgs false
set_option linter.unusedVariables false
open Go.ChangeShapes Go.WideShapes Go.ChangeAt Go.RowKit Sha Dsk
theorem dflat_inv (ys : List ActD) (j : Nat) (v : Value) (hv : (ys.flatMap dcells)[j]? = some v) : ∃ (i r : Nat) (hi : i < ys.length), r < 3 ∧ j = i * 3 + r ∧ (dcells ys[i])[r]? = some v := by
  have hj : j < (ys.flatMap dcells).length := (List.getElem?_eq_some_iff.1 hv).1
  rw [dacts_length] at hj
  refine ⟨j / 3, j % 3, by omega, by omega, by omega, ?_⟩
  rw [← dacts_get ys (j / 3) (j % 3) (by omega) (by omega), show j / 3 * 3 + j % 3 = j by omega]
  exact hv
section
variable {H : Type} {enc : TypeId × Value → H} {w : World} {base : Nat} {spare : Nat → Bool} {held : Bool}
theorem dcells3 : Try.prog.cellsOf 34 = 3 := by kernel_rfl
theorem dcells1s : Try.prog.cellsOf 32 = 1 := by kernel_rfl
theorem dcells1b : Try.prog.cellsOf 5 = 1 := by kernel_rfl
theorem dcells1i : Try.prog.cellsOf 3 = 1 := by kernel_rfl
theorem open_actD {fuel : Nat} {cs : List Value} {x : DataW H × List MemPlace} (h : DataW.trod enc Try.prog w base spare held fuel 34 cs = some x) :
    ∃ y : ActD, cs = dcells y ∧ fit64 y.kind ∧ fit64 y.num ∧ GoodC w y.b y.p y.c := by
  obtain ⟨y0, y1, y2, n, _, hl, h0, h1, h2⟩ := Deep.trod_struct3 Try.underlying34 h
  have h0' : DataW.trod enc Try.prog w base spare held n 3 ((cs.drop 0).take 1) = some y0 := by rw [← dcells1i]; exact h0
  have h1' : DataW.trod enc Try.prog w base spare held n 3 ((cs.drop 1).take 1) = some y1 := by rw [← dcells1i]; exact h1
  have h2' : DataW.trod enc Try.prog w base spare held n 32 ((cs.drop 2).take 1) = some y2 := by rw [← dcells1s]; exact h2
  rw [dcells3] at hl
  clear h0 h1 h2 h
  obtain ⟨N, c0, _, hw0⟩ := DataW.trod_int Try.underlying3 h0'
  obtain ⟨M, c1, _, hw1⟩ := DataW.trod_int Try.underlying3 h1'
  obtain ⟨q, B, cap, c2, hA, hle, hm, hn, hB⟩ := cells_bytesl Try.underlying32 Try.underlying5 dcells1b h2'
  have e : cs = [.int .i64 N, .int .i64 M, .slice q B.length cap] := by
    rcases cs with _ | ⟨a, _ | ⟨b, _ | ⟨c, r⟩⟩⟩
    · simp at hl
    · simp at hl
    · simp at hl
    · simp at c0 c1 c2 hl
      subst c0 c1 c2 hl
      rfl
  exact ⟨⟨N, M, B, q, cap⟩, e, bounds_i64 hw0, bounds_i64 hw1, hB, hA, hle, by unfold maxLen at hm; omega, hn⟩
/-- Acts among the arguments. -/
theorem open_actsD {r : Reach} {b0 : Nat} {v : Value} {d : DataW H} {p : List MemPlace} (hv : Value.okWide Try.prog w r b0 22 v) (h : DataW.Trod enc Try.prog w base spare held 22 v d p) :
    ∃ (q : Option Addr) (l : List ActD) (len cap : Nat), v = .slice q len cap ∧ l.length = len ∧ GoodD w l q cap := by
  obtain ⟨a0, len0, cap0, rfl⟩ := okWide_slice Try.underlying22 hv
  obtain ⟨fuel, hf⟩ := h
  rcases Deep.open_slice Try.underlying22 hf with ⟨hcs, hx⟩ | ⟨a, len, cap, m, n, D, Pl, hcs, _, hl, hm, hmm, hx, hel⟩
  · simp [Value.cells] at hcs
    obtain ⟨rfl, rfl, rfl⟩ := hcs
    exact ⟨none, [], 0, 0, rfl, rfl, by simp, by simp, At.nil _ _, by simp, by omega, fun _ => rfl⟩
  · simp [Value.cells] at hcs
    obtain ⟨rfl, rfl, rfl⟩ := hcs
    have hlm : len0 ≤ m := by rw [hmm]; split <;> omega
    have key : ∀ i, i < len0 → ∃ y : ActD, w.cells? base (a.add (i * 3)) 3 = some (dcells y) ∧ fit64 y.kind ∧ fit64 y.num ∧ GoodC w y.b y.p y.c := by
      intro i hi
      obtain ⟨cs', h1, h2⟩ := hel i (by omega)
      rw [dcells3] at h1
      obtain ⟨y, rfl, hg⟩ := open_actD h2
      exact ⟨y, h1, hg⟩
    have : Inhabited ActD := ⟨⟨0, 0, [], none, 0⟩⟩
    obtain ⟨f, hF⟩ := Deep.choose_lt key
    have hgood : ∀ y ∈ (List.range len0).map f, fit64 y.kind ∧ fit64 y.num ∧ GoodC w y.b y.p y.c := by
      intro y hy
      obtain ⟨i, hi, rfl⟩ := List.mem_map.1 hy
      exact (hF i (List.mem_range.1 hi)).2
    refine ⟨some a, (List.range len0).map f, len0, cap0, rfl, by simp, fun y hy => ⟨(hgood y hy).1, (hgood y hy).2.1⟩, fun y hy => (hgood y hy).2.2, ?_, by simpa using hl, by unfold maxLen at hm; omega, fun h => by cases h⟩
    by_cases h0 : len0 = 0
    · subst h0; exact At.nil _ _
    · have h1 := (World.cells?_some (hF 0 (by omega)).1).2.2 0 (by omega)
      have hsp : a.spot = none := by
        have e : (a.add (0 * 3)).add 0 = a := by simp [Addr.add]
        rw [e, show (dcells (f 0))[0]? = some (.int .i64 (f 0).kind) from rfl] at h1
        cases hs : a.spot with
        | none => rfl
        | some s =>
          unfold World.cell? at h1
          split at h1
          · simp [hs] at h1
          · cases h1
      obtain ⟨b, off, sp⟩ := a
      simp only at hsp
      subst hsp
      refine Or.inr ⟨b, off, rfl, fun j v hj => ?_⟩
      obtain ⟨i, r, hi, hr, rfl, hv'⟩ := dflat_inv _ j v hj
      have h2 := (World.cells?_some (hF i (by simpa using hi)).1).2.2 r hr
      rw [Addr.add_mid, Addr.add_mid, Nat.add_assoc] at h2
      rw [h2]
      simpa using hv'
end
end Go.Proofs.Ytooljhdfmfkpeaa
