/-
  Acts of a buffer in memory (a word's three cells and a number); among the arguments, opened.
-/
import Derived.Test.YtgohapbobbkaeaaOpenM
namespace Go.Proofs.Ytgohapbobbkaeaa
set_option linter.unusedSimpArgs false
set_option linter.unusedVariables false
open Go.ChangeShapes Go.WideShapes Go.ChangeAt Go.RowKit Sha
/-- An act: an Add of a word, or, if the number is above 0, a Take. -/
structure Gact where
  m : Mb
  n : Int
abbrev gac (x : Gact) : List Value := [.int .i64 x.m.I, .int .i64 x.m.S, .int .i64 x.m.N, .int .i64 x.n]
theorem gflat_length (l : List Gact) : (l.flatMap gac).length = l.length * 4 := by
  induction l with
  | nil => rfl
  | cons x l ih => rw [List.flatMap_cons, List.length_append, ih, List.length_cons]; simp; omega
theorem gflat_get (l : List Gact) (i : Nat) (hi : i < l.length) (r : Nat) (hr : r < 4) : (l.flatMap gac)[i * 4 + r]? = (gac l[i])[r]? := by
  induction l generalizing i with
  | nil => simp at hi
  | cons x l ih =>
    rw [List.flatMap_cons]
    cases i with
    | zero => simp only [Nat.zero_mul, Nat.zero_add]; rw [List.getElem?_append_left (by simpa using hr)]; rfl
    | succ i =>
      rw [List.getElem?_append_right (by simp; omega), show (i + 1) * 4 + r - (gac x).length = i * 4 + r by simp; omega]
      simpa using ih i (by simpa using hi)
theorem gflat_inv (l : List Gact) (j : Nat) (v : Value) (hv : (l.flatMap gac)[j]? = some v) : ∃ (i r : Nat) (hi : i < l.length), r < 4 ∧ j = i * 4 + r ∧ (gac l[i])[r]? = some v := by
  have hj := (List.getElem?_eq_some_iff.1 hv).1
  rw [gflat_length] at hj
  have hi : j / 4 < l.length := by omega
  refine ⟨j / 4, j % 4, hi, by omega, by omega, ?_⟩
  rw [← gflat_get l _ hi _ (by omega), show j / 4 * 4 + j % 4 = j by omega]; exact hv
def Gact.ok (x : Gact) : Prop := x.m.ok ∧ (-9223372036854775808 ≤ x.n ∧ x.n ≤ 9223372036854775807)
structure GoodG (w : World) (l : List Gact) (q : Option Addr) (cap : Nat) : Prop where
  ok : ∀ x ∈ l, x.ok
  at_ : At w q (l.flatMap gac)
  le : l.length ≤ cap
  max : cap ≤ 9223372036854775807
  nil : q = none → cap = 0
/-- The i-th act: where it lies. -/
theorem GoodG.get {w : World} {l : List Gact} {q : Option Addr} {cap : Nat} (h : GoodG w l q cap) (i : Nat) (hi : i < l.length) :
    ∃ b off, q = some ⟨b, off, none⟩ ∧ ∀ W, Below w.heap.size w W → W.rangeAt b (off + i * 4) (mc l[i].m) ∧ W.cell? ⟨b, off + i * 4 + 3, none⟩ = some (.int .i64 l[i].n) := by
  obtain ⟨b, off, rfl, hc⟩ := h.at_.addr (by rw [gflat_length]; omega)
  have key : ∀ r v, (gac l[i])[r]? = some v → w.cell? ⟨b, off + i * 4 + r, none⟩ = some v := fun r v hv => by
    have hr : r < 4 := by have := (List.getElem?_eq_some_iff.1 hv).1; simpa using this
    rw [Nat.add_assoc]
    exact hc _ v (by rw [gflat_get l i hi r hr]; exact hv)
  have key2 : ∀ W, Below w.heap.size w W → ∀ r v, (gac l[i])[r]? = some v → W.cell? ⟨b, off + i * 4 + r, none⟩ = some v := fun W hb r v hv => by
    have h1 := key r v hv
    exact (hb.cell (World.block_lt_of_cell? w _ h1)).trans h1
  refine ⟨b, off, rfl, fun W hb => ⟨fun j v hv => key2 W hb j v ?_, key2 W hb 3 _ rfl⟩⟩
  have hj : j < 3 := by have := (List.getElem?_eq_some_iff.1 hv).1; simpa using this
  match j, hj with
  | 0, _ => exact hv
  | 1, _ => exact hv
  | 2, _ => exact hv
section
variable {H : Type} {enc : TypeId × Value → H} {w : World} {base : Nat} {spare : Nat → Bool} {held : Bool}
theorem cells4g : Try.prog.cellsOf 34 = 4 := by kernel_rfl
theorem open_gactc {fuel : Nat} {cs : List Value} {x : DataW H × List MemPlace} (h : DataW.trod enc Try.prog w base spare held fuel 34 cs = some x) : ∃ y : Gact, cs = gac y ∧ y.ok := by
  obtain ⟨y0, y1, n, _, hl, h0, h1⟩ := Go.ChangeShapes.trod_struct2 Try.underlying34 h
  have h0' : DataW.trod enc Try.prog w base spare held n 32 ((cs.drop 0).take 3) = some y0 := by rw [← cells3m]; exact h0
  have h1' : DataW.trod enc Try.prog w base spare held n 3 ((cs.drop 3).take 1) = some y1 := by rw [← cells1im]; exact h1
  rw [cells4g] at hl
  clear h0 h1 h
  obtain ⟨m, c0, hm⟩ := open_memc h0'
  obtain ⟨N, c1, _, hw⟩ := DataW.trod_int Try.underlying3 h1'
  have e : cs = gac ⟨m, N⟩ := by
    rcases cs with _ | ⟨a, _ | ⟨b, _ | ⟨c, _ | ⟨d, r⟩⟩⟩⟩
    · simp at hl
    · simp at hl
    · simp at hl
    · simp at hl
    · simp at c0 c1 hl
      obtain ⟨rfl, rfl, rfl⟩ := c0
      subst c1 hl
      rfl
  exact ⟨⟨m, N⟩, e, hm, bounds_i64 hw⟩
/-- A slice of acts among the arguments. -/
theorem open_gacts {r : Reach} {b0 : Nat} {v : Value} {d : DataW H} {p : List MemPlace} (hv : Value.okWide Try.prog w r b0 22 v) (h : DataW.Trod enc Try.prog w base spare held 22 v d p) :
    ∃ (q : Option Addr) (l : List Gact) (len cap : Nat), v = .slice q len cap ∧ l.length = len ∧ GoodG w l q cap := by
  obtain ⟨a0, len0, cap0, rfl⟩ := okWide_slice Try.underlying22 hv
  obtain ⟨fuel, hf⟩ := h
  rcases Deep.open_slice Try.underlying22 hf with ⟨hcs, hx⟩ | ⟨a, len, cap, m, n, D, Pl, hcs, _, hl, hm, hmm, hx, hel⟩
  · simp [Value.cells] at hcs
    obtain ⟨rfl, rfl, rfl⟩ := hcs
    exact ⟨none, [], 0, 0, rfl, rfl, by simp, At.nil _ _, by simp, by omega, fun _ => rfl⟩
  · simp [Value.cells] at hcs
    obtain ⟨rfl, rfl, rfl⟩ := hcs
    have hlm : len0 ≤ m := by rw [hmm]; split <;> omega
    have key : ∀ i, i < len0 → ∃ y : Gact, w.cells? base (a.add (i * 4)) 4 = some (gac y) ∧ y.ok := by
      intro i hi
      obtain ⟨cs', h1, h2⟩ := hel i (by omega)
      rw [cells4g] at h1
      obtain ⟨y, rfl, hg⟩ := open_gactc h2
      exact ⟨y, h1, hg⟩
    have : Inhabited Gact := ⟨⟨Mb.none, 0⟩⟩
    obtain ⟨f, hF⟩ := Deep.choose_lt key
    have hlen : ((List.range len0).map f).length = len0 := by simp
    refine ⟨some a, (List.range len0).map f, len0, cap0, rfl, hlen, ?_, ?_, by rw [hlen]; exact hl, by unfold maxLen at hm; omega, (fun h => by cases h)⟩
    · intro y hy
      obtain ⟨i, hi, rfl⟩ := List.mem_map.1 hy
      exact (hF i (List.mem_range.1 hi)).2
    by_cases h0 : len0 = 0
    · subst h0; exact At.nil _ _
    · have h1 := (World.cells?_some (hF 0 (by omega)).1).2.2 0 (by omega)
      have hsp : a.spot = none := by
        have e : (a.add (0 * 4)).add 0 = a := by simp [Addr.add]
        rw [e, show (gac (f 0))[0]? = some (.int .i64 (f 0).m.I) from rfl] at h1
        cases hs : a.spot with
        | none => rfl
        | some s =>
          unfold World.cell? at h1
          split at h1
          · simp [hs] at h1
          · cases h1
      obtain ⟨b, off, sp⟩ := a
      simp only at hsp
      subst hsp
      refine Or.inr ⟨b, off, rfl, fun j v hj => ?_⟩
      obtain ⟨i, r, hi, hr, rfl, hv'⟩ := gflat_inv _ j v hj
      have h2 := (World.cells?_some (hF i (by simpa using hi)).1).2.2 r hr
      rw [Addr.add_mid, Addr.add_mid, Nat.add_assoc] at h2
      rw [h2]
      simpa using hv'
end
end Go.Proofs.Ytgohapbobbkaeaa
