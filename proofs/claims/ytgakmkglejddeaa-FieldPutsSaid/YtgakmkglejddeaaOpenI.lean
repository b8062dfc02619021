/-
  Items among the arguments: a slice of structs (a number, bytes, an id), opened.
-/
import Derived.Test.YtgakmkglejddeaaRowB
import Derived.Test.YtgakmkglejddeaaItm
import Derived.Deep.Slices
import Derived.Deep.Strs
namespace Go.Proofs.Ytgakmkglejddeaa
set_option linter.unusedSimpArgs false
set_option linter.unusedVariables false
open Go.ChangeShapes Go.WideShapes Go.ChangeAt Go.RowKit Sha
open Fld (Itm)
section
variable {H : Type} {enc : TypeId × Value → H} {P : Program} {w : World} {base : Nat} {spare : Nat → Bool} {held : Bool}
/-- A slice of bytes in memory: its numbers. -/
theorem cells_bytesl {t e : TypeId} {fuel : Nat} {cs : List Value} {x : DataW H × List MemPlace} (ht : P.underlying t = some (.slice e)) (he : P.underlying e = some (.int .u8)) (hc : P.cellsOf e = 1)
    (hf : DataW.trod enc P w base spare held fuel t cs = some x) :
    ∃ (q : Option Addr) (xs : List Int) (cap : Nat), cs = [.slice q xs.length cap] ∧ At w q (xs.map v8) ∧ xs.length ≤ cap ∧ cap ≤ maxLen ∧ (q = none → cap = 0) ∧ (∀ n ∈ xs, 0 ≤ n ∧ n ≤ 255) := by
  rcases open_ints ht he hc hf with ⟨hcs, hx⟩ | ⟨a, len, cap, zs, hcs, _, hl, hm, hz, hx, hcell, hwz⟩
  · exact ⟨none, [], 0, hcs, At.nil _ _, Nat.le_refl _, by simp [maxLen], fun _ => rfl, by simp⟩
  · have hzl : len ≤ zs.length := by rw [hz]; split <;> omega
    have hlen : (zs.take len).length = len := by simp; omega
    refine ⟨some a, zs.take len, cap, by rw [hlen]; exact hcs, ?_, by rw [hlen]; exact hl, hm, (fun h => by cases h), fun n hn => bounds_u8 (hwz n (List.mem_of_mem_take hn))⟩
    by_cases h0 : len = 0
    · subst h0; simp; exact At.nil _ _
    · have h1 := hcell 0 (by omega)
      have hsp : a.spot = none := by
        have : a.add 0 = a := by simp [Addr.add]
        rw [this] at h1
        cases hs : a.spot with
        | none => rfl
        | some s =>
          unfold World.cell? at h1
          split at h1
          · simp [hs] at h1
          · cases h1
      obtain ⟨b, off, sp⟩ := a
      simp only at hsp
      subst hsp
      refine Or.inr ⟨b, off, rfl, fun i v hi => ?_⟩
      rw [List.getElem?_map] at hi
      rcases Nat.lt_or_ge i len with hlt | hge
      · rw [List.getElem?_take, if_pos hlt, List.getElem?_eq_getElem (by omega)] at hi
        simp at hi
        subst hi
        have := hcell i (by omega)
        rw [Addr.add_mid] at this
        rw [this]; simp [v8, List.getElem?_eq_getElem (show i < zs.length by omega)]
      · rw [List.getElem?_eq_none (by simp; omega)] at hi; cases hi
/-- An array of bytes in memory. -/
theorem cells_bytes {t e : TypeId} {n fuel : Nat} {cs : List Value} {x : DataW H × List MemPlace} (ht : P.underlying t = some (.array n e)) (he : P.underlying e = some (.int .u8)) (hce : P.cellsOf e = 1) (hct : P.cellsOf t = n)
    (hf : DataW.trod enc P w base spare held fuel t cs = some x) :
    ∃ xs : List Int, cs = xs.map v8 ∧ xs.length = n ∧ (∀ m ∈ xs, 0 ≤ m ∧ m ≤ 255) := by
  obtain ⟨ys, m, _, hx, hl, hyl, hel⟩ := DataW.trod_array ht hf
  simp only [hce, Nat.mul_one] at hel
  have hcl : cs.length = n := by rw [hl, hct]
  have each : ∀ i, i < n → ∃ z, cs[i]? = some (.int .u8 z) ∧ 0 ≤ z ∧ z ≤ 255 := by
    intro i hi
    have h1 := hel i hi
    obtain ⟨y, hy⟩ : ∃ y, ys[i]? = some y := ⟨ys[i], List.getElem?_eq_getElem (by omega)⟩
    rw [hy] at h1
    obtain ⟨z, hc, rfl, hwf⟩ := DataW.trod_int he h1
    refine ⟨z, ?_, bounds_u8 hwf⟩
    have := congrArg (·[0]?) hc
    simpa [List.getElem?_take, List.getElem?_drop] using this
  refine ⟨(cs.map fun c => match c with | .int _ z => z | _ => 0), ?_, by simpa using hcl, ?_⟩
  · simp only [List.map_map]
    apply List.ext_getElem?
    intro i
    rw [List.getElem?_map]
    by_cases hi : i < n
    · obtain ⟨z, hz, _⟩ := each i hi
      simp [hz, v8]
    · rw [List.getElem?_eq_none (by omega)]; rfl
  · intro q hq
    obtain ⟨c, hc, rfl⟩ := List.mem_map.1 hq
    obtain ⟨i, hi, hci⟩ := List.mem_iff_getElem.1 hc
    obtain ⟨z, hz, hb⟩ := each i (by omega)
    rw [List.getElem?_eq_getElem hi, hci] at hz
    cases hz
    exact hb
end
theorem flat_inv (ys : List Hdr) (h : ∀ y ∈ ys, y.1.ok) (j : Nat) (v : Value) (hv : (ys.flatMap cellsI)[j]? = some v) : ∃ (i r : Nat) (hi : i < ys.length), r < 34 ∧ j = i * 34 + r ∧ (cellsI ys[i])[r]? = some v := by
  induction ys generalizing j with
  | nil => simp at hv
  | cons y ys ih =>
    have hl : (cellsI y).length = 34 := icells_length (h y (List.mem_cons_self ..)) _ _
    rw [List.flatMap_cons] at hv
    by_cases hj : j < 34
    · rw [List.getElem?_append_left (by omega)] at hv
      exact ⟨0, j, by simp, hj, by omega, by simpa using hv⟩
    · rw [List.getElem?_append_right (by omega), hl] at hv
      obtain ⟨i, r, hi, hr, he, hv'⟩ := ih (fun y hy => h y (List.mem_cons_of_mem _ hy)) (j - 34) hv
      exact ⟨i + 1, r, by simpa using hi, hr, by omega, by simpa using hv'⟩
section
variable {H : Type} {enc : TypeId × Value → H} {w : World} {base : Nat} {spare : Nat → Bool} {held : Bool}
theorem cells34 : Try.prog.cellsOf 40 = 34 := by kernel_rfl
theorem cells32 : Try.prog.cellsOf 38 = 32 := by kernel_rfl
theorem cells1s : Try.prog.cellsOf 26 = 1 := by kernel_rfl
theorem cells1b : Try.prog.cellsOf 5 = 1 := by kernel_rfl
theorem cells1i : Try.prog.cellsOf 3 = 1 := by kernel_rfl
theorem open_item {fuel : Nat} {cs : List Value} {x : DataW H × List MemPlace} (h : DataW.trod enc Try.prog w base spare held fuel 40 cs = some x) :
    ∃ y : Hdr, cs = cellsI y ∧ GoodI w y.1 y.2.1 y.2.2 := by
  obtain ⟨y0, y1, y2, n, _, hl, h0, h1, h2⟩ := Deep.trod_struct3 Try.underlying40 h
  have h0' : DataW.trod enc Try.prog w base spare held n 3 ((cs.drop 0).take 1) = some y0 := by rw [← cells1i]; exact h0
  have h1' : DataW.trod enc Try.prog w base spare held n 26 ((cs.drop 1).take 1) = some y1 := by rw [← cells1s]; exact h1
  have h2' : DataW.trod enc Try.prog w base spare held n 38 ((cs.drop 2).take 32) = some y2 := by rw [← cells32]; exact h2
  rw [cells34] at hl
  clear h0 h1 h2 h
  obtain ⟨N, c0, _, hw0⟩ := DataW.trod_int Try.underlying3 h0'
  obtain ⟨q, B, cap, c1, hA, hle, hm, hn, hB⟩ := cells_bytesl Try.underlying26 Try.underlying5 cells1b h1'
  obtain ⟨D, c2, hD, hDb⟩ := cells_bytes Try.underlying38 Try.underlying5 cells1b cells32 h2'
  have hN := bounds_i64 hw0
  have e : cs = .int .i64 N :: .slice q B.length cap :: D.map v8 := by
    rcases cs with _ | ⟨a, _ | ⟨b, r⟩⟩
    · simp at hl
    · simp at hl
    · simp at c0 c1 c2 hl
      subst c0 c1
      rw [← c2, List.take_of_length_le (by omega)]
  refine ⟨(⟨N, B, D⟩, q, cap), ?_, ⟨⟨hN.1, hN.2, hB, hDb, hD⟩, hA, hle, by unfold maxLen at hm; omega, hn⟩⟩
  rw [e]; unfold cellsI icells; rfl
/-- Items among the arguments. -/
theorem open_items {r : Reach} {b0 : Nat} {v : Value} {d : DataW H} {p : List MemPlace} (hv : Value.okWide Try.prog w r b0 22 v) (h : DataW.Trod enc Try.prog w base spare held 22 v d p) :
    ∃ (q : Option Addr) (l : List Itm) (len cap : Nat), v = .slice q len cap ∧ Told w q len cap l := by
  obtain ⟨a0, len0, cap0, rfl⟩ := okWide_slice Try.underlying22 hv
  obtain ⟨fuel, hf⟩ := h
  rcases Deep.open_slice Try.underlying22 hf with ⟨hcs, hx⟩ | ⟨a, len, cap, m, n, D, Pl, hcs, _, hl, hm, hmm, hx, hel⟩
  · simp [Value.cells] at hcs
    obtain ⟨rfl, rfl, rfl⟩ := hcs
    exact ⟨none, [], 0, 0, rfl, Told.none_ _⟩
  · simp [Value.cells] at hcs
    obtain ⟨rfl, rfl, rfl⟩ := hcs
    have hlm : len0 ≤ m := by rw [hmm]; split <;> omega
    have key : ∀ i, i < len0 → ∃ y : Hdr, w.cells? base (a.add (i * 34)) 34 = some (cellsI y) ∧ GoodI w y.1 y.2.1 y.2.2 := by
      intro i hi
      obtain ⟨cs', h1, h2⟩ := hel i (by omega)
      rw [cells34] at h1
      obtain ⟨y, rfl, hg⟩ := open_item h2
      exact ⟨y, h1, hg⟩
    have : Inhabited Hdr := ⟨(⟨0, [], []⟩, none, 0)⟩
    obtain ⟨f, hF⟩ := Deep.choose_lt key
    have hgood : ∀ y ∈ (List.range len0).map f, GoodI w y.1 y.2.1 y.2.2 := by
      intro y hy
      obtain ⟨i, hi, rfl⟩ := List.mem_map.1 hy
      exact (hF i (List.mem_range.1 hi)).2
    refine ⟨some a, ((List.range len0).map f).map (·.1), len0, cap0, rfl, by simp, hl, by unfold maxLen at hm; omega, (fun h => by cases h), (List.range len0).map f, rfl, ?_, hgood⟩
    by_cases h0 : len0 = 0
    · subst h0; exact At.nil _ _
    · have h1 := (World.cells?_some (hF 0 (by omega)).1).2.2 0 (by omega)
      have hsp : a.spot = none := by
        have e : (a.add (0 * 34)).add 0 = a := by simp [Addr.add]
        rw [e, show (cellsI (f 0))[0]? = some (.int .i64 (f 0).1.N) from icells_0 _ _ _] at h1
        cases hs : a.spot with
        | none => rfl
        | some s =>
          unfold World.cell? at h1
          split at h1
          · simp [hs] at h1
          · cases h1
      obtain ⟨b, off, sp⟩ := a
      simp only at hsp
      subst hsp
      refine Or.inr ⟨b, off, rfl, fun j v hj => ?_⟩
      obtain ⟨i, r, hi, hr, rfl, hv'⟩ := flat_inv _ (fun y hy => (hgood y hy).ok) j v hj
      have h2 := (World.cells?_some (hF i (by simpa using hi)).1).2.2 r hr
      rw [Addr.add_mid, Addr.add_mid, Nat.add_assoc] at h2
      rw [h2]
      simpa using hv'
end
end Go.Proofs.Ytgakmkglejddeaa
