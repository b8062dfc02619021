/-
  What rows ask of the program itself; a slice of bytes among the arguments.
  A slice of bytes in memory that is looked through, opened.
  Words among the arguments, opened: one by its value, and slices of them.
  A slice of numbers (int) among the arguments, opened.
-/
import Derived.Test.YtocfcfoocmkkdaaQ21
import Derived.Test.YtocfcfoocmkkdaaQ2
import Derived.Test.YtocfcfoocmkkdaaRows
import Derived.ChangeSlices
import Derived.Test.YtocfcfoocmkkdaaQ1
import Derived.OpenShut
import Derived.Deep.Slices
import Derived.Deep.Strs
import Derived.Test.YtocfcfoocmkkdaaQ4
import Derived.Test.YtocfcfoocmkkdaaQ7
namespace Go.Proofs.Ytocfcfoocmkkdaa
section
set_option linter.unusedSimpArgs false
set_option linter.unusedVariables false
open Go.ChangeShapes Go.WideShapes Go.ChangeAt Go.RowKit
theorem Try.own : ownKnob Try.prog.godebug = none := by kernel_rfl
theorem Try.laidOut : laidOutB Try.prog = true := by kernel_rfl
section
variable {H : Type} {enc : TypeId × Value → H} {P : Program} {w : World} {base : Nat} {spare : Nat → Bool} {held : Bool}
theorem wf_bounds8 {n : Int} (h : (Lit.int .u8 n).wf = true) : 0 ≤ n ∧ n ≤ 255 := bounds_u8 h
/-- A slice of bytes among the arguments: its numbers. -/
theorem open_bytesl {r : Reach} {b0 : Nat} {t e : TypeId} {v : Value} {d : DataW H} {p : List MemPlace} (ht : P.underlying t = some (.slice e)) (he : P.underlying e = some (.int .u8)) (hc : P.cellsOf e = 1)
    (hv : Value.okWide P w r b0 t v) (h : DataW.Trod enc P w base spare held t v d p) :
    ∃ (q : Option Addr) (xs : List Int) (len cap : Nat), v = .slice q len cap ∧ xs.length = len ∧ At w q (xs.map (Value.int .u8)) ∧ len ≤ cap ∧ cap ≤ maxLen ∧ (q = none → cap = 0) ∧ (∀ n ∈ xs, 0 ≤ n ∧ n ≤ 255) := by
  obtain ⟨a0, len0, cap0, rfl⟩ := okWide_slice ht hv
  obtain ⟨fuel, hf⟩ := h
  rcases open_ints ht he hc hf with ⟨hcs, hx⟩ | ⟨a, len, cap, zs, hcs, _, hl, hm, hz, hx, hcell, hwz⟩
  · simp [Value.cells] at hcs
    obtain ⟨rfl, rfl, rfl⟩ := hcs
    exact ⟨none, [], 0, 0, rfl, rfl, At.nil _ _, Nat.le_refl _, by simp [maxLen], fun _ => rfl, by simp⟩
  · simp [Value.cells] at hcs
    obtain ⟨rfl, rfl, rfl⟩ := hcs
    have hzl : len0 ≤ zs.length := by rw [hz]; split <;> omega
    refine ⟨some a, zs.take len0, len0, cap0, rfl, by simp; omega, ?_, hl, hm, (fun h => by cases h), fun n hn => bounds_u8 (hwz n (List.mem_of_mem_take hn))⟩
    by_cases h0 : len0 = 0
    · subst h0; simp; exact At.nil _ _
    · have h1 := hcell 0 (by omega)
      have hsp : a.spot = none := by
        have : a.add 0 = a := by simp [Addr.add]
        rw [this] at h1
        cases hs : a.spot with
        | none => rfl
        | some s =>
          unfold World.cell? at h1
          split at h1
          · simp [hs] at h1
          · cases h1
      obtain ⟨b, off, sp⟩ := a
      simp only at hsp
      subst hsp
      refine Or.inr ⟨b, off, rfl, fun i v hi => ?_⟩
      rw [List.getElem?_map] at hi
      rcases Nat.lt_or_ge i len0 with hlt | hge
      · rw [List.getElem?_take, if_pos hlt, List.getElem?_eq_getElem (by omega)] at hi
        simp at hi
        subst hi
        have := hcell i (by omega)
        rw [Addr.add_mid] at this
        rw [this]; simp [List.getElem?_eq_getElem (show i < zs.length by omega)]
      · rw [List.getElem?_eq_none (by simp; omega)] at hi; cases hi
end
end
section
set_option linter.unusedSimpArgs false
set_option linter.unusedVariables false
open Go.ChangeShapes Go.WideShapes Go.ChangeAt Go.RowKit Sha
section
variable {H : Type} {enc : TypeId × Value → H} {P : Program} {w : World} {base : Nat} {spare : Nat → Bool} {held : Bool}
/-- A slice of bytes in memory: its numbers. -/
theorem cells_bytesl {t e : TypeId} {fuel : Nat} {cs : List Value} {x : DataW H × List MemPlace} (ht : P.underlying t = some (.slice e)) (he : P.underlying e = some (.int .u8)) (hc : P.cellsOf e = 1)
    (hf : DataW.trod enc P w base spare held fuel t cs = some x) :
    ∃ (q : Option Addr) (xs : List Int) (cap : Nat), cs = [.slice q xs.length cap] ∧ At w q (xs.map v8) ∧ xs.length ≤ cap ∧ cap ≤ maxLen ∧ (q = none → cap = 0) ∧ (∀ n ∈ xs, 0 ≤ n ∧ n ≤ 255) := by
  rcases open_ints ht he hc hf with ⟨hcs, hx⟩ | ⟨a, len, cap, zs, hcs, _, hl, hm, hz, hx, hcell, hwz⟩
  · exact ⟨none, [], 0, hcs, At.nil _ _, Nat.le_refl _, by simp [maxLen], fun _ => rfl, by simp⟩
  · have hzl : len ≤ zs.length := by rw [hz]; split <;> omega
    have hlen : (zs.take len).length = len := by simp; omega
    refine ⟨some a, zs.take len, cap, by rw [hlen]; exact hcs, ?_, by rw [hlen]; exact hl, hm, (fun h => by cases h), fun n hn => bounds_u8 (hwz n (List.mem_of_mem_take hn))⟩
    by_cases h0 : len = 0
    · subst h0; simp; exact At.nil _ _
    · have h1 := hcell 0 (by omega)
      have hsp : a.spot = none := by
        have : a.add 0 = a := by simp [Addr.add]
        rw [this] at h1
        cases hs : a.spot with
        | none => rfl
        | some s =>
          unfold World.cell? at h1
          split at h1
          · simp [hs] at h1
          · cases h1
      obtain ⟨b, off, sp⟩ := a
      simp only at hsp
      subst hsp
      refine Or.inr ⟨b, off, rfl, fun i v hi => ?_⟩
      rw [List.getElem?_map] at hi
      rcases Nat.lt_or_ge i len with hlt | hge
      · rw [List.getElem?_take, if_pos hlt, List.getElem?_eq_getElem (by omega)] at hi
        simp at hi
        subst hi
        have := hcell i (by omega)
        rw [Addr.add_mid] at this
        rw [this]; simp [v8, List.getElem?_eq_getElem (show i < zs.length by omega)]
      · rw [List.getElem?_eq_none (by simp; omega)] at hi; cases hi
end
end
section
set_option linter.unusedSimpArgs false
set_option linter.unusedVariables false
open Go.ChangeShapes Go.WideShapes Go.ChangeAt Go.RowKit Sha
section
variable {H : Type} {enc : TypeId × Value → H} {w : World} {base : Nat} {spare : Nat → Bool} {held : Bool}
theorem cells3m : Try.prog.cellsOf 29 = 3 := by kernel_rfl
theorem cells1im : Try.prog.cellsOf 3 = 1 := by kernel_rfl
theorem open_memc {fuel : Nat} {cs : List Value} {x : DataW H × List MemPlace} (h : DataW.trod enc Try.prog w base spare held fuel 29 cs = some x) : ∃ m : Mb, cs = mc m ∧ m.ok := by
  obtain ⟨y0, y1, y2, n, _, hl, h0, h1, h2⟩ := Deep.trod_struct3 Try.underlying29 h
  have h0' : DataW.trod enc Try.prog w base spare held n 3 ((cs.drop 0).take 1) = some y0 := by rw [← cells1im]; exact h0
  have h1' : DataW.trod enc Try.prog w base spare held n 3 ((cs.drop 1).take 1) = some y1 := by rw [← cells1im]; exact h1
  have h2' : DataW.trod enc Try.prog w base spare held n 3 ((cs.drop 2).take 1) = some y2 := by rw [← cells1im]; exact h2
  rw [cells3m] at hl
  clear h0 h1 h2 h
  obtain ⟨I, c0, _, hw0⟩ := DataW.trod_int Try.underlying3 h0'
  obtain ⟨S, c1, _, hw1⟩ := DataW.trod_int Try.underlying3 h1'
  obtain ⟨N, c2, _, hw2⟩ := DataW.trod_int Try.underlying3 h2'
  have e : cs = mc ⟨I, S, N⟩ := by
    rcases cs with _ | ⟨a, _ | ⟨b, _ | ⟨c, r⟩⟩⟩
    · simp at hl
    · simp at hl
    · simp at hl
    · simp at c0 c1 c2 hl
      subst c0 c1 c2 hl
      rfl
  exact ⟨⟨I, S, N⟩, e, ⟨bounds_i64 hw0, bounds_i64 hw1, bounds_i64 hw2⟩⟩
/-- A word among the arguments. -/
theorem open_mem1 {r : Reach} {b0 : Nat} {v : Value} {d : DataW H} {p : List MemPlace} (hv : Value.okWide Try.prog w r b0 29 v) (h : DataW.Trod enc Try.prog w base spare held 29 v d p) :
    ∃ m : Mb, v = mv m ∧ m.ok := by
  obtain ⟨cs, rfl, _⟩ := okWide_struct Try.underlying29 hv
  obtain ⟨fuel, hf⟩ := h
  obtain ⟨m, h1, h2⟩ := open_memc hf
  simp [Value.cells] at h1
  exact ⟨m, by rw [← Array.toArray_toList (xs := cs), h1], h2⟩
/-- A slice of words among the arguments. -/
theorem open_mems {r : Reach} {b0 : Nat} {v : Value} {d : DataW H} {p : List MemPlace} (hv : Value.okWide Try.prog w r b0 22 v) (h : DataW.Trod enc Try.prog w base spare held 22 v d p) :
    ∃ (q : Option Addr) (l : List Mb) (len cap : Nat), v = .slice q len cap ∧ l.length = len ∧ GoodW w l q cap := by
  obtain ⟨a0, len0, cap0, rfl⟩ := okWide_slice Try.underlying22 hv
  obtain ⟨fuel, hf⟩ := h
  rcases Deep.open_slice Try.underlying22 hf with ⟨hcs, hx⟩ | ⟨a, len, cap, m, n, D, Pl, hcs, _, hl, hm, hmm, hx, hel⟩
  · simp [Value.cells] at hcs
    obtain ⟨rfl, rfl, rfl⟩ := hcs
    exact ⟨none, [], 0, 0, rfl, rfl, by simp, At.nil _ _, by simp, by omega, fun _ => rfl⟩
  · simp [Value.cells] at hcs
    obtain ⟨rfl, rfl, rfl⟩ := hcs
    have hlm : len0 ≤ m := by rw [hmm]; split <;> omega
    have key : ∀ i, i < len0 → ∃ y : Mb, w.cells? base (a.add (i * 3)) 3 = some (mc y) ∧ y.ok := by
      intro i hi
      obtain ⟨cs', h1, h2⟩ := hel i (by omega)
      rw [cells3m] at h1
      obtain ⟨y, rfl, hg⟩ := open_memc h2
      exact ⟨y, h1, hg⟩
    have : Inhabited Mb := ⟨Mb.none⟩
    obtain ⟨f, hF⟩ := Deep.choose_lt key
    have hlen : ((List.range len0).map f).length = len0 := by simp
    refine ⟨some a, (List.range len0).map f, len0, cap0, rfl, hlen, ?_, ?_, by rw [hlen]; exact hl, by unfold maxLen at hm; omega, (fun h => by cases h)⟩
    · intro y hy
      obtain ⟨i, hi, rfl⟩ := List.mem_map.1 hy
      exact (hF i (List.mem_range.1 hi)).2
    by_cases h0 : len0 = 0
    · subst h0; exact At.nil _ _
    · have h1 := (World.cells?_some (hF 0 (by omega)).1).2.2 0 (by omega)
      have hsp : a.spot = none := by
        have e : (a.add (0 * 3)).add 0 = a := by simp [Addr.add]
        rw [e, show (mc (f 0))[0]? = some (.int .i64 (f 0).I) from rfl] at h1
        cases hs : a.spot with
        | none => rfl
        | some s =>
          unfold World.cell? at h1
          split at h1
          · simp [hs] at h1
          · cases h1
      obtain ⟨b, off, sp⟩ := a
      simp only at hsp
      subst hsp
      refine Or.inr ⟨b, off, rfl, fun j v hj => ?_⟩
      obtain ⟨i, r, hi, hr, rfl, hv'⟩ := wflat_inv _ j v hj
      have h2 := (World.cells?_some (hF i (by simpa using hi)).1).2.2 r hr
      rw [Addr.add_mid, Addr.add_mid, Nat.add_assoc] at h2
      rw [h2]
      simpa using hv'
end
end
section
set_option linter.unusedSimpArgs false
set_option linter.unusedVariables false
open Go.ChangeShapes Go.WideShapes Go.ChangeAt Go.RowKit Sha
section
variable {H : Type} {enc : TypeId × Value → H} {P : Program} {w : World} {base : Nat} {spare : Nat → Bool} {held : Bool}
theorem open_nums {r : Reach} {b0 : Nat} {t e : TypeId} {v : Value} {d : DataW H} {p : List MemPlace} (ht : P.underlying t = some (.slice e)) (he : P.underlying e = some (.int .i64)) (hc : P.cellsOf e = 1)
    (hv : Value.okWide P w r b0 t v) (h : DataW.Trod enc P w base spare held t v d p) :
    ∃ (q : Option Addr) (xs : List Int) (len cap : Nat), v = .slice q len cap ∧ xs.length = len ∧ GoodN w xs q cap := by
  obtain ⟨a0, len0, cap0, rfl⟩ := okWide_slice ht hv
  obtain ⟨fuel, hf⟩ := h
  rcases open_ints ht he hc hf with ⟨hcs, hx⟩ | ⟨a, len, cap, zs, hcs, _, hl, hm, hz, hx, hcell, hwz⟩
  · simp [Value.cells] at hcs
    obtain ⟨rfl, rfl, rfl⟩ := hcs
    exact ⟨none, [], 0, 0, rfl, rfl, by simp, At.nil _ _, by simp, by omega, fun _ => rfl⟩
  · simp [Value.cells] at hcs
    obtain ⟨rfl, rfl, rfl⟩ := hcs
    have hzl : len0 ≤ zs.length := by rw [hz]; split <;> omega
    have hlen : (zs.take len0).length = len0 := by simp; omega
    refine ⟨some a, zs.take len0, len0, cap0, rfl, hlen, fun n hn => bounds_i64 (hwz n (List.mem_of_mem_take hn)), ?_, by rw [hlen]; exact hl, by unfold maxLen at hm; omega, fun h => by cases h⟩
    by_cases h0 : len0 = 0
    · subst h0; simp; exact At.nil _ _
    · have h1 := hcell 0 (by omega)
      have hsp : a.spot = none := by
        have : a.add 0 = a := by simp [Addr.add]
        rw [this] at h1
        cases hs : a.spot with
        | none => rfl
        | some s =>
          unfold World.cell? at h1
          split at h1
          · simp [hs] at h1
          · cases h1
      obtain ⟨b, off, sp⟩ := a
      simp only at hsp
      subst hsp
      refine Or.inr ⟨b, off, rfl, fun i v hi => ?_⟩
      rw [List.getElem?_map] at hi
      rcases Nat.lt_or_ge i len0 with hlt | hge
      · rw [List.getElem?_take, if_pos hlt, List.getElem?_eq_getElem (by omega)] at hi
        simp at hi
        subst hi
        have := hcell i (by omega)
        rw [Addr.add_mid] at this
        rw [this]; simp [v64, List.getElem?_eq_getElem (show i < zs.length by omega)]
      · rw [List.getElem?_eq_none (by simp; omega)] at hi; cases hi
end
end
end Go.Proofs.Ytocfcfoocmkkdaa
