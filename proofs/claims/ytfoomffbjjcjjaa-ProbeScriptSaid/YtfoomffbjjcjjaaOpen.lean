/-
  An array of bytes among the arguments: opened to its numbers, and shut again.
-/
import Derived.Test.YtfoomffbjjcjjaaArr
import Derived.ProofKit
import Derived.OpenShut
namespace Go.Proofs.Ytfoomffbjjcjjaa
set_option linter.unusedSimpArgs false
set_option linter.unusedVariables false
open Go.ChangeShapes Go.WideShapes Go.ChangeAt Go.RowKit
section
variable {H : Type} {enc : TypeId × Value → H} {P : Program} {w : World} {base : Nat} {spare : Nat → Bool} {held : Bool}
theorem mapM_some_length' {α β : Type} {f : α → Option β} : ∀ {l : List α} {ys : List β}, l.mapM f = some ys → ys.length = l.length
  | [], ys, h => by simp at h; simp [h]
  | a :: l, ys, h => by
    rw [List.mapM_cons] at h
    cases ha : f a with
    | none => simp [ha] at h
    | some y =>
      cases hl : l.mapM f with
      | none => simp [ha, hl] at h
      | some zs =>
        simp [ha, hl] at h
        subst h
        simp [mapM_some_length' hl]
/-- An array of bytes by value: its numbers. -/
theorem open_bytes {r : Reach} {b0 : Nat} {t e : TypeId} {n : Nat} {v : Value} {d : DataW H} {p : List MemPlace} (ht : P.underlying t = some (.array n e)) (he : P.underlying e = some (.int .u8)) (hce : P.cellsOf e = 1) (hct : P.cellsOf t = n)
    (hv : Value.okWide P w r b0 t v) (h : DataW.Trod enc P w base spare held t v d p) :
    ∃ xs : List Int, v = .agg (xs.map (Value.int .u8)).toArray ∧ xs.length = n ∧ (∀ m ∈ xs, 0 ≤ m ∧ m ≤ 255) ∧ d = .agg (xs.map fun m => .lit (.int .u8 m)) ∧ p = [] := by
  simp only [Value.okWide, ht] at hv
  obtain ⟨cs, rfl, hsz, _⟩ := hv
  obtain ⟨fuel, hf⟩ := h
  obtain ⟨ys, m, _, hx, hl, hyl, hel⟩ := DataW.trod_array ht hf
  simp only [Value.cells] at hl hel
  simp only [hce, Nat.mul_one] at hel
  have hcl : cs.toList.length = n := by rw [hl, hct]
  have each : ∀ i, i < n → ∃ z, cs.toList[i]? = some (.int .u8 z) ∧ ys[i]? = some (.lit (.int .u8 z), []) ∧ 0 ≤ z ∧ z ≤ 255 := by
    intro i hi
    have h1 := hel i hi
    have h2 : ∃ y, ys[i]? = some y := ⟨ys[i], List.getElem?_eq_getElem (by omega)⟩
    obtain ⟨y, hy⟩ := h2
    rw [hy] at h1
    obtain ⟨z, hc, rfl, hwf⟩ := DataW.trod_int he h1
    refine ⟨z, ?_, hy, bounds_u8 hwf⟩
    have := congrArg (·[0]?) hc
    simpa [List.getElem?_take, List.getElem?_drop] using this
  refine ⟨(cs.toList.map fun c => match c with | .int _ z => z | _ => 0), ?_, by simpa using hcl, ?_, ?_, ?_⟩
  · congr 1
    apply Array.ext'
    simp only [List.map_map]
    apply List.ext_getElem?
    intro i
    rw [List.getElem?_map]
    by_cases hi : i < n
    · obtain ⟨z, hz, _⟩ := each i hi
      simp [hz]
    · rw [List.getElem?_eq_none (by omega)]; rfl
  · intro q hq
    obtain ⟨c, hc, rfl⟩ := List.mem_map.1 hq
    obtain ⟨i, hi, hci⟩ := List.mem_iff_getElem.1 hc
    obtain ⟨z, hz, _, hb⟩ := each i (by omega)
    rw [List.getElem?_eq_getElem hi, hci] at hz
    cases hz
    exact hb
  · have h1 := congrArg Prod.fst hx
    simp only at h1
    rw [h1]
    congr 1
    apply List.ext_getElem?
    intro i
    rw [List.getElem?_map, List.getElem?_map, List.getElem?_map]
    by_cases hi : i < n
    · obtain ⟨z, hz, hy, _⟩ := each i hi
      simp [hz, hy]
    · rw [List.getElem?_eq_none (by omega), List.getElem?_eq_none (by omega)]; rfl
  · have h1 := congrArg Prod.snd hx
    simp only at h1
    rw [h1]
    apply List.flatMap_eq_nil_iff.2
    intro y hy
    obtain ⟨i, hi, hyi⟩ := List.mem_iff_getElem.1 hy
    obtain ⟨z, _, hz, _⟩ := each i (by omega)
    rw [List.getElem?_eq_getElem hi, hyi] at hz
    cases hz
    rfl
theorem mapM_range_some {α : Type} (f : Nat → Option α) (g : Nat → α) : ∀ (l : List Nat), (∀ i ∈ l, f i = some (g i)) → l.mapM f = some (l.map g)
  | [], _ => by simp
  | a :: l, h => by
    rw [List.mapM_cons, h a (by simp), mapM_range_some f g l (fun i hi => h i (by simp [hi]))]
    simp
theorem shut_bytes {t e : TypeId} {n : Nat} (ht : P.underlying t = some (.array n e)) (he : P.underlying e = some (.int .u8)) (hce : P.cellsOf e = 1) (hct : P.cellsOf t = n)
    (xs : List Int) (hl : xs.length = n) (hb : ∀ m ∈ xs, 0 ≤ m ∧ m ≤ 255) :
    DataW.Trod enc P w base spare held t (.agg (xs.map (Value.int .u8)).toArray) (.agg (xs.map fun m => .lit (.int .u8 m))) [] := by
  refine ⟨2, ?_⟩
  have key : ∀ i ∈ List.range n, DataW.trod enc P w base spare held 1 e (((xs.map (Value.int .u8)).drop i).take 1) = some (.lit (.int .u8 (xs.getD i 0)), []) := by
    intro i hi
    have hi' : i < xs.length := by rw [hl]; exact List.mem_range.1 hi
    have h1 : ((xs.map (Value.int .u8)).drop i).take 1 = [.int .u8 xs[i]] := by
      rw [List.drop_eq_getElem_cons (by simpa using hi')]; simp
    have h2 := hb xs[i] (List.getElem_mem hi')
    have h3 : (Lit.int .u8 xs[i]).wf = true := WalkArith.wf_u8 (by omega)
    rw [h1]
    simp [DataW.trod, he, h3, hi']
  have hm := mapM_range_some (fun i => DataW.trod enc P w base spare held 1 e (((xs.map (Value.int .u8)).drop i).take 1)) (fun i => ((.lit (.int .u8 (xs.getD i 0)), []) : DataW H × List MemPlace)) (List.range n) key
  have hcells : (Value.agg (xs.map (Value.int .u8)).toArray).cells.toList = xs.map (Value.int .u8) := by simp [Value.cells]
  rw [hcells]
  unfold DataW.trod
  simp only [ht, hce, Nat.mul_one, hct, List.length_map, hl, if_true, hm]
  simp only [Option.map_some, List.map_map, Option.some.injEq, Prod.mk.injEq]
  refine ⟨?_, by simp⟩
  congr 1
  apply List.ext_getElem?
  intro i
  rw [List.getElem?_map, List.getElem?_map]
  by_cases hi : i < n
  · simp [hi, hl]
  · simp [hi, hl]
end
end Go.Proofs.Ytfoomffbjjcjjaa
