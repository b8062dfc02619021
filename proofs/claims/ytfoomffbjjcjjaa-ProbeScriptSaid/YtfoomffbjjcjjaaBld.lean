/-
  A slice of structs built of its elements: '[]T{a, b, c}', 'append(out, x)'.
-/
import Derived.Test.YtfoomffbjjcjjaaArr
import Derived.BigFrame
namespace Go.Proofs.Ytfoomffbjjcjjaa
set_option linter.unusedSimpArgs false
set_option linter.unusedVariables false
variable {P : Program}
theorem foldl_put : ∀ (vs : List Value) (pre mid post : List Value) (j : Nat) (off : Nat), pre.length = off + j → mid.length = vs.length →
    (vs.zipIdx j).foldl (fun (cs : Array Value) (x : Value × Nat) => cs.setIfInBounds (off + x.2) x.1) (pre ++ mid ++ post).toArray = (pre ++ vs ++ post).toArray
  | [], pre, mid, post, j, off, _, hm => by
    have : mid = [] := List.eq_nil_of_length_eq_zero hm
    subst this; simp
  | v :: vs, pre, mid, post, j, off, hp, hm => by
    cases mid with
    | nil => simp at hm
    | cons m mid =>
      rw [List.zipIdx_cons, List.foldl_cons]
      have e : (pre ++ (m :: mid) ++ post).toArray.setIfInBounds (off + j) v = ((pre ++ [v]) ++ mid ++ post).toArray := by
        rw [← hp, List.setIfInBounds_toArray]; simp
      rw [e, foldl_put vs (pre ++ [v]) mid post (j + 1) off (by simp; omega) (by simpa using hm)]
      simp
theorem put_cells (vs pre mid post : List Value) (off : Nat) (hp : pre.length = off) (hm : mid.length = vs.length) :
    (vs.toArray.zipIdx.foldl (fun (cs : Array Value) (x : Value × Nat) => cs.setIfInBounds (off + x.2) x.1) (pre ++ mid ++ post).toArray) = (pre ++ vs ++ post).toArray := by
  rw [← foldl_put vs pre mid post 0 off (by simpa using hp) hm, ← Array.foldl_toList]
  simp
/-- Parts one behind the other, all of one size, fill a row. -/
theorem fill_parts (s : Nat) : ∀ (css : List (List Value)) (i : Nat) (done rest : List Value), (∀ c ∈ css, c.length = s) → done.length = i * s → rest.length = css.length * s →
    Instr.fill (fun i => some (i * s, s)) (done ++ rest).toArray (css.zipIdx i |>.map fun c => (c.2, Value.agg c.1.toArray)) = some (done ++ css.flatten).toArray
  | [], i, done, rest, _, _, hr => by
    have : rest = [] := List.eq_nil_of_length_eq_zero (by simpa using hr)
    subst this; simp [Instr.fill]
  | c :: css, i, done, rest, hc, hd, hr => by
    have hl : c.length = s := hc c (List.mem_cons_self ..)
    have hr' : rest.length = css.length * s + s := by rw [hr, List.length_cons, Nat.succ_mul]
    rw [List.zipIdx_cons, List.map_cons, Instr.fill]
    dsimp only
    split
    · rename_i hne
      exfalso
      simp [Value.cells, hl, hd, hr'] at hne
      omega
    · show Instr.fill _ (Array.foldl _ (done ++ rest).toArray c.toArray.zipIdx) _ = _
      have e := put_cells c done (rest.take s) (rest.drop s) (i * s) hd (by rw [List.length_take, hl]; omega)
      rw [List.append_assoc, List.take_append_drop] at e
      rw [e, fill_parts s css (i + 1) (done ++ c) (rest.drop s) (fun c hc' => hc c (List.mem_cons_of_mem _ hc')) (by rw [List.length_append, hd, hl, Nat.succ_mul]) (by rw [List.length_drop]; omega)]
      simp
theorem run_build_items (w : World) (t e : TypeId) (s : Nat) (z : Value) (hs : 0 < s) (hu : P.underlying t = some (.slice e)) (he : (P.info? e).map (fun i => (i.zero, i.size)) = some (some z, s)) (css : List (List Value)) (hc : ∀ c ∈ css, c.length = s) (hk : css.length * s ≤ 16777216) :
    (Instr.buildSlice t css.length (css.zipIdx.map fun c => (c.2, Value.agg c.1.toArray)).toArray).run P w = .ok (.slice (some ⟨w.heap.size, 0, none⟩) css.length css.length) (w.alloc (.cells css.flatten.toArray e)) := by
  cases hq : P.info? e with
  | none => simp [hq] at he
  | some i =>
    simp [hq] at he
    obtain ⟨hz, hsz⟩ := he
    have h1 : (sizeOf e).run P w = .ok s w := by simp [sizeOf, typeInfo, hq, hsz]
    have h2 : (zeroValue e).run P w = .ok z w := by simp [zeroValue, typeInfo, hq, hz]
    have hf := fill_parts s css 0 [] ((Array.range (css.length * s)).map (fun x => z.cells[x % z.cells.size]!)).toList hc (by simp) (by simp)
    simp only [List.nil_append, Array.toArray_toList] at hf
    by_cases h0 : css.length * s = 0
    · have hn : css = [] := by
        cases css with
        | nil => rfl
        | cons c cs => rcases Nat.mul_eq_zero.1 h0 with h | h; simp at h; omega
      subst hn
      simp [go_sem, Instr.buildSlice, run_underlying hu, h1, Instr.fill]
    · have h16 : ¬ 16777216 < css.length * s := by omega
      simp [go_sem, Instr.buildSlice, run_underlying hu, h1, h2, h0, h16]
      unfold Value.cells at hf
      rw [hf]
      simp [go_sem]
end Go.Proofs.Ytfoomffbjjcjjaa
