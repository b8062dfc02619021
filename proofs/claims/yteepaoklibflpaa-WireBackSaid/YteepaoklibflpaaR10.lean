/-
  Structs in memory, of any shape: so many cells each, among them (perhaps) a slice of bytes. What lies from an address on; rows of the call's own. General: no function is named here.
  A slice of structs built of its elements: '[]T{a, b, c}', 'append(out, x)'.
  Structs loaded and built, as one operation each: names that the walk does not open.
  append onto a slice of the call's own, as a step of a region that draws its order; a slice of structs appended to.
-/
import Derived.Test.YteepaoklibflpaaR9
import Derived.Test.YteepaoklibflpaaR8
import Derived.BigFrame
import Derived.Deep.RegionLaw
import Derived.Deep.AppendLies
namespace Go.Proofs.Yteepaoklibflpaa
section
set_option linter.unusedSimpArgs false
set_option linter.unusedVariables false
open Go.RowKit Sha
variable {P : Program}
/-- A shape: how many cells; the bytes of its slice; the cells, where those lie at q with room for c. -/
structure Shp (V : Type) where
  n : Nat
  byt : V → List Int
  cells : V → Option Addr → Nat → List Value
  ok : V → Prop
  pos : 0 < n
  len : ∀ {x} q c, ok x → (cells x q c).length = n
  one : ∀ x q c, ∀ v ∈ cells x q c, v.oneCell' = true
  byte : ∀ {x}, ok x → ∀ m ∈ byt x, 0 ≤ m ∧ m ≤ 255
section
variable {V : Type} (S : Shp V)
abbrev Hd (V : Type) := V × Option Addr × Nat
def Shp.row (y : Hd V) : List Value := S.cells y.1 y.2.1 y.2.2
structure Shp.Good (w : World) (x : V) (q : Option Addr) (c : Nat) : Prop where
  ok : S.ok x
  at_ : At w q ((S.byt x).map v8)
  le : (S.byt x).length ≤ c
  max : c ≤ 9223372036854775807
  nil : q = none → c = 0
variable {S}
theorem Shp.Good.carry {w w' : World} {x : V} {q : Option Addr} {c : Nat} (h : S.Good w x q c) (hc : ∀ p v, w.cell? p = some v → w'.cell? p = some v) : S.Good w' x q c := ⟨h.ok, h.at_.carry hc, h.le, h.max, h.nil⟩
theorem Shp.Good.below {w w' : World} {x : V} {q : Option Addr} {c : Nat} (h : S.Good w x q c) (hb : Below w.heap.size w w') : S.Good w' x q c := ⟨h.ok, h.at_.below hb, h.le, h.max, h.nil⟩
variable (S)
def Shp.At (w : World) (p : Option Addr) (xs : List V) : Prop := ∃ ys : List (Hd V), ys.map (·.1) = xs ∧ Go.Proofs.Yteepaoklibflpaa.At w p (ys.flatMap S.row) ∧ ∀ y ∈ ys, S.Good w y.1 y.2.1 y.2.2
/-- A slice of them: what is told, or came in. -/
structure Shp.Told (w : World) (p : Option Addr) (n c : Nat) (l : List V) : Prop where
  len : n = l.length
  le : n ≤ c
  max : c ≤ 9223372036854775807
  nil : p = none → c = 0
  rows : S.At w p l
variable {S}
theorem Shp.At.below {w w' : World} {p : Option Addr} {xs : List V} (h : S.At w p xs) (hb : Below w.heap.size w w') : S.At w' p xs := by
  obtain ⟨ys, h1, h2, h3⟩ := h
  exact ⟨ys, h1, h2.below hb, fun y hy => (h3 y hy).below hb⟩
theorem Shp.At.carry {w w' : World} {p : Option Addr} {xs : List V} (h : S.At w p xs) (hc : ∀ p v, w.cell? p = some v → w'.cell? p = some v) : S.At w' p xs := by
  obtain ⟨ys, h1, h2, h3⟩ := h
  exact ⟨ys, h1, h2.carry hc, fun y hy => (h3 y hy).carry hc⟩
theorem Shp.At.none_ (w : World) (p : Option Addr) : S.At w p [] := ⟨[], rfl, Go.Proofs.Yteepaoklibflpaa.At.nil _ _, by simp⟩
theorem Shp.At.ok {w : World} {p : Option Addr} {xs : List V} (h : S.At w p xs) : ∀ x ∈ xs, S.ok x := by
  obtain ⟨ys, rfl, _, h3⟩ := h
  intro x hx
  obtain ⟨y, hy, rfl⟩ := List.mem_map.1 hx
  exact (h3 y hy).ok
theorem Shp.flat_length (ys : List (Hd V)) (h : ∀ y ∈ ys, S.ok y.1) : (ys.flatMap S.row).length = ys.length * S.n := by
  induction ys with
  | nil => simp
  | cons y ys ih =>
    rw [List.flatMap_cons, List.length_append, ih (fun y hy => h y (List.mem_cons_of_mem _ hy)), List.length_cons]
    unfold Shp.row
    rw [S.len _ _ (h y (List.mem_cons_self ..)), Nat.succ_mul]; omega
theorem Shp.flat_get (ys : List (Hd V)) (h : ∀ y ∈ ys, S.ok y.1) (i : Nat) (hi : i < ys.length) (j : Nat) (v : Value) (hv : (S.row ys[i])[j]? = some v) : (ys.flatMap S.row)[i * S.n + j]? = some v := by
  induction ys generalizing i with
  | nil => simp at hi
  | cons y ys ih =>
    have hl : (S.row y).length = S.n := S.len _ _ (h y (List.mem_cons_self ..))
    rw [List.flatMap_cons]
    cases i with
    | zero =>
      simp at hv
      rw [Nat.zero_mul, Nat.zero_add, List.getElem?_append_left (List.getElem?_eq_some_iff.1 hv).1]
      exact hv
    | succ i =>
      simp at hv
      rw [List.getElem?_append_right (by rw [hl, Nat.succ_mul]; omega), show (i + 1) * S.n + j - (S.row y).length = i * S.n + j by rw [hl, Nat.succ_mul]; omega]
      exact ih (fun y hy => h y (List.mem_cons_of_mem _ hy)) i (by simpa using hi) hv
theorem flat_mul {ys : List (Hd V)} (S : Shp V) (h : 0 < ys.length) : 0 < ys.length * S.n := Nat.mul_pos h S.pos
/-- The i-th one: where it lies, and its bytes. -/
theorem Shp.At.get {w : World} {p : Option Addr} {xs : List V} (h : S.At w p xs) (i : Nat) (hi : i < xs.length) :
    ∃ b off q c, p = some ⟨b, off, none⟩ ∧ w.rangeAt b (off + i * S.n) (S.cells xs[i] q c) ∧ S.Good w xs[i] q c := by
  obtain ⟨ys, rfl, h2, h3⟩ := h
  rw [List.length_map] at hi
  have hok : ∀ y ∈ ys, S.ok y.1 := fun y hy => (h3 y hy).ok
  obtain ⟨b, off, rfl, hc⟩ := h2.addr (by rw [Shp.flat_length ys hok]; exact flat_mul S (by omega))
  refine ⟨b, off, (ys[i]).2.1, (ys[i]).2.2, rfl, fun j v hv => ?_, ?_⟩
  · rw [Nat.add_assoc]
    exact hc _ v (Shp.flat_get ys hok i hi j v (by simpa [Shp.row] using hv))
  · simpa using h3 ys[i] (List.getElem_mem hi)
/-- What is left behind the first k: the address stays where the room is used up. -/
theorem Shp.At.drop {w : World} {p : Option Addr} {xs : List V} (h : S.At w p xs) (k cap : Nat) (hk : k ≤ xs.length) (hc : xs.length ≤ cap) : S.At w (if cap = k then p else p.map (·.add (k * S.n))) (xs.drop k) := by
  obtain ⟨ys, rfl, h2, h3⟩ := h
  rw [List.length_map] at hk hc
  refine ⟨ys.drop k, by rw [List.map_drop], ?_, fun y hy => h3 y (List.mem_of_mem_drop hy)⟩
  by_cases e : cap = k
  · have : ys.drop k = [] := List.drop_eq_nil_of_le (by omega)
    rw [this]; exact Go.Proofs.Yteepaoklibflpaa.At.nil _ _
  · rw [if_neg e]
    have hok : ∀ y ∈ ys, S.ok y.1 := fun y hy => (h3 y hy).ok
    by_cases e2 : ys.drop k = []
    · rw [e2]; exact Go.Proofs.Yteepaoklibflpaa.At.nil _ _
    · have hlen : k < ys.length := by
        rcases Nat.lt_or_ge k ys.length with h | h
        · exact h
        · exact absurd (List.drop_eq_nil_of_le h) e2
      obtain ⟨b, off, rfl, hc2⟩ := h2.addr (by rw [Shp.flat_length ys hok]; exact flat_mul S (by omega))
      have hsplit : ys.flatMap S.row = (ys.take k).flatMap S.row ++ (ys.drop k).flatMap S.row := by rw [← List.flatMap_append, List.take_append_drop]
      have hl : ((ys.take k).flatMap S.row).length = k * S.n := by rw [Shp.flat_length _ (fun y hy => hok y (List.mem_of_mem_take hy)), List.length_take, Nat.min_eq_left (by omega)]
      refine Or.inr ⟨b, off + k * S.n, by simp [Addr.add_mid], fun i v hi => ?_⟩
      rw [Nat.add_assoc]
      refine hc2 _ v ?_
      rw [hsplit, List.getElem?_append_right (by rw [hl]; omega), hl, Nat.add_sub_cancel_left]
      exact hi
theorem Shp.Told.below {w w' : World} {p : Option Addr} {n c : Nat} {l : List V} (h : S.Told w p n c l) (hb : Below w.heap.size w w') : S.Told w' p n c l := ⟨h.len, h.le, h.max, h.nil, h.rows.below hb⟩
theorem Shp.Told.carry {w w' : World} {p : Option Addr} {n c : Nat} {l : List V} (h : S.Told w p n c l) (hc : ∀ p v, w.cell? p = some v → w'.cell? p = some v) : S.Told w' p n c l := ⟨h.len, h.le, h.max, h.nil, h.rows.carry hc⟩
theorem Shp.Told.none_ (w : World) : S.Told w none 0 0 [] := ⟨rfl, by omega, by omega, fun _ => rfl, Shp.At.none_ w _⟩
theorem Shp.Told.drop {w : World} {p : Option Addr} {n c : Nat} {l : List V} (h : S.Told w p n c l) (k : Nat) (hk : k ≤ n) : S.Told w (if c = k then p else p.map (·.add (k * S.n))) (n - k) (c - k) (l.drop k) := by
  have h1 := h.len
  have h2 := h.le
  have h3 := h.max
  have h4 := h.nil
  refine ⟨by rw [List.length_drop]; omega, by omega, by omega, fun e => ?_, h.rows.drop k c (by omega) (by omega)⟩
  split at e
  · omega
  · cases p with
    | none => have := h4 rfl; omega
    | some a => simp at e
/-! ### Rows of the call's own -/
variable (S)
/-- A row of the call's own: each one's bytes lie somewhere. -/
structure Shp.Own (w : World) (B : Nat) (t : TypeId) (v : Value) (ys : List (Hd V)) : Prop where
  own : w.ownsRow B t S.n v ys.length (ys.flatMap S.row)
  good : ∀ y ∈ ys, S.Good w y.1 y.2.1 y.2.2
variable {S}
theorem Shp.Own.told {w : World} {B : Nat} {t : TypeId} {v : Value} {ys : List (Hd V)} (h : S.Own w B t v ys) {xs : List V} (hx : ys.map (·.1) = xs) : ∃ q c', v = .slice q xs.length c' ∧ S.Told w q xs.length c' xs := by
  have hl : ys.length = xs.length := by rw [← hx, List.length_map]
  have ho := h.own
  rw [hl] at ho
  have hi : ∀ q, Go.Proofs.Yteepaoklibflpaa.At w q (ys.flatMap S.row) → S.At w q xs := fun q hA => ⟨ys, hx, hA, h.good⟩
  rcases ho.2 with ⟨hv, h0⟩ | ⟨g, cap, cur, hv, hg, hh, h1, h2, h3, h4⟩
  · refine ⟨none, 0, by rw [hv, h0], rfl, by omega, by omega, fun _ => rfl, hi none (Or.inl ?_)⟩
    have := ho.1
    rw [h0] at this
    exact List.eq_nil_of_length_eq_zero (by simpa using this)
  · refine ⟨_, cap, hv, rfl, h1, by unfold maxLen at h2; omega, (fun h => by cases h), hi _ (Or.inr ⟨g, 0, rfl, fun i u hu => ?_⟩)⟩
    have := ho.cells (g := g) (by rw [hv]; rfl) i u hu
    rwa [Addr.add_mid] at this
theorem Shp.Own.none_ (w : World) (B : Nat) (t : TypeId) : S.Own w B t (.slice none 0 0) [] := ⟨World.ownsRow_nil _ _ _ _, by simp⟩
theorem Shp.all (x : V) (q : Option Addr) (c : Nat) : (S.cells x q c).toArray.all (·.oneCell') = true := by
  rw [Array.all_eq_true]
  intro i hi
  simp only [List.getElem_toArray]
  exact S.one x q c _ (List.getElem_mem _)
theorem Shp.flat_one (ys : List (Hd V)) : ∀ v ∈ ys.flatMap S.row, v.oneCell' = true := by
  intro v hv
  obtain ⟨y, _, hv⟩ := List.mem_flatMap.1 hv
  exact S.one _ _ _ v hv
/-- What is told as a list of rows. -/
theorem Shp.Told.rows' {w : World} {p : Option Addr} {n c : Nat} {l : List V} (h : S.Told w p n c l) : ∃ ys : List (Hd V), ys.map (·.1) = l ∧ ys.length = n ∧ Go.Proofs.Yteepaoklibflpaa.At w p (ys.flatMap S.row) ∧ (∀ y ∈ ys, S.Good w y.1 y.2.1 y.2.2) ∧ (ys.flatMap S.row).length = n * S.n := by
  obtain ⟨ys, h1, h2, h3⟩ := h.rows
  have hl : ys.length = n := by rw [h.len, ← h1, List.length_map]
  exact ⟨ys, h1, hl, h2, h3, by rw [Shp.flat_length ys (fun y hy => (h3 y hy).ok), hl]⟩
end
end
section
set_option linter.unusedSimpArgs false
set_option linter.unusedVariables false
variable {P : Program}
theorem foldl_put : ∀ (vs : List Value) (pre mid post : List Value) (j : Nat) (off : Nat), pre.length = off + j → mid.length = vs.length →
    (vs.zipIdx j).foldl (fun (cs : Array Value) (x : Value × Nat) => cs.setIfInBounds (off + x.2) x.1) (pre ++ mid ++ post).toArray = (pre ++ vs ++ post).toArray
  | [], pre, mid, post, j, off, _, hm => by
    have : mid = [] := List.eq_nil_of_length_eq_zero hm
    subst this; simp
  | v :: vs, pre, mid, post, j, off, hp, hm => by
    cases mid with
    | nil => simp at hm
    | cons m mid =>
      rw [List.zipIdx_cons, List.foldl_cons]
      have e : (pre ++ (m :: mid) ++ post).toArray.setIfInBounds (off + j) v = ((pre ++ [v]) ++ mid ++ post).toArray := by
        rw [← hp, List.setIfInBounds_toArray]; simp
      rw [e, foldl_put vs (pre ++ [v]) mid post (j + 1) off (by simp; omega) (by simpa using hm)]
      simp
theorem put_cells (vs pre mid post : List Value) (off : Nat) (hp : pre.length = off) (hm : mid.length = vs.length) :
    (vs.toArray.zipIdx.foldl (fun (cs : Array Value) (x : Value × Nat) => cs.setIfInBounds (off + x.2) x.1) (pre ++ mid ++ post).toArray) = (pre ++ vs ++ post).toArray := by
  rw [← foldl_put vs pre mid post 0 off (by simpa using hp) hm, ← Array.foldl_toList]
  simp
/-- Parts one behind the other, all of one size, fill a row. -/
theorem fill_parts (s : Nat) : ∀ (css : List (List Value)) (i : Nat) (done rest : List Value), (∀ c ∈ css, c.length = s) → done.length = i * s → rest.length = css.length * s →
    Instr.fill (fun i => some (i * s, s)) (done ++ rest).toArray (css.zipIdx i |>.map fun c => (c.2, Value.agg c.1.toArray)) = some (done ++ css.flatten).toArray
  | [], i, done, rest, _, _, hr => by
    have : rest = [] := List.eq_nil_of_length_eq_zero (by simpa using hr)
    subst this; simp [Instr.fill]
  | c :: css, i, done, rest, hc, hd, hr => by
    have hl : c.length = s := hc c (List.mem_cons_self ..)
    have hr' : rest.length = css.length * s + s := by rw [hr, List.length_cons, Nat.succ_mul]
    rw [List.zipIdx_cons, List.map_cons, Instr.fill]
    dsimp only
    split
    · rename_i hne
      exfalso
      simp [Value.cells, hl, hd, hr'] at hne
      omega
    · show Instr.fill _ (Array.foldl _ (done ++ rest).toArray c.toArray.zipIdx) _ = _
      have e := put_cells c done (rest.take s) (rest.drop s) (i * s) hd (by rw [List.length_take, hl]; omega)
      rw [List.append_assoc, List.take_append_drop] at e
      rw [e, fill_parts s css (i + 1) (done ++ c) (rest.drop s) (fun c hc' => hc c (List.mem_cons_of_mem _ hc')) (by rw [List.length_append, hd, hl, Nat.succ_mul]) (by rw [List.length_drop]; omega)]
      simp
theorem run_build_items (w : World) (t e : TypeId) (s : Nat) (z : Value) (hs : 0 < s) (hu : P.underlying t = some (.slice e)) (he : (P.info? e).map (fun i => (i.zero, i.size)) = some (some z, s)) (css : List (List Value)) (hc : ∀ c ∈ css, c.length = s) (hk : css.length * s ≤ 16777216) :
    (Instr.buildSlice t css.length (css.zipIdx.map fun c => (c.2, Value.agg c.1.toArray)).toArray).run P w = .ok (.slice (some ⟨w.heap.size, 0, none⟩) css.length css.length) (w.alloc (.cells css.flatten.toArray e)) := by
  cases hq : P.info? e with
  | none => simp [hq] at he
  | some i =>
    simp [hq] at he
    obtain ⟨hz, hsz⟩ := he
    have h1 : (sizeOf e).run P w = .ok s w := by simp [sizeOf, typeInfo, hq, hsz]
    have h2 : (zeroValue e).run P w = .ok z w := by simp [zeroValue, typeInfo, hq, hz]
    have hf := fill_parts s css 0 [] ((Array.range (css.length * s)).map (fun x => z.cells[x % z.cells.size]!)).toList hc (by simp) (by simp)
    simp only [List.nil_append, Array.toArray_toList] at hf
    by_cases h0 : css.length * s = 0
    · have hn : css = [] := by
        cases css with
        | nil => rfl
        | cons c cs => rcases Nat.mul_eq_zero.1 h0 with h | h; simp at h; omega
      subst hn
      simp [go_sem, Instr.buildSlice, run_underlying hu, h1, Instr.fill]
    · have h16 : ¬ 16777216 < css.length * s := by omega
      simp [go_sem, Instr.buildSlice, run_underlying hu, h1, h2, h0, h16]
      unfold Value.cells at hf
      rw [hf]
      simp [go_sem]
end
section
set_option linter.unusedSimpArgs false
set_option linter.unusedVariables false
open Go.RowKit Sha
open Fld (Itm)
/-! ### Structs loaded and built, as one operation each -/
@[irreducible] def loadOp (t : TypeId) (v : Value) : Sem Next := do pure (.value (← Instr.loadAt t v))
@[irreducible] def buildOp (t : TypeId) (len : Nat) (parts : Array (Nat × Value)) : Sem Next := do pure (.value (← Instr.buildSlice t len parts))
theorem execOp_loadItem (ρ : Operand → Value) (dst : Option Tmp) (x : Operand) (ty : TypeId) (pos : String) (after : Array Edge) (guard : Option (Nat × Bool)) :
    execOp ρ { dst := dst, op := .load 98 x, type := ty, pos := pos, after := after, guard := guard } = loadOp 98 (ρ x) := by unfold loadOp; rfl
theorem execOp_buildItems (ρ : Operand → Value) (dst : Option Tmp) (len : Nat) (parts : Array (Nat × Operand)) (ty : TypeId) (pos : String) (after : Array Edge) (guard : Option (Nat × Bool)) :
    execOp ρ { dst := dst, op := .buildSlice 55 len parts, type := ty, pos := pos, after := after, guard := guard } = buildOp 55 len (parts.map fun (i, x) => (i, ρ x)) := by unfold buildOp; rfl
theorem execOp_loadId (ρ : Operand → Value) (dst : Option Tmp) (x : Operand) (ty : TypeId) (pos : String) (after : Array Edge) (guard : Option (Nat × Bool)) :
    execOp ρ { dst := dst, op := .load 27 x, type := ty, pos := pos, after := after, guard := guard } = loadOp 27 (ρ x) := by unfold loadOp; rfl
theorem run_loadOp {P : Program} {t : TypeId} {v u : Value} {w : World} (h : (Instr.loadAt t v).run P w = .ok u w) : (loadOp t v).run P w = .ok (.value u) w := by
  unfold loadOp; simp only [Sem.run_bind, h, Result.andThen_ok, Sem.run_pure]
theorem run_buildOp {P : Program} {t : TypeId} {len : Nat} {parts : Array (Nat × Value)} {u : Value} {w w' : World} (h : (Instr.buildSlice t len parts).run P w = .ok u w') : (buildOp t len parts).run P w = .ok (.value u) w' := by
  unfold buildOp; simp only [Sem.run_bind, h, Result.andThen_ok, Sem.run_pure]
theorem load_item {w : World} {g : Nat} {x : Itm} {q : Option Addr} {c : Nat} (hx : x.ok) (h : Blk w g (icells x q c) 98) : (loadOp 98 (.pointer (some ⟨g, 0, none⟩))).run Try.prog w = .ok (.value (.agg (icells x q c).toArray)) w :=
  run_loadOp (run_loadAt_mid w g 0 98 _ _ h.range Try.underlying98 rfl (by rw [item_size, icells_length hx]))
theorem item_all : (Try.prog.info? 98).map (fun i => (i.zero, i.size)) = some (some (.agg (icells ⟨0, [], Fld.zero32⟩ none 0).toArray), 34) := by unfold icells; kernel_rfl
theorem item_all3 : (Try.prog.info? 98).map (fun i => (i.zero, i.size, i.bytes)) = some (some (.agg (icells ⟨0, [], Fld.zero32⟩ none 0).toArray), 34, 64) := by unfold icells; kernel_rfl
theorem build_item (w : World) {x : Itm} {q : Option Addr} {c : Nat} (hx : x.ok) : (buildOp 55 1 #[(0, .agg (icells x q c).toArray)]).run Try.prog w = .ok (.value (.slice (some ⟨w.heap.size, 0, none⟩) 1 1)) (w.alloc (.cells (icells x q c).toArray 98)) := by
  have := run_build_items (P := Try.prog) w 55 98 34 _ (by omega) Try.underlying55 item_all [icells x q c] (by intro c hc; simp at hc; subst hc; exact icells_length hx _ _) (by simp)
  exact run_buildOp (by simpa using this)
theorem load_id {w : World} {g o : Nat} {x : Itm} {q : Option Addr} {c : Nat} (hx : x.ok) (h : w.rangeAt g o (icells x q c)) : (loadOp 27 (.pointer (some ⟨g, o + 2, none⟩))).run Try.prog w = .ok (.value (.agg (x.D.map v8).toArray)) w :=
  run_loadOp (run_loadAt_mid w g (o + 2) 27 _ _ (rangeAt_id h) Try.underlying27 rfl (by rw [id_size, List.length_map, hx.len]))
theorem load_at {w : World} {g o : Nat} {x : Itm} {q : Option Addr} {c : Nat} (hx : x.ok) (h : w.rangeAt g o (icells x q c)) : (loadOp 98 (.pointer (some ⟨g, o, none⟩))).run Try.prog w = .ok (.value (.agg (icells x q c).toArray)) w :=
  run_loadOp (run_loadAt_mid w g o 98 _ _ h Try.underlying98 rfl (by rw [item_size, icells_length hx]))
end
section
set_option linter.unusedSimpArgs false
set_option linter.unusedVariables false
variable {P : Program} {ops : Array Oper} {o : Oper} {a : Act} {w : World} {Q : Exit → Act → World → Prop} {K : Act → World → Prop} {E : Prop}
/-- 'append(v, x...)': v the call's own, x whatever. -/
theorem step_app (hgd : o.guard = none) (s x : Operand) (t : TypeId) (ho : o.op = .call { callee := .builtin .append, args := #[s, x], argTypes := #[t, t] })
    (B : Nat) (e : TypeId) {z : Value} {by_ : Nat} (ht : P.underlying t = some (.slice e)) (hi : (P.info? e).map (fun i => (i.zero, i.size, i.bytes)) = some (some z, 1, by_)) (hz : z.cells.size = 1)
    (v : Value) (n : Nat) (xs : List Value) (hs : a.eval s = v) (hown : w.ownsRow B e 1 v n xs)
    (p : Option Addr) (m c : Nat) (news : List Value) (hx : a.eval x = .slice p m c) (hA : At w p news) (hl : news.length = m) (hn : p = none → c = 0) (hmc : m ≤ c) (h1 : ∀ u ∈ news, u.oneCell' = true)
    (hbytes : (n + m) * by_ ≤ 140737488355328) (hmax : n + m ≤ maxLen) (hB : B ≤ w.heap.size)
    (h : ∀ v' w', w'.ownsRow B e 1 v' (n + m) (xs ++ news) → w.grownBy w' v.ownBlock → RowKit.Below B w w' → B ≤ w'.heap.size → K (a.put o.dst v') w') :
    if Region.wanted o (yielded ops a.tmps) = true then Oper.wp P o a w K Q else E := by
  have hw : Region.wanted o (yielded ops a.tmps) = true := by simp [Region.wanted, hgd]
  rw [if_pos hw]
  obtain ⟨i, hi, hz0, hz1, hz2⟩ := info_parts hi
  have hblock : ∀ k, v.ownBlock = some k → B ≤ k := by
    intro k hk
    rcases hown.2 with ⟨hv, _⟩ | ⟨g, cap, cur, hv, hg, _⟩
    · rw [hv] at hk; cases hk
    · rw [hv] at hk; cases hk; exact hg
  cases p with
  | none =>
    have hc := hn rfl
    have hm : m = 0 := by omega
    subst hc hm
    have hnews : news = [] := List.eq_nil_of_length_eq_zero hl
    subst hnews
    have hrun := run_append_owned_none (P := P) (w := w) B t o.type e i 1 ht hi v n xs hown
    unfold Oper.wp
    simp [execOp, ho, resolve, invoke, builtin, hs, hx, hrun, Result.andThen]
    exact h v w (by simpa using hown) ⟨rfl, rfl, rfl, Nat.le_refl _, fun _ _ _ => rfl⟩ (RowKit.Below.refl _ _) hB
  | some ad =>
    refine wp_append_own w s x t ho B e i z 1 by_ ht hi hz0 hz1 hz2 hz (by decide) v n xs hs hown ad m c news hx (by omega) ?_ h1 hmax hbytes hB ?_
    · intro j u hj
      rcases hA with hA | ⟨b, off, hA, hc⟩
      · subst hA; simp at hj
      · cases hA; rw [Addr.add_mid]; exact hc j u hj
    · intro v' w' h1 h2 h3
      exact h v' w' h1 h2 ((RowKit.Below.refl B w).grown h2 hB hblock) (Nat.le_trans hB h2.size)
end
end Go.Proofs.Yteepaoklibflpaa
