/-
  Items in memory: 34 cells each (a number, a slice of bytes, an id). What lies from an address on; boxes and stores under a new name of the world.
-/
import Derived.Test.YtgakmkglejddeaaFld
import Derived.Test.YtgakmkglejddeaaKitS
import Derived.Test.YtgakmkglejddeaaEqa
import Derived.Deep.Upon
import Derived.Laws.CopyOwn
import Derived.Lib.OthersKept
import Derived.BigFrame
namespace Go.Proofs.Ytgakmkglejddeaa
set_option linter.unusedSimpArgs false
set_option linter.unusedVariables false
open Go.RowKit Sha
variable {P : Program}
open Fld (Itm)
/-- An item's cells: its bytes lie at q, with room for c. -/
def icells (x : Itm) (q : Option Addr) (c : Nat) : List Value := .int .i64 x.N :: .slice q x.B.length c :: x.D.map v8
theorem icells_0 (x : Itm) (q : Option Addr) (c : Nat) : (icells x q c)[0]? = some (.int .i64 x.N) := rfl
theorem icells_1 (x : Itm) (q : Option Addr) (c : Nat) : (icells x q c)[1]? = some (.slice q x.B.length c) := rfl
theorem icells_2 (x : Itm) (q : Option Addr) (c : Nat) (j : Nat) : (icells x q c)[2 + j]? = (x.D.map v8)[j]? := by
  unfold icells; rw [Nat.add_comm, List.getElem?_cons_succ, List.getElem?_cons_succ]
theorem icells_length {x : Itm} (h : x.ok) (q : Option Addr) (c : Nat) : (icells x q c).length = 34 := by
  unfold icells; simp [h.len]
theorem icells_one (x : Itm) (q : Option Addr) (c : Nat) : ∀ v ∈ icells x q c, v.oneCell' = true := by
  unfold icells
  intro v hv
  rcases List.mem_cons.1 hv with rfl | hv
  · simp [Value.oneCell']
  · rcases List.mem_cons.1 hv with rfl | hv
    · simp [Value.oneCell']
    · obtain ⟨n, _, rfl⟩ := List.mem_map.1 hv
      simp [Value.oneCell']
attribute [irreducible] icells
/-- An item, where its bytes lie, how much room they have. -/
abbrev Hdr := Itm × Option Addr × Nat
def cellsI (y : Hdr) : List Value := icells y.1 y.2.1 y.2.2
structure GoodI (w : World) (x : Itm) (q : Option Addr) (c : Nat) : Prop where
  ok : x.ok
  at_ : At w q (x.B.map v8)
  le : x.B.length ≤ c
  max : c ≤ 9223372036854775807
  nil : q = none → c = 0
theorem GoodI.carry {w w' : World} {x : Itm} {q : Option Addr} {c : Nat} (h : GoodI w x q c) (hc : ∀ p v, w.cell? p = some v → w'.cell? p = some v) : GoodI w' x q c := ⟨h.ok, h.at_.carry hc, h.le, h.max, h.nil⟩
theorem GoodI.below {w w' : World} {x : Itm} {q : Option Addr} {c : Nat} (h : GoodI w x q c) (hb : Below w.heap.size w w') : GoodI w' x q c := ⟨h.ok, h.at_.below hb, h.le, h.max, h.nil⟩
def ItemsAt (w : World) (p : Option Addr) (xs : List Itm) : Prop := ∃ ys : List Hdr, ys.map (·.1) = xs ∧ At w p (ys.flatMap cellsI) ∧ ∀ y ∈ ys, GoodI w y.1 y.2.1 y.2.2
theorem ItemsAt.below {w w' : World} {p : Option Addr} {xs : List Itm} (h : ItemsAt w p xs) (hb : Below w.heap.size w w') : ItemsAt w' p xs := by
  obtain ⟨ys, h1, h2, h3⟩ := h
  exact ⟨ys, h1, h2.below hb, fun y hy => (h3 y hy).below hb⟩
theorem ItemsAt.drewN {w : World} {p : Option Addr} {xs : List Itm} (h : ItemsAt w p xs) (n : Nat) : ItemsAt (w.drewN n) p xs := h.below (below_drewN (Below.refl _ _) n)
theorem ItemsAt.nil (w : World) (p : Option Addr) : ItemsAt w p [] := ⟨[], rfl, At.nil _ _, by simp⟩
theorem ItemsAt.ok {w : World} {p : Option Addr} {xs : List Itm} (h : ItemsAt w p xs) : ∀ x ∈ xs, x.ok := by
  obtain ⟨ys, rfl, _, h3⟩ := h
  intro x hx
  obtain ⟨y, hy, rfl⟩ := List.mem_map.1 hx
  exact (h3 y hy).ok
theorem flat_length (ys : List Hdr) (h : ∀ y ∈ ys, y.1.ok) : (ys.flatMap cellsI).length = ys.length * 34 := by
  induction ys with
  | nil => rfl
  | cons y ys ih =>
    rw [List.flatMap_cons, List.length_append, ih (fun y hy => h y (List.mem_cons_of_mem _ hy)), List.length_cons]
    unfold cellsI
    rw [icells_length (h y (List.mem_cons_self ..))]
    omega
theorem flat_get (ys : List Hdr) (h : ∀ y ∈ ys, y.1.ok) (i : Nat) (hi : i < ys.length) (j : Nat) (v : Value) (hv : (cellsI ys[i])[j]? = some v) : (ys.flatMap cellsI)[i * 34 + j]? = some v := by
  induction ys generalizing i with
  | nil => simp at hi
  | cons y ys ih =>
    have hl : (cellsI y).length = 34 := icells_length (h y (List.mem_cons_self ..)) _ _
    rw [List.flatMap_cons]
    cases i with
    | zero =>
      simp at hv
      rw [Nat.zero_mul, Nat.zero_add, List.getElem?_append_left (List.getElem?_eq_some_iff.1 hv).1]
      exact hv
    | succ i =>
      simp at hv
      rw [List.getElem?_append_right (by omega), show (i + 1) * 34 + j - (cellsI y).length = i * 34 + j by rw [hl]; omega]
      exact ih (fun y hy => h y (List.mem_cons_of_mem _ hy)) i (by simpa using hi) hv
/-- The i-th item: where it lies, and its bytes. -/
theorem ItemsAt.get {w : World} {p : Option Addr} {xs : List Itm} (h : ItemsAt w p xs) (i : Nat) (hi : i < xs.length) :
    ∃ b off q c, p = some ⟨b, off, none⟩ ∧ w.rangeAt b (off + i * 34) (icells xs[i] q c) ∧ GoodI w xs[i] q c := by
  obtain ⟨ys, rfl, h2, h3⟩ := h
  rw [List.length_map] at hi
  have hok : ∀ y ∈ ys, y.1.ok := fun y hy => (h3 y hy).ok
  obtain ⟨b, off, rfl, hc⟩ := h2.addr (by rw [flat_length ys hok]; omega)
  refine ⟨b, off, (ys[i]).2.1, (ys[i]).2.2, rfl, fun j v hv => ?_, ?_⟩
  · rw [Nat.add_assoc]
    exact hc _ v (flat_get ys hok i hi j v (by simpa [cellsI] using hv))
  · simpa using h3 ys[i] (List.getElem_mem hi)
/-- What is left behind the first one: the address stays where the room is used up. -/
theorem ItemsAt.tail {w : World} {p : Option Addr} {x : Itm} {xs : List Itm} (h : ItemsAt w p (x :: xs)) (cap : Nat) (hc : xs.length + 1 ≤ cap) : ItemsAt w (if cap = 1 then p else p.map (·.add 34)) xs := by
  obtain ⟨ys, h1, h2, h3⟩ := h
  cases ys with
  | nil => simp at h1
  | cons y ys =>
    simp only [List.map_cons, List.cons.injEq] at h1
    obtain ⟨rfl, rfl⟩ := h1
    refine ⟨ys, rfl, ?_, fun z hz => h3 z (List.mem_cons_of_mem _ hz)⟩
    by_cases e : cap = 1
    · have : ys = [] := List.eq_nil_of_length_eq_zero (by simp at hc; omega)
      subst this
      exact At.nil _ _
    · rw [if_neg e]
      have hl : (cellsI y).length = 34 := icells_length (h3 y (List.mem_cons_self ..)).ok _ _
      obtain ⟨b, off, rfl, hcell⟩ := h2.addr (by rw [List.flatMap_cons, List.length_append, hl]; omega)
      have := At.back (w := w) (b := b) (off := off) (xs := cellsI y) (ys := ys.flatMap cellsI) (Or.inr ⟨b, off, rfl, by simpa [List.flatMap_cons] using hcell⟩)
      rw [hl] at this
      simpa [Addr.add_mid] using this
/-- A new item behind others in a row of the call's own. -/
theorem rangeAt_cell {w : World} {b o : Nat} {cs : List Value} (h : w.rangeAt b o cs) {j : Nat} {v : Value} (hv : cs[j]? = some v) : w.cell? ⟨b, o + j, none⟩ = some v := h j v hv
theorem rangeAt_id {w : World} {b o : Nat} {x : Itm} {q : Option Addr} {c : Nat} (h : w.rangeAt b o (icells x q c)) : w.rangeAt b (o + 2) (x.D.map v8) := fun j v hv => by
  rw [Nat.add_assoc]; exact h _ v (by rw [icells_2]; exact hv)
theorem Blk.rangeId {w : World} {g : Nat} {x : Itm} {q : Option Addr} {c : Nat} {t : TypeId} (h : Blk w g (icells x q c) t) : w.rangeAt g 2 (x.D.map v8) := by
  have := rangeAt_id (o := 0) h.range
  rwa [Nat.zero_add] at this
/-- Items that are told, or came in: a slice that reads as they are. -/
structure Told (w : World) (p : Option Addr) (n c : Nat) (l : List Itm) : Prop where
  len : n = l.length
  le : n ≤ c
  max : c ≤ 9223372036854775807
  nil : p = none → c = 0
  items : ItemsAt w p l
theorem Told.below {w w' : World} {p : Option Addr} {n c : Nat} {l : List Itm} (h : Told w p n c l) (hb : Below w.heap.size w w') : Told w' p n c l := ⟨h.len, h.le, h.max, h.nil, h.items.below hb⟩
theorem Told.none_ (w : World) : Told w none 0 0 [] := ⟨rfl, by omega, by omega, fun _ => rfl, ItemsAt.nil _ _⟩
/-! ### Boxes, stores of several cells, under a new name of the world -/
theorem setCells_heap (b : Nat) : ∀ (vs : List Value) (o : Nat) (w : World) (i : Nat), i ≠ b → (w.setCells b o vs).heap[i]? = w.heap[i]?
  | [], _, _, _, _ => rfl
  | v :: r, o, w, i, h => by
    rw [World.setCells, setCells_heap b r (o + 1) _ i h]
    exact Below.heap_setCell w ⟨b, o, none⟩ v i h
theorem setCells_below {B b : Nat} {a : World} (hb : B ≤ b) : ∀ (vs : List Value) (o : Nat) (w : World), Below B a w → Below B a (w.setCells b o vs)
  | [], _, _, h => h
  | v :: r, o, w, h => by rw [World.setCells]; exact setCells_below hb r (o + 1) _ (h.setCell hb v)
theorem Blk.setCells {g : Nat} {t : TypeId} : ∀ (vs : List Value) (o : Nat) (w : World) (pre mid post : List Value), Blk w g (pre ++ mid ++ post) t → pre.length = o → mid.length = vs.length → Blk (w.setCells g o vs) g (pre ++ vs ++ post) t
  | [], o, w, pre, mid, post, h, _, hm => by
    have : mid = [] := List.eq_nil_of_length_eq_zero hm
    subst this; exact h
  | v :: r, o, w, pre, mid, post, h, ho, hm => by
    cases mid with
    | nil => simp at hm
    | cons m mid =>
      rw [World.setCells]
      have h1 := h.set o v
      have e : (pre ++ (m :: mid) ++ post).set o v = (pre ++ [v]) ++ mid ++ post := by
        subst ho; simp
      rw [e] at h1
      have := Blk.setCells r (o + 1) _ (pre ++ [v]) mid post h1 (by simp [ho]) (by simpa using hm)
      simpa using this
theorem Blk.there {w : World} {g : Nat} {cs : List Value} {t : TypeId} (h : Blk w g cs t) (o n : Nat) (hn : o + n ≤ cs.length) : w.there g o n := fun j hj =>
  ⟨by rw [h.cell, List.getElem?_eq_getElem (by omega)]; rfl, h.free _⟩
theorem icells_set2 {x : Itm} (q : Option Addr) (c : Nat) (t : TypeId) {w : World} {g : Nat} (h : Blk w g (icells x q c) t) (D' : List Int) (hl : D'.length = x.D.length) : Blk (w.setCells g 2 (D'.map v8)) g (icells ⟨x.N, x.B, D'⟩ q c) t := by
  have e : ∀ (x : Itm), icells x q c = [.int .i64 x.N, .slice q x.B.length c] ++ x.D.map v8 ++ [] := fun x => by unfold icells; simp
  rw [e] at h ⊢
  exact Blk.setCells (D'.map v8) 2 w _ (x.D.map v8) [] h rfl (by simp [hl])
theorem icells_set1 (x : Itm) (q : Option Addr) (c : Nat) (B' : List Int) (q' : Option Addr) (c' : Nat) : (icells x q c).set 1 (.slice q' B'.length c') = icells ⟨x.N, B', x.D⟩ q' c' := by unfold icells; rfl
theorem icells_set0 (x : Itm) (q : Option Addr) (c : Nat) (n : Int) : (icells x q c).set 0 (.int .i64 n) = icells ⟨n, x.B, x.D⟩ q c := by unfold icells; rfl
section
variable {ops : Array Oper} {rest : List Oper} {o : Oper} {a : Act} {w : World} {Q : Exit → Act → World → Prop}
theorem wpList_box_new (hgd : o.guard = none) (ty : TypeId) (x : Operand) (ho : o.op = .box ty x) (cs : List Value) (hx : a.eval x = .agg cs.toArray)
    (h : ∀ w' g, Blk w' g cs ty → Below w.heap.size w w' → w.heap.size ≤ g → wpList P ops Q rest (a.put o.dst (.pointer (some ⟨g, 0, none⟩))) w') : wpList P ops Q (o :: rest) a w :=
  wpList_box_arr hgd ty x ho cs.toArray hx (h _ _ (by simpa using Blk.new w cs.toArray ty) ((Below.refl _ _).alloc (Nat.le_refl _) _) (Nat.le_refl _))
theorem wpList_alloc_new (hgd : o.guard = none) (ty : TypeId) (ho : o.op = .alloc ty) (cs : List Value) (hz : (P.info? ty).map (fun i => i.zero) = some (some (.agg cs.toArray)))
    (h : ∀ w' g, Blk w' g cs ty → w' = w.alloc (.cells cs.toArray ty) → g = w.heap.size → wpList P ops Q rest (a.put o.dst (.pointer (some ⟨g, 0, none⟩))) w') : wpList P ops Q (o :: rest) a w :=
  wpList_alloc_arr hgd ty ho cs.toArray hz (h _ _ (by simpa using Blk.new w cs.toArray ty) rfl rfl)
end
theorem wp_build' {o : Oper} {a : Act} {w : World} {K : Act → World → Prop} {Q : Exit → Act → World → Prop} (t : TypeId) (parts : Array (Nat × Operand)) (ho : o.op = .build t parts) (cs : Array Value)
    (hf : P.built t (parts.map fun (i, x) => (i, a.eval x)).toList = some cs) (h : K (a.put o.dst (.agg cs)) w) : o.wp P a w K Q :=
  wp_build t parts ho (by rw [hf]; rfl) (by rw [hf]; exact h)
theorem wpList_slice_run {ops : Array Oper} {rest : List Oper} {o : Oper} {a : Act} {w : World} {Q : Exit → Act → World → Prop} (hgd : o.guard = none) (t : TypeId) (x : Operand) (lo hi : Option Operand) (ho : o.op = .slice t x lo hi none) (V : Value)
    (hr : (Instr.sliceAt t (a.eval x) (lo.map a.eval) (hi.map a.eval) none).run P w = .ok V w) (h : wpList P ops Q rest (a.put o.dst V) w) : wpList P ops Q (o :: rest) a w := by
  refine wpList_plain hgd fun K hK => ?_
  unfold Oper.wp execOp
  simp only [ho, Option.map_none, Sem.run_bind, hr, Result.andThen_ok, Sem.run_pure]
  exact hK _ _ h
theorem size_of {e : TypeId} {s : Nat} (he : (P.info? e).map (fun i => i.size) = some s) (w : World) : (sizeOf e).run P w = .ok s w := by
  cases hq : P.info? e with
  | none => simp [hq] at he
  | some j => simp [hq] at he; simp [sizeOf, typeInfo, hq, he]
theorem run_cut1 {t e : TypeId} {s : Nat} (hu : P.underlying t = some (.slice e)) (he : (P.info? e).map (fun i => i.size) = some s) (p : Option Addr) (len cap : Nat) (h1 : 1 ≤ len) (w : World) :
    (Instr.sliceAt t (.slice p len cap) (some (.int .i64 1)) none none).run P w = .ok (.slice (if cap = 1 then p else p.map (·.add s)) (len - 1) (cap - 1)) w := by
  have hu' : P.underlying t = some (.slice (P.elem t)) := by rw [elem_of hu]; exact hu
  rw [run_sliceAt_slice w t _ _ _ _ hu', run_slice_l w t p len cap hu' .i64 1 (by omega) (by omega), elem_of hu, size_of he]
  simp [Result.andThen, sliced]
theorem item_info : (Try.prog.info? 40).map (fun i => i.zero) = some (some (.agg (icells ⟨0, [], Fld.zero32⟩ none 0).toArray)) := by unfold icells; kernel_rfl
theorem item_size : (Try.prog.info? 40).map (fun i => i.size) = some 34 := by kernel_rfl
theorem id_size : (Try.prog.info? 38).map (fun i => i.size) = some 32 := by kernel_rfl
theorem id_zero : Try.prog.built 38 [] = some (Fld.zero32.map v8).toArray := by kernel_rfl
theorem v8_one (l : List Int) : (l.map v8).toArray.all (·.oneCell') = true := by simp [Value.oneCell']
end Go.Proofs.Ytgakmkglejddeaa
