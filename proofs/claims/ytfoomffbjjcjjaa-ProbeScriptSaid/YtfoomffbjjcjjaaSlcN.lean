/-
  Slices of whatever, for seats without members (written by mkslcn14.py): cut, copied, built, appended to; rows of the call's own; numbers' slices as operations. Never beside SlcG.
-/
import Derived.Test.YtfoomffbjjcjjaaAppS
import Derived.Test.YtfoomffbjjcjjaaBld
import Derived.Test.YtfoomffbjjcjjaaNums
import Derived.Test.YtfoomffbjjcjjaaObj2
import Derived.Laws.Slices
import Derived.Lib.AppendZerosOnto
import Derived.Lib.Overlaps
import Derived.Deep.RegionLaw
namespace Go.Proofs.Ytfoomffbjjcjjaa
set_option linter.unusedSimpArgs false
set_option linter.unusedVariables false
open Go.RowKit Sha
abbrev it : TypeId := 3
@[irreducible] def buildM (t : TypeId) (len : Nat) (parts : Array (Nat × Value)) : Sem Next := do pure (.value (← Instr.buildSlice t len parts))
theorem own_base_w {w : World} {B n size : Nat} {e : TypeId} {v : Value} {xs : List Value} (h : w.ownsRow B e size v n xs) : ∀ k, v.ownBlock = some k → B ≤ k ∧ k < w.heap.size := by
  intro k hk
  rcases h.2 with ⟨hv, _⟩ | ⟨g, cap, cur, hv, hg, hh, _⟩
  · rw [hv] at hk; cases hk
  · rw [hv] at hk; cases hk; exact ⟨hg, Blk.lt (cs := cur.toList) (t := e) (by unfold Blk; simpa using hh)⟩
theorem grown_below {a b c : World} {row : Option Nat} {B : Nat} (h : Below B a b) (k : b.grownBy c row) (hB : ∀ g, row = some g → B ≤ g) (hs : B ≤ b.heap.size) : Below B a c :=
  h.trans ⟨k.os, k.tape, k.output, k.size, fun i hi => k.block i (by omega) (by intro e; have := hB i e.symm; omega)⟩
theorem below_next {a w w' : World} (h : Below a.heap.size a w) (hb : Below w.heap.size w w') : Below a.heap.size a w' := h.trans (hb.mono h.size)
theorem Blk.upon {w w' : World} {g : Nat} {cs : List Value} {t : TypeId} (h : Blk w g cs t) (hb : Below w.heap.size w w') : Blk w' g cs t := h.below hb h.lt
theorem setCells_heap (b : Nat) : ∀ (vs : List Value) (o : Nat) (w : World) (i : Nat), i ≠ b → (w.setCells b o vs).heap[i]? = w.heap[i]?
  | [], _, _, _, _ => rfl
  | v :: r, o, w, i, h => by
    rw [World.setCells, setCells_heap b r (o + 1) _ i h]
    exact Below.heap_setCell w ⟨b, o, none⟩ v i h
theorem setCells_below {B b : Nat} {a : World} (hb : B ≤ b) : ∀ (vs : List Value) (o : Nat) (w : World), Below B a w → Below B a (w.setCells b o vs)
  | [], _, _, h => h
  | v :: r, o, w, h => by rw [World.setCells]; exact setCells_below hb r (o + 1) _ (h.setCell hb v)
theorem Blk.setCells {g : Nat} {t : TypeId} : ∀ (vs : List Value) (o : Nat) (w : World) (pre mid post : List Value), Blk w g (pre ++ mid ++ post) t → pre.length = o → mid.length = vs.length → Blk (w.setCells g o vs) g (pre ++ vs ++ post) t
  | [], o, w, pre, mid, post, h, _, hm => by
    have : mid = [] := List.eq_nil_of_length_eq_zero hm
    subst this; exact h
  | v :: r, o, w, pre, mid, post, h, ho, hm => by
    cases mid with
    | nil => simp at hm
    | cons m mid =>
      rw [World.setCells]
      have h1 := h.set o v
      have e : (pre ++ (m :: mid) ++ post).set o v = (pre ++ [v]) ++ mid ++ post := by
        subst ho; simp
      rw [e] at h1
      have := Blk.setCells r (o + 1) _ (pre ++ [v]) mid post h1 (by simp [ho]) (by simpa using hm)
      simpa using this
theorem Blk.there {w : World} {g : Nat} {cs : List Value} {t : TypeId} (h : Blk w g cs t) (o n : Nat) (hn : o + n ≤ cs.length) : w.there g o n := fun j hj =>
  ⟨by rw [h.cell, List.getElem?_eq_getElem (by omega)]; rfl, h.free _⟩
theorem own_at_s {w : World} {B n size : Nat} {e : TypeId} {v : Value} {xs : List Value} (h : w.ownsRow B e size v n xs) : ∃ p cap, v = .slice p n cap ∧ n ≤ cap ∧ cap ≤ maxLen ∧ At w p xs ∧ xs.length = n * size ∧ (p = none → cap = 0) := by
  have hx := h.1
  rcases h.2 with ⟨hv, h0⟩ | ⟨g, cap, cur, hv, hg, hh, h1, h2, h3, h4⟩
  · subst h0
    refine ⟨none, 0, hv, by omega, by decide, Or.inl (List.eq_nil_of_length_eq_zero (by simpa using hx)), hx, fun _ => rfl⟩
  · refine ⟨_, cap, hv, h1, h2, Or.inr ⟨g, 0, rfl, fun i u hu => ?_⟩, hx, fun h => by cases h⟩
    have := h.cells (g := g) (by rw [hv]; rfl) i u hu
    rwa [Addr.add_mid] at this
theorem At.ofBlk {w : World} {g : Nat} {xs rest : List Value} {t : TypeId} (h : Blk w g (xs ++ rest) t) : At w (some ⟨g, 0, none⟩) xs := by
  refine Or.inr ⟨g, 0, rfl, fun i v hi => ?_⟩
  rw [Nat.zero_add, h.cell, List.getElem?_append_left (List.getElem?_eq_some_iff.1 hi).1]
  exact hi
section
variable {P : Program}
/-- A cut, as one operation. -/
@[irreducible] def sliceOp (t : TypeId) (v : Value) (lo hi : Option Value) : Sem Next := do pure (.value (← Instr.sliceAt t v lo hi none))
theorem run_sliceOp {t : TypeId} {v u : Value} {lo hi : Option Value} {w : World} (h : (Instr.sliceAt t v lo hi none).run P w = .ok u w) : (sliceOp t v lo hi).run P w = .ok (.value u) w := by
  unfold sliceOp; simp only [Sem.run_bind, h, Result.andThen_ok, Sem.run_pure]
variable {t e : TypeId} {s : Nat}
theorem size_ofS (he : (P.info? e).map (fun i => i.size) = some s) (w : World) : (sizeOf e).run P w = .ok s w := by
  cases hq : P.info? e with
  | none => simp [hq] at he
  | some j => simp [hq] at he; simp [sizeOf, typeInfo, hq, he]
theorem elem_ofS (hu : P.underlying t = some (.slice e)) : P.elem t = e := by simp [Program.elem, hu]
theorem run_cutS_l (hu : P.underlying t = some (.slice e)) (he : (P.info? e).map (fun i => i.size) = some s) (p : Option Addr) (len cap k : Nat) (hk : k ≤ len) (hc : len ≤ cap) (w : World) :
    (Instr.sliceAt t (.slice p len cap) (some (.int .i64 k)) none none).run P w = .ok (.slice (if cap = k then p else p.map (·.add (k * s))) (len - k) (cap - k)) w := by
  have hu' : P.underlying t = some (.slice (P.elem t)) := by rw [elem_ofS hu]; exact hu
  rw [run_sliceAt_slice w t _ _ _ _ hu', run_slice_l w t p len cap hu' .i64 k (by omega) (by omega), elem_ofS hu, size_ofS he]
  simp [Result.andThen, sliced]
theorem run_cutS_h (hu : P.underlying t = some (.slice e)) (he : (P.info? e).map (fun i => i.size) = some s) (p : Option Addr) (len cap k : Nat) (hk : k ≤ cap) (w : World) :
    (Instr.sliceAt t (.slice p len cap) none (some (.int .i64 k)) none).run P w = .ok (.slice p k cap) w := by
  have hu' : P.underlying t = some (.slice (P.elem t)) := by rw [elem_ofS hu]; exact hu
  rw [run_sliceAt_slice w t _ _ _ _ hu', run_slice_h w t p len cap hu' .i64 k (by omega) (by omega), elem_ofS hu, size_ofS he]
  simp [Result.andThen, sliced]
  intro _
  cases p with
  | none => rfl
  | some a => simp [Addr.add]
/-- A copy of structs. -/
theorem run_copyS (w : World) (hu : P.underlying t = some (.slice e)) (he : (P.info? e).map (fun i => i.size) = some s) (g off dLen dCap : Nat) (a : Addr) (sLen sCap k : Nat) (cs : List Value) (hk : k = Nat.min sLen dLen) (hl : cs.length = k * s)
    (hc : ∀ j v, cs[j]? = some v → w.cell? (a.add j) = some v) (ht : w.there g off cs.length) (h1 : ∀ v ∈ cs, v.oneCell' = true) (ty : TypeId) :
    (Builtin.copy_ #[t, t] ty #[.slice (some ⟨g, off, none⟩) dLen dCap, .slice (some a) sLen sCap]).run P w = .ok (goInt k) (w.setCells g off cs) := by
  have h2 := run_storeCells_cells (P := P) g off cs 0 w (fun j hj => by simpa using (ht j hj).1) (fun j hj => by simpa using (ht j hj).2) h1
  have h3 := run_firstCells_some (P := P) w s k a sLen sCap cs hl hc
  simp only [Nat.add_zero] at h2
  simp [Builtin.copy_, run_underlying hu, Builtin.lenOf, size_ofS he, ← hk, h3, h2, Result.andThen]
theorem copy_law (w : World) {ops : Array Oper} {rest : List Oper} {o : Oper} {a : Act} {Q : Exit → Act → World → Prop} (hgd : o.guard = none) (d x : Operand) (t1 t2 : TypeId)
    (ho : o.op = .call { callee := .builtin .copy, args := #[d, x], argTypes := #[t1, t2] }) (v u : Value) (hd : a.eval d = v) (hs : a.eval x = u) {v' : Value} {w' : World}
    (hr : (Builtin.copy_ #[t1, t2] o.type #[v, u]).run P w = .ok v' w') (h : wpList P ops Q rest (a.put o.dst v') w') : wpList P ops Q (o :: rest) a w := by
  refine wpList_plain hgd fun K hK => ?_
  unfold Oper.wp execOp
  simp only [ho, resolve, invoke, builtin, Sem.run_bind, Sem.run_pure, Result.andThen_ok, List.map_toArray, List.map_cons, List.map_nil, hd, hs, hr]
  exact hK _ _ h
theorem copy_step {ops : Array Oper} {o : Oper} {a : Act} {w : World} {K : Act → World → Prop} {Q : Exit → Act → World → Prop} {E : Prop}
    (hg : o.guard = none) (d x : Operand) (t1 t2 : TypeId) (hop : o.op = Op.call { callee := Callee.builtin Builtin.copy, args := #[d, x], argTypes := #[t1, t2] })
    (v u : Value) (hd : a.eval d = v) (hx : a.eval x = u) {v' : Value} {w' : World} (hr : (Builtin.copy_ #[t1, t2] o.type #[v, u]).run P w = .ok v' w') (hK : K (a.put o.dst v') w') :
    if Region.wanted o (yielded ops a.tmps) = true then Oper.wp P o a w K Q else E := by
  have hw : Region.wanted o (yielded ops a.tmps) = true := by simp [Region.wanted, hg]
  rw [if_pos hw]
  unfold Oper.wp execOp
  simp only [hop, resolve, invoke, builtin, Sem.run_bind, Sem.run_pure, Result.andThen_ok, List.map_toArray, List.map_cons, List.map_nil, hd, hx, hr]
  exact hK
end
section
variable {w : World} {B n s : Nat} {e : TypeId} {v : Value} {xs : List Value}
/-- A row of the call's own that has something, as its block. -/
theorem own_whole (h : w.ownsRow B e s v n xs) (hn : 0 < n) : ∃ g cap rest, v = .slice (some ⟨g, 0, none⟩) n cap ∧ B ≤ g ∧ n ≤ cap ∧ cap ≤ maxLen ∧ Blk w g (xs ++ rest) e ∧ xs.length = n * s ∧ (xs ++ rest).length = cap * s := by
  obtain ⟨h0, h⟩ := h
  rcases h with ⟨_, h0⟩ | ⟨g, cap, cur, hv, hg, hh, h1, h2, h3, h4⟩
  · omega
  · refine ⟨g, cap, cur.toList.drop (n * s), hv, hg, h1, h2, ?_, h0, ?_⟩
    · rw [← h4, List.take_append_drop]
      unfold Blk; simpa using hh
    · rw [← h4, List.take_append_drop]; simpa using h3
theorem own_ofBlk {g cap : Nat} {rest : List Value} (hg : B ≤ g) (hk : Blk w g (xs ++ rest) e) (hn : n ≤ cap) (hm : cap ≤ maxLen) (hl : xs.length = n * s) (hl2 : (xs ++ rest).length = cap * s) : w.ownsRow B e s (.slice (some ⟨g, 0, none⟩) n cap) n xs := by
  refine ⟨hl, Or.inr ⟨g, cap, (xs ++ rest).toArray, rfl, hg, hk, hn, hm, by simpa using hl2, ?_⟩⟩
  rw [← hl]; simp
end
theorem there_blk {w : World} {g : Nat} {cs : List Value} {t : TypeId} (h : Blk w g cs t) (o n : Nat) (hn : o + n ≤ cs.length) : w.there g o n := h.there o n hn
/-- One behind the other, the second from so far on. -/
theorem cells_in {w : World} {g : Nat} {pre cs post : List Value} {t : TypeId} (h : Blk w g (pre ++ cs ++ post) t) {o : Nat} (ho : pre.length = o) : ∀ j v, cs[j]? = some v → w.cell? ((⟨g, o, none⟩ : Addr).add j) = some v := fun j v hj => by
  have hlt := (List.getElem?_eq_some_iff.1 hj).1
  rw [Addr.add_mid, h.cell, List.append_assoc, List.getElem?_append_right (by omega), ho, Nat.add_sub_cancel_left, List.getElem?_append_left hlt]
  exact hj
theorem ownsRow_keepR {w w' : World} {B n size : Nat} {e : TypeId} {v : Value} {xs : List Value} (h : w.ownsRow B e size v n xs) (hk : ∀ g, v.ownBlock = some g → w'.heap[g]? = w.heap[g]?) : w'.ownsRow B e size v n xs := by
  refine ⟨h.1, ?_⟩
  rcases h.2 with h | ⟨g, cap, cur, hv, hg, hh, h4⟩
  · exact Or.inl h
  · exact Or.inr ⟨g, cap, cur, hv, hg, by rw [hk g (by rw [hv]; rfl)]; exact hh, h4⟩
theorem at_first {w : World} {q : Option Addr} {xs : List Value} (h : At w q xs) (i : Nat) : At w q (xs.take i) := by
  rcases h with h | ⟨b, off, rfl, hc⟩
  · exact .inl (by rw [h]; simp)
  · exact .inr ⟨b, off, rfl, fun j v hv => hc j v (by rw [List.getElem?_take] at hv; split at hv; exact hv; cases hv)⟩
theorem at_rest {w : World} {q : Option Addr} {xs : List Value} {n k s c : Nat} (h : At w q xs) (hl : xs.length = n * s) (hk : k ≤ n) (hc : n ≤ c) : At w (if c = k then q else q.map (·.add (k * s))) (xs.drop (k * s)) := by
  by_cases hck : c = k
  · obtain rfl : k = n := by omega
    exact .inl (List.drop_eq_nil_of_le (by omega))
  · rw [if_neg hck]
    rcases h with h | ⟨b, off, rfl, hcell⟩
    · exact .inl (by rw [h]; simp)
    · exact .inr ⟨b, off + k * s, by simp [Addr.add_mid], fun j v hv => by rw [List.getElem?_drop] at hv; rw [Nat.add_assoc]; exact hcell _ v hv⟩
theorem rest_nil {q : Option Addr} {n k s c : Nat} (hq : q = none → c = 0) : (if c = k then q else q.map (·.add (k * s))) = none → c - k = 0 := by
  intro h
  split at h
  · omega
  · cases q with
    | none => have := hq rfl; omega
    | some a => cases h
theorem own_lessR {w : World} {B B' n size : Nat} {e : TypeId} {v : Value} {xs : List Value} (h : w.ownsRow B e size v n xs) (hb : B' ≤ B) : w.ownsRow B' e size v n xs := by
  refine ⟨h.1, ?_⟩
  rcases h.2 with h | ⟨g, cap, cur, hv, hg, h4⟩
  · exact Or.inl h
  · exact Or.inr ⟨g, cap, cur, hv, Nat.le_trans hb hg, h4⟩
theorem at_newR (w : World) (cs : List Value) (t : TypeId) : At (w.alloc (.cells cs.toArray t)) (some ⟨w.heap.size, 0, none⟩) cs :=
  Or.inr ⟨w.heap.size, 0, rfl, fun i v h => by rw [Nat.zero_add, (Blk.new w cs.toArray t).cell]; exact h⟩
theorem execOp_sliceI (ρ : Operand → Value) (dst : Option Tmp) (x : Operand) (lo hi : Option Operand) (ty : TypeId) (pos : String) (after : Array Edge) (guard : Option (Nat × Bool)) :
    execOp ρ { dst := dst, op := .slice 22 x lo hi none, type := ty, pos := pos, after := after, guard := guard } = sliceOp 22 (ρ x) (lo.map ρ) (hi.map ρ) := by unfold sliceOp; rfl
theorem execOp_buildI (ρ : Operand → Value) (dst : Option Tmp) (len : Nat) (parts : Array (Nat × Operand)) (ty : TypeId) (pos : String) (after : Array Edge) (guard : Option (Nat × Bool)) :
    execOp ρ { dst := dst, op := .buildSlice 22 len parts, type := ty, pos := pos, after := after, guard := guard } = buildM 22 len (parts.map fun (i, x) => (i, ρ x)) := by unfold buildM; rfl
theorem isize : (Try.prog.info? 3).map (fun i => i.size) = some 1 := by kernel_rfl
theorem int_zs : (Try.prog.info? it).map (fun i => (i.zero, i.size)) = some (some (.int .i64 0), 1) := by kernel_rfl
theorem run_buildI0 (w : World) : (buildM 22 0 #[]).run Try.prog w = .ok (.value (.slice (some ⟨w.heap.size, 0, none⟩) 0 0)) (w.alloc (.cells #[] it)) := by
  unfold buildM; simp only [Sem.run_bind]
  rw [show (Instr.buildSlice 22 0 #[]).run Try.prog w = .ok (.slice (some ⟨w.heap.size, 0, none⟩) 0 0) (w.alloc (.cells #[] it)) by go_simp]; rfl
theorem own_emptyI (w : World) (B : Nat) (hB : B ≤ w.heap.size) : (w.alloc (.cells #[] it)).ownsRow B it 1 (.slice (some ⟨w.heap.size, 0, none⟩) 0 0) 0 [] :=
  ⟨rfl, Or.inr ⟨w.heap.size, 0, #[], rfl, hB, heap_alloc_new w _, Nat.le_refl _, by simp [maxLen], rfl, rfl⟩⟩
theorem run_buildI1 (w : World) (x : Int) : (buildM 22 1 #[(0, .int .i64 x)]).run Try.prog w = .ok (.value (.slice (some ⟨w.heap.size, 0, none⟩) 1 1)) (w.alloc (.cells #[.int .i64 x] it)) := by
  have := run_build_items (P := Try.prog) w 22 it 1 _ (by omega) Try.underlying22 int_zs [[.int .i64 x]] (by intro c hc; simp at hc; subst hc; rfl) (by simp)
  unfold buildM; simp only [Sem.run_bind]
  rw [show (Instr.buildSlice 22 1 #[(0, .int .i64 x)]).run Try.prog w = _ from this]; rfl
end Go.Proofs.Ytfoomffbjjcjjaa
