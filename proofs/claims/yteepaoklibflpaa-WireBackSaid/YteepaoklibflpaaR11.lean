/-
  A slice of bytes of the call's own, whose spare room holds numbers too: append keeps it so.
  Notes in memory: their cells, ids and words; loads of their parts.
  A region that draws its order, all of whose operations answer the same in every world behind one: read, and call what only adds to memory. General: no program is named here.
-/
import Derived.Test.YteepaoklibflpaaR10
import Derived.Test.YteepaoklibflpaaR7
import Derived.Test.YteepaoklibflpaaR9
import Derived.WalkSpells
import Derived.IntWalk
import Derived.WalkLawsBesides
import Derived.Laws.StructEq
import Derived.Test.YteepaoklibflpaaR8
import Derived.Deep.Quiet
namespace Go.Proofs.Yteepaoklibflpaa
section
set_option linter.unusedSimpArgs false
set_option linter.unusedVariables false
/-- What lies in a slice's block are bytes, behind its length too. -/
def Ints8 (w : World) (v : Value) : Prop := ∀ g, v.ownBlock = some g → ∀ (j : Nat) u, w.cell? ⟨g, j, none⟩ = some u → ∃ n, u = .int .u8 n
structure Own8 (w : World) (B : Nat) (e : TypeId) (v : Value) (n : Nat) (xs : List Value) : Prop where
  row : w.ownsRow B e 1 v n xs
  ints : Ints8 w v
theorem Ints8.nil (w : World) : Ints8 w (.slice none 0 0) := fun g h => by cases h
theorem Own8.nil (w : World) (B : Nat) (e : TypeId) : Own8 w B e (.slice none 0 0) 0 [] := ⟨World.ownsRow_nil _ _ _ _, Ints8.nil _⟩
theorem Ints8.carry {w w' : World} {v : Value} (h : Ints8 w v) (hc : ∀ g, v.ownBlock = some g → w'.heap[g]? = w.heap[g]?) : Ints8 w' v := fun g hg j u hu => h g hg j u (by rw [← hu]; exact (World.cell?_of_block (hc g hg)).symm)
theorem Own8.alloc {w : World} {B n : Nat} {e : TypeId} {v : Value} {xs : List Value} (h : Own8 w B e v n xs) (o : Obj) : Own8 (w.alloc o) B e v n xs :=
  ⟨h.row.alloc o, h.ints.carry fun g hg => (World.grownBy_alloc w o none).block g (h.row.lt g hg).2 (by simp)⟩
theorem ints_block {w : World} {g n c : Nat} {cur : Array Value} {e : TypeId} {fr : Nat × Nat} (hh : w.heap[g]? = some (.cells cur e fr)) (h : ∀ u ∈ cur.toList, ∃ n, u = Value.int .u8 n) : Ints8 w (.slice (some ⟨g, 0, none⟩) n c) := by
  intro g' hg j u hu
  cases hg
  rw [cell_of_row w g j cur e fr hh] at hu
  exact h u (by rw [Array.mem_toList_iff]; exact Array.mem_of_getElem? hu)
theorem ints_zero (k : Nat) : ∀ u ∈ (Builtin.zeroCells (Value.cells (.int .u8 0)) k).toList, ∃ n, u = Value.int .u8 n := by
  intro u hu
  rw [Array.mem_toList_iff] at hu
  obtain ⟨i, hi, rfl⟩ := Array.mem_iff_getElem.1 hu
  have h0 : i % 1 = 0 := by omega
  exact ⟨0, by simp [Builtin.zeroCells, Value.cells, h0]⟩
theorem ints_row {w : World} {g : Nat} {cur : Array Value} {e : TypeId} {fr : Nat × Nat} {n c : Nat} (h : Ints8 w (.slice (some ⟨g, 0, none⟩) n c)) (hh : w.heap[g]? = some (.cells cur e fr)) : ∀ u ∈ cur.toList, ∃ n, u = Value.int .u8 n := by
  intro u hu
  rw [Array.mem_toList_iff] at hu
  obtain ⟨i, hi⟩ := Array.mem_iff_getElem?.1 hu
  exact h g rfl i u (by rw [cell_of_row w g i cur e fr hh]; exact hi)
section
variable {P : Program} {ops : Array Oper} {rest : List Oper} {o : Oper} {a : Act} {w : World} {Q : Exit → Act → World → Prop} {K : Act → World → Prop} {E : Prop}
theorem run_app8 (w : World) (B : Nat) (t ty e : TypeId) (i : TypeInfo) (by_ : Nat) (ht : P.underlying t = some (.slice e)) (hi : P.info? e = some i) (hz : i.zero = some (.int .u8 0)) (h1s : i.size = 1) (hby : i.bytes = by_)
    (v : Value) (n : Nat) (xs : List Value) (hown : Own8 w B e v n xs)
    (ad : Addr) (m c : Nat) (news : List Value) (hl : news.length = m) (hnews : ∀ j u, news[j]? = some u → w.cell? (ad.add j) = some u) (h1 : ∀ u ∈ news, ∃ n, u = Value.int .u8 n)
    (hmax : n + m ≤ maxLen) (hbytes : (n + m) * by_ ≤ 140737488355328) (hB : B ≤ w.heap.size) :
    ∃ v' w', (Builtin.append_ #[t, t] ty #[v, .slice (some ad) m c]).run P w = .ok v' w' ∧ Own8 w' B e v' (n + m) (xs ++ news) ∧ w.grownBy w' v.ownBlock := by
  have hone : ∀ u ∈ news, u.oneCell' = true := fun u hu => by obtain ⟨k, rfl⟩ := h1 u hu; rfl
  obtain ⟨v', w', hr, h2, h3, _⟩ := run_append_own (P := P) w B t ty e i (.int .u8 0) 1 by_ ht hi hz h1s hby rfl (by decide) v n xs hown.row ad m c news (by omega) hnews hone hmax hbytes hB
  refine ⟨v', w', hr, ⟨h2, ?_⟩, h3⟩
  have hsmall : n + m ≤ 9223372036854775807 := by simp only [maxLen] at hmax; omega
  subst hby
  rcases hown.row.2 with ⟨rfl, rfl⟩ | ⟨g, cap, cur, rfl, hbg, hg, hnc, hcm, hcs, htake⟩
  · by_cases hm : m = 0
    · subst hm
      have hn : news = [] := List.eq_nil_of_length_eq_zero hl
      subst hn
      have hr' : (Builtin.append_ #[t, t] ty #[.slice none 0 0, .slice (some ad) 0 c]).run P w = .ok (.slice none 0 0) w := by
        simp [Builtin.append_, run_underlying ht, sizeOf, typeInfo, hi, Builtin.lenOf, Builtin.firstCells, loadCells, loadCellsFrom]
      rw [hr'] at hr
      cases hr
      exact Ints8.nil _
    · have hr' := run_append_nil (P := P) w t ty e i (.int .u8 0) ht hi hz ad m c news (by rw [h1s]; omega) hnews (by omega) (by omega) (by have hb := hbytes; simp only [Nat.zero_add] at hb; omega)
      rw [hr'] at hr
      cases hr
      refine ints_block (heap_alloc_new w.drew _) fun u hu => ?_
      rw [Array.toList_append, List.mem_append] at hu
      rcases hu with hu | hu
      · exact h1 u (by simpa using hu)
      · exact ints_zero _ u hu
  · by_cases hroom : n + m ≤ cap
    · have hfit : n * i.size + news.length ≤ cur.size := by rw [h1s, hcs]; omega
      have hr' := run_append_room (P := P) w t ty e i ht hi g n cap cur hg ad m c news (by rw [h1s]; omega) hnews hone hroom hfit
      rw [hr'] at hr
      cases hr
      refine ints_block (setRow_heap w g cur _ e _ hg) fun u hu => ?_
      have hi := ints_row hown.ints hg
      simp only [List.mem_append] at hu
      rcases hu with (hu | hu) | hu
      · exact hi u (List.mem_of_mem_take hu)
      · exact h1 u hu
      · exact hi u (List.mem_of_mem_drop hu)
    · have holds : ∀ j u, xs[j]? = some u → w.cell? ((⟨g, 0, none⟩ : Addr).add j) = some u := hown.row.cells (g := g) rfl
      have hr' := run_append_grow (P := P) w t ty e i (.int .u8 0) ht hi hz ⟨g, 0, none⟩ n cap xs (by rw [h1s]; exact hown.row.1) holds ad m c news (by rw [h1s]; omega) hnews (by omega) (by omega) (growslice_fits (by omega) hbytes)
      rw [hr'] at hr
      cases hr
      refine ints_block (heap_alloc_new w.drew _) fun u hu => ?_
      rw [Array.toList_append, Array.toList_append, List.mem_append, List.mem_append] at hu
      have hi := ints_row hown.ints hg
      rcases hu with (hu | hu) | hu
      · exact hi u (by
          have : u ∈ xs := by simpa using hu
          rw [← htake] at this
          exact List.mem_of_mem_take this)
      · exact h1 u (by simpa using hu)
      · exact ints_zero _ u hu
theorem wp_app8 (s x : Operand) (t : TypeId) (ho : o.op = .call { callee := .builtin .append, args := #[s, x], argTypes := #[t, t] })
    (B : Nat) (e : TypeId) {by_ : Nat} (ht : P.underlying t = some (.slice e)) (hi : (P.info? e).map (fun i => (i.zero, i.size, i.bytes)) = some (some (.int .u8 0), 1, by_))
    (v : Value) (n : Nat) (xs : List Value) (hs : a.eval s = v) (hown : Own8 w B e v n xs)
    (p : Option Addr) (m c : Nat) (news : List Value) (hx : a.eval x = .slice p m c) (hA : At w p news) (hl : news.length = m) (hn : p = none → c = 0) (hmc : m ≤ c) (h1 : ∀ u ∈ news, ∃ n, u = Value.int .u8 n)
    (hbytes : (n + m) * by_ ≤ 140737488355328) (hmax : n + m ≤ maxLen) (hB : B ≤ w.heap.size)
    (h : ∀ v' w', Own8 w' B e v' (n + m) (xs ++ news) → w.grownBy w' v.ownBlock → RowKit.Below B w w' → B ≤ w'.heap.size → K (a.put o.dst v') w') : o.wp P a w K Q := by
  obtain ⟨i, hi, hz0, hz1, hz2⟩ := info_parts hi
  have hblock : ∀ k, v.ownBlock = some k → B ≤ k := fun k hk => (hown.row.lt k hk).1
  cases p with
  | none =>
    have hc := hn rfl
    have hm : m = 0 := by omega
    subst hc hm
    have hnews : news = [] := List.eq_nil_of_length_eq_zero hl
    subst hnews
    have hrun := run_append_owned_none (P := P) (w := w) B t o.type e i 1 ht hi v n xs hown.row
    unfold Oper.wp
    simp [execOp, ho, resolve, invoke, builtin, hs, hx, hrun, Result.andThen]
    exact h v w (by simpa using hown) ⟨rfl, rfl, rfl, Nat.le_refl _, fun _ _ _ => rfl⟩ (RowKit.Below.refl _ _) hB
  | some ad =>
    obtain ⟨v', w', hr, h2, h3⟩ := run_app8 (P := P) w B t o.type e i by_ ht hi hz0 hz1 hz2 v n xs hown ad m c news hl (by
      intro j u hj
      rcases hA with hA | ⟨b, off, hA, hc⟩
      · subst hA; simp at hj
      · cases hA; rw [Addr.add_mid]; exact hc j u hj) h1 hmax hbytes hB
    unfold Oper.wp
    simp [execOp, ho, resolve, invoke, builtin, hs, hx, hr, Result.andThen]
    exact h v' w' h2 h3 ((RowKit.Below.refl B w).grown h3 hB hblock) (Nat.le_trans hB h3.size)
theorem wpList_app8 (hgd : o.guard = none) (s x : Operand) (t : TypeId) (ho : o.op = .call { callee := .builtin .append, args := #[s, x], argTypes := #[t, t] })
    (B : Nat) (e : TypeId) {by_ : Nat} (ht : P.underlying t = some (.slice e)) (hi : (P.info? e).map (fun i => (i.zero, i.size, i.bytes)) = some (some (.int .u8 0), 1, by_))
    (v : Value) (n : Nat) (xs : List Value) (hs : a.eval s = v) (hown : Own8 w B e v n xs)
    (p : Option Addr) (m c : Nat) (news : List Value) (hx : a.eval x = .slice p m c) (hA : At w p news) (hl : news.length = m) (hn : p = none → c = 0) (hmc : m ≤ c) (h1 : ∀ u ∈ news, ∃ n, u = Value.int .u8 n)
    (hbytes : (n + m) * by_ ≤ 140737488355328) (hmax : n + m ≤ maxLen) (hB : B ≤ w.heap.size)
    (h : ∀ v' w', Own8 w' B e v' (n + m) (xs ++ news) → w.grownBy w' v.ownBlock → RowKit.Below B w w' → B ≤ w'.heap.size → wpList P ops Q rest (a.put o.dst v') w') : wpList P ops Q (o :: rest) a w :=
  wpList_plain hgd fun _ hK => wp_app8 s x t ho B e ht hi v n xs hs hown p m c news hx hA hl hn hmc h1 hbytes hmax hB fun v' w' h1 h2 h3 h4 => hK _ _ (h v' w' h1 h2 h3 h4)
theorem step_app8 (hgd : o.guard = none) (s x : Operand) (t : TypeId) (ho : o.op = .call { callee := .builtin .append, args := #[s, x], argTypes := #[t, t] })
    (B : Nat) (e : TypeId) {by_ : Nat} (ht : P.underlying t = some (.slice e)) (hi : (P.info? e).map (fun i => (i.zero, i.size, i.bytes)) = some (some (.int .u8 0), 1, by_))
    (v : Value) (n : Nat) (xs : List Value) (hs : a.eval s = v) (hown : Own8 w B e v n xs)
    (p : Option Addr) (m c : Nat) (news : List Value) (hx : a.eval x = .slice p m c) (hA : At w p news) (hl : news.length = m) (hn : p = none → c = 0) (hmc : m ≤ c) (h1 : ∀ u ∈ news, ∃ n, u = Value.int .u8 n)
    (hbytes : (n + m) * by_ ≤ 140737488355328) (hmax : n + m ≤ maxLen) (hB : B ≤ w.heap.size)
    (h : ∀ v' w', Own8 w' B e v' (n + m) (xs ++ news) → w.grownBy w' v.ownBlock → RowKit.Below B w w' → B ≤ w'.heap.size → K (a.put o.dst v') w') :
    if Region.wanted o (yielded ops a.tmps) = true then Oper.wp P o a w K Q else E := by
  have hw : Region.wanted o (yielded ops a.tmps) = true := by simp [Region.wanted, hgd]
  rw [if_pos hw]
  exact wp_app8 s x t ho B e ht hi v n xs hs hown p m c news hx hA hl hn hmc h1 hbytes hmax hB h
end
theorem ints_map (l : List Int) : ∀ u ∈ l.map (Value.int .u8), ∃ n, u = Value.int .u8 n := by
  intro u hu
  obtain ⟨n, _, rfl⟩ := List.mem_map.1 hu
  exact ⟨n, rfl⟩
end
section
set_option linter.unusedSimpArgs false
set_option linter.unusedVariables false
open Go.RowKit Sha Nte
open Frm (Bytes)
abbrev nic (n : Int) : Value := .int .i64 n
theorem nv8_cells {l : List Int} : ∀ v ∈ l.map v8, v.oneCell' = true := by
  intro v hv
  obtain ⟨n, _, rfl⟩ := List.mem_map.1 hv
  simp [Value.oneCell']
def nmc (m : Mb) : List Value := [nic m.I, nic m.S, nic m.N]
def sW : Shp Mb := ⟨3, fun _ => [], fun m _ _ => nmc m, Mb.ok, by omega, fun _ _ _ => rfl, fun x q c v hv => by
  unfold nmc at hv; simp at hv; rcases hv with rfl | rfl | rfl <;> rfl, fun _ => by simp⟩
def sI : Shp (List Int) := ⟨32, fun _ => [], fun d _ _ => d.map v8, fun d => Bytes d ∧ d.length = 32, by omega, fun _ _ h => by simp [h.2], fun _ _ _ => nv8_cells, fun _ => by simp⟩
/-- Where a note's bytes, ids, words begin, and how much room they have. -/
structure NHd where
  q : Option Addr
  c : Nat
  r : Option Addr
  d : Nat
  s : Option Addr
  e : Nat
def NHd.none_ : NHd := ⟨none, 0, none, 0, none, 0⟩
def ncells (x : Not) (h : NHd) : List Value :=
  nic x.K :: nic x.F :: nic x.T :: nic x.C1 :: nic x.C2 :: nic x.C3 :: nic x.S :: nic x.H :: nic x.B1 :: nic x.B2 :: nic x.O1 :: nic x.O2 :: .bool x.Y :: (x.D.map v8 ++ [.slice h.q x.X.length h.c, .slice h.r x.I.length h.d, .slice h.s x.W.length h.e])
structure NGood (w : World) (x : Not) (h : NHd) : Prop where
  ok : x.ok
  X : At w h.q (x.X.map v8)
  Xc : x.X.length ≤ h.c
  Xm : h.c ≤ 9223372036854775807
  Xn : h.q = none → h.c = 0
  I : sI.Told w h.r x.I.length h.d x.I
  W : sW.Told w h.s x.W.length h.e x.W
theorem NGood.below {w w' : World} {x : Not} {h : NHd} (g : NGood w x h) (hb : Below w.heap.size w w') : NGood w' x h := ⟨g.ok, g.X.below hb, g.Xc, g.Xm, g.Xn, g.I.below hb, g.W.below hb⟩
theorem NGood.carry {w w' : World} {x : Not} {h : NHd} (g : NGood w x h) (hc : ∀ p v, w.cell? p = some v → w'.cell? p = some v) : NGood w' x h := ⟨g.ok, g.X.carry hc, g.Xc, g.Xm, g.Xn, g.I.carry hc, g.W.carry hc⟩
theorem ngood_none (w : World) : NGood w none_ NHd.none_ := ⟨none_ok, At.nil _ _, by simp [none_], by simp [NHd.none_], fun _ => rfl, Shp.Told.none_ w, Shp.Told.none_ w⟩
theorem ncells_0 (x : Not) (h : NHd) : (ncells x h)[0]? = some (nic x.K) := rfl
theorem ncells_1 (x : Not) (h : NHd) : (ncells x h)[1]? = some (nic x.F) := rfl
theorem ncells_2 (x : Not) (h : NHd) : (ncells x h)[2]? = some (nic x.T) := rfl
theorem ncells_3 (x : Not) (h : NHd) : (ncells x h)[3]? = some (nic x.C1) := rfl
theorem ncells_4 (x : Not) (h : NHd) : (ncells x h)[4]? = some (nic x.C2) := rfl
theorem ncells_5 (x : Not) (h : NHd) : (ncells x h)[5]? = some (nic x.C3) := rfl
theorem ncells_6 (x : Not) (h : NHd) : (ncells x h)[6]? = some (nic x.S) := rfl
theorem ncells_7 (x : Not) (h : NHd) : (ncells x h)[7]? = some (nic x.H) := rfl
theorem ncells_8 (x : Not) (h : NHd) : (ncells x h)[8]? = some (nic x.B1) := rfl
theorem ncells_9 (x : Not) (h : NHd) : (ncells x h)[9]? = some (nic x.B2) := rfl
theorem ncells_10 (x : Not) (h : NHd) : (ncells x h)[10]? = some (nic x.O1) := rfl
theorem ncells_11 (x : Not) (h : NHd) : (ncells x h)[11]? = some (nic x.O2) := rfl
theorem ncells_12 (x : Not) (h : NHd) : (ncells x h)[12]? = some (.bool x.Y) := rfl
theorem ncells_far (x : Not) (h : NHd) (j : Nat) : (ncells x h)[13 + j]? = (x.D.map v8 ++ [.slice h.q x.X.length h.c, .slice h.r x.I.length h.d, .slice h.s x.W.length h.e])[j]? := by
  unfold ncells
  rw [show 13 + j = j + 1 + 1 + 1 + 1 + 1 + 1 + 1 + 1 + 1 + 1 + 1 + 1 + 1 by omega]
  simp only [List.getElem?_cons_succ]
theorem ncells_D (x : Not) (h : NHd) (j : Nat) (v : Value) (hv : (x.D.map v8)[j]? = some v) : (ncells x h)[13 + j]? = some v := by
  rw [ncells_far, List.getElem?_append_left (List.getElem?_eq_some_iff.1 hv).1]; exact hv
theorem ncells_X {x : Not} (hx : x.D.length = 32) (h : NHd) : (ncells x h)[45]? = some (.slice h.q x.X.length h.c) := by
  rw [show 45 = 13 + 32 from rfl, ncells_far, List.getElem?_append_right (by simp [hx])]; simp [hx]
theorem ncells_I {x : Not} (hx : x.D.length = 32) (h : NHd) : (ncells x h)[46]? = some (.slice h.r x.I.length h.d) := by
  rw [show 46 = 13 + 33 from rfl, ncells_far, List.getElem?_append_right (by simp [hx])]; simp [hx]
theorem ncells_W {x : Not} (hx : x.D.length = 32) (h : NHd) : (ncells x h)[47]? = some (.slice h.s x.W.length h.e) := by
  rw [show 47 = 13 + 34 from rfl, ncells_far, List.getElem?_append_right (by simp [hx])]; simp [hx]
theorem ncells_length {x : Not} (hx : x.D.length = 32) (h : NHd) : (ncells x h).length = 48 := by unfold ncells; simp [hx]
theorem ncells_one (x : Not) (h : NHd) : ∀ v ∈ ncells x h, v.oneCell' = true := by
  unfold ncells
  intro v hv
  simp only [List.mem_cons, List.mem_append, List.not_mem_nil, or_false] at hv
  rcases hv with rfl | rfl | rfl | rfl | rfl | rfl | rfl | rfl | rfl | rfl | rfl | rfl | rfl | hv | rfl | rfl | rfl
  all_goals first | rfl | exact nv8_cells v hv
/-! ### Loads -/
theorem execOp_loadNote (ρ : Operand → Value) (dst : Option Tmp) (x : Operand) (ty : TypeId) (pos : String) (after : Array Edge) (guard : Option (Nat × Bool)) :
    execOp ρ { dst := dst, op := .load 32 x, type := ty, pos := pos, after := after, guard := guard } = loadOp 32 (ρ x) := by unfold loadOp; rfl
theorem execOp_loadCall (ρ : Operand → Value) (dst : Option Tmp) (x : Operand) (ty : TypeId) (pos : String) (after : Array Edge) (guard : Option (Nat × Bool)) :
    execOp ρ { dst := dst, op := .load 23 x, type := ty, pos := pos, after := after, guard := guard } = loadOp 23 (ρ x) := by unfold loadOp; rfl
theorem execOp_loadBall (ρ : Operand → Value) (dst : Option Tmp) (x : Operand) (ty : TypeId) (pos : String) (after : Array Edge) (guard : Option (Nat × Bool)) :
    execOp ρ { dst := dst, op := .load 25 x, type := ty, pos := pos, after := after, guard := guard } = loadOp 25 (ρ x) := by unfold loadOp; rfl
theorem execOp_loadWord (ρ : Operand → Value) (dst : Option Tmp) (x : Operand) (ty : TypeId) (pos : String) (after : Array Edge) (guard : Option (Nat × Bool)) :
    execOp ρ { dst := dst, op := .load 67 x, type := ty, pos := pos, after := after, guard := guard } = loadOp 67 (ρ x) := by unfold loadOp; rfl
theorem note_size : (Try.prog.info? 32).map (fun i => i.size) = some 48 := by kernel_rfl
theorem call_size : (Try.prog.info? 23).map (fun i => i.size) = some 3 := by kernel_rfl
theorem ball_size : (Try.prog.info? 25).map (fun i => i.size) = some 2 := by kernel_rfl
theorem word_size : (Try.prog.info? 67).map (fun i => i.size) = some 3 := by kernel_rfl
theorem rangeAt_part {w : World} {g o : Nat} {cs : List Value} (h : w.rangeAt g o cs) (k : Nat) {ds : List Value} (hd : ∀ j v, ds[j]? = some v → cs[k + j]? = some v) : w.rangeAt g (o + k) ds := fun j v hv => by
  rw [Nat.add_assoc]; exact h _ v (hd j v hv)
theorem load_note {w : World} {g o : Nat} {x : Not} {h : NHd} (hx : x.D.length = 32) (hr : w.rangeAt g o (ncells x h)) : (loadOp 32 (.pointer (some ⟨g, o, none⟩))).run Try.prog w = .ok (.value (.agg (ncells x h).toArray)) w :=
  run_loadOp (run_loadAt_mid w g o 32 _ _ hr Try.underlying32 rfl (by rw [note_size, ncells_length hx]))
theorem load_nid {w : World} {g o : Nat} {x : Not} {h : NHd} (hx : x.D.length = 32) (hr : w.rangeAt g o (ncells x h)) : (loadOp 27 (.pointer (some ⟨g, o + 13, none⟩))).run Try.prog w = .ok (.value (.agg (x.D.map v8).toArray)) w :=
  run_loadOp (run_loadAt_mid w g (o + 13) 27 _ _ (rangeAt_part hr 13 (ncells_D x h)) Try.underlying27 rfl (by rw [id_size, List.length_map, hx]))
theorem load_ncall {w : World} {g o : Nat} {x : Not} {h : NHd} (hr : w.rangeAt g o (ncells x h)) : (loadOp 23 (.pointer (some ⟨g, o + 3, none⟩))).run Try.prog w = .ok (.value (.agg #[nic x.C1, nic x.C2, nic x.C3])) w :=
  run_loadOp (run_loadAt_mid w g (o + 3) 23 [nic x.C1, nic x.C2, nic x.C3] _ (rangeAt_part hr 3 (fun j v hv => by
    match j with
    | 0 => exact hv
    | 1 => exact hv
    | 2 => exact hv
    | j + 3 => simp at hv)) Try.underlying23 rfl (by rw [call_size]; rfl))
theorem load_nball {w : World} {g o : Nat} {x : Not} {h : NHd} (hr : w.rangeAt g o (ncells x h)) : (loadOp 25 (.pointer (some ⟨g, o + 8, none⟩))).run Try.prog w = .ok (.value (.agg #[nic x.B1, nic x.B2])) w :=
  run_loadOp (run_loadAt_mid w g (o + 8) 25 [nic x.B1, nic x.B2] _ (rangeAt_part hr 8 (fun j v hv => by
    match j with
    | 0 => exact hv
    | 1 => exact hv
    | j + 2 => simp at hv)) Try.underlying25 rfl (by rw [ball_size]; rfl))
theorem load_noth {w : World} {g o : Nat} {x : Not} {h : NHd} (hr : w.rangeAt g o (ncells x h)) : (loadOp 25 (.pointer (some ⟨g, o + 10, none⟩))).run Try.prog w = .ok (.value (.agg #[nic x.O1, nic x.O2])) w :=
  run_loadOp (run_loadAt_mid w g (o + 10) 25 [nic x.O1, nic x.O2] _ (rangeAt_part hr 10 (fun j v hv => by
    match j with
    | 0 => exact hv
    | 1 => exact hv
    | j + 2 => simp at hv)) Try.underlying25 rfl (by rw [ball_size]; rfl))
theorem load_word {w : World} {g o : Nat} {m : Mb} (hr : w.rangeAt g o (nmc m)) : (loadOp 67 (.pointer (some ⟨g, o, none⟩))).run Try.prog w = .ok (.value (.agg (nmc m).toArray)) w :=
  run_loadOp (run_loadAt_mid w g o 67 _ _ hr Try.underlying67 rfl (by rw [word_size]; rfl))
theorem load_idr {w : World} {g o : Nat} {d : List Int} (hx : d.length = 32) (hr : w.rangeAt g o (d.map v8)) : (loadOp 27 (.pointer (some ⟨g, o, none⟩))).run Try.prog w = .ok (.value (.agg (d.map v8).toArray)) w :=
  run_loadOp (run_loadAt_mid w g o 27 _ _ hr Try.underlying27 rfl (by rw [id_size, List.length_map, hx]))
end
section
set_option linter.unusedSimpArgs false
set_option linter.unusedVariables false
open Go.RowKit
variable {P : Program}
theorem wp_region_cls {I : Type} (W : I → World) {id : Nat} {Q : Exit → Act → World → Prop} {a : Act} {w : World} {l : List Oper} (hm : P.follows .mixedOrders = true) (hB : Region.lexB .any l.toArray = true) (h0 : ∃ n, w.drew = W n)
    (h : wpQuiet P l.toArray (fun w' => ∃ n, w' = W n) (fun a' => ∀ w', (∃ n, w' = W n) → Q .normal a' w') l a) : (Code.region id l.toArray true).wp P Q a w :=
  wp_region_quiet (C := fun w' => ∃ n, w' = W n) hm hB h0 (by simpa using h)
/-- The worlds behind one, by number. -/
structure Cls (w : World) (I : Type) (W : I → World) : Prop where
  back : ∀ n, Below w.heap.size w (W n)
  all : ∀ w', Below w.heap.size w w' → ∃ n, w' = W n
theorem cls_of (w : World) : ∃ (I : Type) (W : I → World), Cls w I W := ⟨{w' : World // Below w.heap.size w w'}, Subtype.val, fun n => n.2, fun w' h => ⟨⟨w', h⟩, rfl⟩⟩
section
variable {w : World} {I : Type} {W : I → World}
theorem Cls.ne (h : Cls w I W) : Nonempty I := by
  obtain ⟨n, _⟩ := h.all w (Below.refl _ _)
  exact ⟨n⟩
theorem Cls.one (h : Cls w I W) : ∃ n, w.drew = W n := h.all _ (Below.refl _ _).drew
theorem Cls.cell (h : Cls w I W) {p : Addr} {v : Value} (hc : w.cell? p = some v) : ∀ n, (W n).cell? p = some v := fun n => ((h.back n).cell (World.block_lt_of_cell? w p hc)).trans hc
theorem Cls.call (h : Cls w I W) {f : Nat} {args : Array Value} {v : Value} (hc : ∀ w', Below w.heap.size w w' → Calls P f args w' fun e w'' => e = .returned v ∧ Below w'.heap.size w' w'') : ∀ n, Calls P f args (W n) fun e w'' => e = .returned v ∧ ∃ m, w'' = W m := fun n =>
  (hc _ (h.back n)).mono fun e w'' ⟨he, hb⟩ => ⟨he, h.all _ ((h.back n).trans (hb.mono (h.back n).size))⟩
end
end
end Go.Proofs.Yteepaoklibflpaa
