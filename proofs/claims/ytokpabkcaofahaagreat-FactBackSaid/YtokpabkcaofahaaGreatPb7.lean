/-
  A slice of bytes of the call's own, whose spare room holds numbers too: append keeps it so.
  Facts and states in memory; what the fact package is asked.
  A slice of structs built of its elements: '[]T{a, b, c}', 'append(out, x)'.
  Structs loaded and built, as one operation each: names that the walk does not open.
-/
import Derived.Test.YtokpabkcaofahaaGreatPb1
import Derived.Deep.RegionLaw
import Derived.Deep.AppendLies
import Derived.Test.YtokpabkcaofahaaGreatPb3
import Derived.Test.YtokpabkcaofahaaGreatPb6
import Derived.BigFrame
import Derived.Test.YtokpabkcaofahaaGreatPb2
namespace Go.Proofs.YtokpabkcaofahaaGreat
section
set_option linter.unusedSimpArgs false
set_option linter.unusedVariables false
/-- What lies in a slice's block are bytes, behind its length too. -/
def Ints8 (w : World) (v : Value) : Prop := ∀ g, v.ownBlock = some g → ∀ (j : Nat) u, w.cell? ⟨g, j, none⟩ = some u → ∃ n, u = .int .u8 n
structure Own8 (w : World) (B : Nat) (e : TypeId) (v : Value) (n : Nat) (xs : List Value) : Prop where
  row : w.ownsRow B e 1 v n xs
  ints : Ints8 w v
theorem Ints8.nil (w : World) : Ints8 w (.slice none 0 0) := fun g h => by cases h
theorem Own8.nil (w : World) (B : Nat) (e : TypeId) : Own8 w B e (.slice none 0 0) 0 [] := ⟨World.ownsRow_nil _ _ _ _, Ints8.nil _⟩
theorem Ints8.carry {w w' : World} {v : Value} (h : Ints8 w v) (hc : ∀ g, v.ownBlock = some g → w'.heap[g]? = w.heap[g]?) : Ints8 w' v := fun g hg j u hu => h g hg j u (by rw [← hu]; exact (World.cell?_of_block (hc g hg)).symm)
theorem Own8.alloc {w : World} {B n : Nat} {e : TypeId} {v : Value} {xs : List Value} (h : Own8 w B e v n xs) (o : Obj) : Own8 (w.alloc o) B e v n xs :=
  ⟨h.row.alloc o, h.ints.carry fun g hg => (World.grownBy_alloc w o none).block g (h.row.lt g hg).2 (by simp)⟩
theorem ints_block {w : World} {g n c : Nat} {cur : Array Value} {e : TypeId} {fr : Nat × Nat} (hh : w.heap[g]? = some (.cells cur e fr)) (h : ∀ u ∈ cur.toList, ∃ n, u = Value.int .u8 n) : Ints8 w (.slice (some ⟨g, 0, none⟩) n c) := by
  intro g' hg j u hu
  cases hg
  rw [cell_of_row w g j cur e fr hh] at hu
  exact h u (by rw [Array.mem_toList_iff]; exact Array.mem_of_getElem? hu)
theorem ints_zero (k : Nat) : ∀ u ∈ (Builtin.zeroCells (Value.cells (.int .u8 0)) k).toList, ∃ n, u = Value.int .u8 n := by
  intro u hu
  rw [Array.mem_toList_iff] at hu
  obtain ⟨i, hi, rfl⟩ := Array.mem_iff_getElem.1 hu
  have h0 : i % 1 = 0 := by omega
  exact ⟨0, by simp [Builtin.zeroCells, Value.cells, h0]⟩
theorem ints_row {w : World} {g : Nat} {cur : Array Value} {e : TypeId} {fr : Nat × Nat} {n c : Nat} (h : Ints8 w (.slice (some ⟨g, 0, none⟩) n c)) (hh : w.heap[g]? = some (.cells cur e fr)) : ∀ u ∈ cur.toList, ∃ n, u = Value.int .u8 n := by
  intro u hu
  rw [Array.mem_toList_iff] at hu
  obtain ⟨i, hi⟩ := Array.mem_iff_getElem?.1 hu
  exact h g rfl i u (by rw [cell_of_row w g i cur e fr hh]; exact hi)
section
variable {P : Program} {ops : Array Oper} {rest : List Oper} {o : Oper} {a : Act} {w : World} {Q : Exit → Act → World → Prop} {K : Act → World → Prop} {E : Prop}
theorem run_app8 (w : World) (B : Nat) (t ty e : TypeId) (i : TypeInfo) (by_ : Nat) (ht : P.underlying t = some (.slice e)) (hi : P.info? e = some i) (hz : i.zero = some (.int .u8 0)) (h1s : i.size = 1) (hby : i.bytes = by_)
    (v : Value) (n : Nat) (xs : List Value) (hown : Own8 w B e v n xs)
    (ad : Addr) (m c : Nat) (news : List Value) (hl : news.length = m) (hnews : ∀ j u, news[j]? = some u → w.cell? (ad.add j) = some u) (h1 : ∀ u ∈ news, ∃ n, u = Value.int .u8 n)
    (hmax : n + m ≤ maxLen) (hbytes : (n + m) * by_ ≤ 140737488355328) (hB : B ≤ w.heap.size) :
    ∃ v' w', (Builtin.append_ #[t, t] ty #[v, .slice (some ad) m c]).run P w = .ok v' w' ∧ Own8 w' B e v' (n + m) (xs ++ news) ∧ w.grownBy w' v.ownBlock := by
  have hone : ∀ u ∈ news, u.oneCell' = true := fun u hu => by obtain ⟨k, rfl⟩ := h1 u hu; rfl
  obtain ⟨v', w', hr, h2, h3, _⟩ := run_append_own (P := P) w B t ty e i (.int .u8 0) 1 by_ ht hi hz h1s hby rfl (by decide) v n xs hown.row ad m c news (by omega) hnews hone hmax hbytes hB
  refine ⟨v', w', hr, ⟨h2, ?_⟩, h3⟩
  have hsmall : n + m ≤ 9223372036854775807 := by simp only [maxLen] at hmax; omega
  subst hby
  rcases hown.row.2 with ⟨rfl, rfl⟩ | ⟨g, cap, cur, rfl, hbg, hg, hnc, hcm, hcs, htake⟩
  · by_cases hm : m = 0
    · subst hm
      have hn : news = [] := List.eq_nil_of_length_eq_zero hl
      subst hn
      have hr' : (Builtin.append_ #[t, t] ty #[.slice none 0 0, .slice (some ad) 0 c]).run P w = .ok (.slice none 0 0) w := by
        simp [Builtin.append_, run_underlying ht, sizeOf, typeInfo, hi, Builtin.lenOf, Builtin.firstCells, loadCells, loadCellsFrom]
      rw [hr'] at hr
      cases hr
      exact Ints8.nil _
    · have hr' := run_append_nil (P := P) w t ty e i (.int .u8 0) ht hi hz ad m c news (by rw [h1s]; omega) hnews (by omega) (by omega) (by have hb := hbytes; simp only [Nat.zero_add] at hb; omega)
      rw [hr'] at hr
      cases hr
      refine ints_block (heap_alloc_new w.drew _) fun u hu => ?_
      rw [Array.toList_append, List.mem_append] at hu
      rcases hu with hu | hu
      · exact h1 u (by simpa using hu)
      · exact ints_zero _ u hu
  · by_cases hroom : n + m ≤ cap
    · have hfit : n * i.size + news.length ≤ cur.size := by rw [h1s, hcs]; omega
      have hr' := run_append_room (P := P) w t ty e i ht hi g n cap cur hg ad m c news (by rw [h1s]; omega) hnews hone hroom hfit
      rw [hr'] at hr
      cases hr
      refine ints_block (setRow_heap w g cur _ e _ hg) fun u hu => ?_
      have hi := ints_row hown.ints hg
      simp only [List.mem_append] at hu
      rcases hu with (hu | hu) | hu
      · exact hi u (List.mem_of_mem_take hu)
      · exact h1 u hu
      · exact hi u (List.mem_of_mem_drop hu)
    · have holds : ∀ j u, xs[j]? = some u → w.cell? ((⟨g, 0, none⟩ : Addr).add j) = some u := hown.row.cells (g := g) rfl
      have hr' := run_append_grow (P := P) w t ty e i (.int .u8 0) ht hi hz ⟨g, 0, none⟩ n cap xs (by rw [h1s]; exact hown.row.1) holds ad m c news (by rw [h1s]; omega) hnews (by omega) (by omega) (growslice_fits (by omega) hbytes)
      rw [hr'] at hr
      cases hr
      refine ints_block (heap_alloc_new w.drew _) fun u hu => ?_
      rw [Array.toList_append, Array.toList_append, List.mem_append, List.mem_append] at hu
      have hi := ints_row hown.ints hg
      rcases hu with (hu | hu) | hu
      · exact hi u (by
          have : u ∈ xs := by simpa using hu
          rw [← htake] at this
          exact List.mem_of_mem_take this)
      · exact h1 u (by simpa using hu)
      · exact ints_zero _ u hu
theorem wp_app8 (s x : Operand) (t : TypeId) (ho : o.op = .call { callee := .builtin .append, args := #[s, x], argTypes := #[t, t] })
    (B : Nat) (e : TypeId) {by_ : Nat} (ht : P.underlying t = some (.slice e)) (hi : (P.info? e).map (fun i => (i.zero, i.size, i.bytes)) = some (some (.int .u8 0), 1, by_))
    (v : Value) (n : Nat) (xs : List Value) (hs : a.eval s = v) (hown : Own8 w B e v n xs)
    (p : Option Addr) (m c : Nat) (news : List Value) (hx : a.eval x = .slice p m c) (hA : At w p news) (hl : news.length = m) (hn : p = none → c = 0) (hmc : m ≤ c) (h1 : ∀ u ∈ news, ∃ n, u = Value.int .u8 n)
    (hbytes : (n + m) * by_ ≤ 140737488355328) (hmax : n + m ≤ maxLen) (hB : B ≤ w.heap.size)
    (h : ∀ v' w', Own8 w' B e v' (n + m) (xs ++ news) → w.grownBy w' v.ownBlock → RowKit.Below B w w' → B ≤ w'.heap.size → K (a.put o.dst v') w') : o.wp P a w K Q := by
  obtain ⟨i, hi, hz0, hz1, hz2⟩ := info_parts hi
  have hblock : ∀ k, v.ownBlock = some k → B ≤ k := fun k hk => (hown.row.lt k hk).1
  cases p with
  | none =>
    have hc := hn rfl
    have hm : m = 0 := by omega
    subst hc hm
    have hnews : news = [] := List.eq_nil_of_length_eq_zero hl
    subst hnews
    have hrun := run_append_owned_none (P := P) (w := w) B t o.type e i 1 ht hi v n xs hown.row
    unfold Oper.wp
    simp [execOp, ho, resolve, invoke, builtin, hs, hx, hrun, Result.andThen]
    exact h v w (by simpa using hown) ⟨rfl, rfl, rfl, Nat.le_refl _, fun _ _ _ => rfl⟩ (RowKit.Below.refl _ _) hB
  | some ad =>
    obtain ⟨v', w', hr, h2, h3⟩ := run_app8 (P := P) w B t o.type e i by_ ht hi hz0 hz1 hz2 v n xs hown ad m c news hl (by
      intro j u hj
      rcases hA with hA | ⟨b, off, hA, hc⟩
      · subst hA; simp at hj
      · cases hA; rw [Addr.add_mid]; exact hc j u hj) h1 hmax hbytes hB
    unfold Oper.wp
    simp [execOp, ho, resolve, invoke, builtin, hs, hx, hr, Result.andThen]
    exact h v' w' h2 h3 ((RowKit.Below.refl B w).grown h3 hB hblock) (Nat.le_trans hB h3.size)
theorem wpList_app8 (hgd : o.guard = none) (s x : Operand) (t : TypeId) (ho : o.op = .call { callee := .builtin .append, args := #[s, x], argTypes := #[t, t] })
    (B : Nat) (e : TypeId) {by_ : Nat} (ht : P.underlying t = some (.slice e)) (hi : (P.info? e).map (fun i => (i.zero, i.size, i.bytes)) = some (some (.int .u8 0), 1, by_))
    (v : Value) (n : Nat) (xs : List Value) (hs : a.eval s = v) (hown : Own8 w B e v n xs)
    (p : Option Addr) (m c : Nat) (news : List Value) (hx : a.eval x = .slice p m c) (hA : At w p news) (hl : news.length = m) (hn : p = none → c = 0) (hmc : m ≤ c) (h1 : ∀ u ∈ news, ∃ n, u = Value.int .u8 n)
    (hbytes : (n + m) * by_ ≤ 140737488355328) (hmax : n + m ≤ maxLen) (hB : B ≤ w.heap.size)
    (h : ∀ v' w', Own8 w' B e v' (n + m) (xs ++ news) → w.grownBy w' v.ownBlock → RowKit.Below B w w' → B ≤ w'.heap.size → wpList P ops Q rest (a.put o.dst v') w') : wpList P ops Q (o :: rest) a w :=
  wpList_plain hgd fun _ hK => wp_app8 s x t ho B e ht hi v n xs hs hown p m c news hx hA hl hn hmc h1 hbytes hmax hB fun v' w' h1 h2 h3 h4 => hK _ _ (h v' w' h1 h2 h3 h4)
theorem step_app8 (hgd : o.guard = none) (s x : Operand) (t : TypeId) (ho : o.op = .call { callee := .builtin .append, args := #[s, x], argTypes := #[t, t] })
    (B : Nat) (e : TypeId) {by_ : Nat} (ht : P.underlying t = some (.slice e)) (hi : (P.info? e).map (fun i => (i.zero, i.size, i.bytes)) = some (some (.int .u8 0), 1, by_))
    (v : Value) (n : Nat) (xs : List Value) (hs : a.eval s = v) (hown : Own8 w B e v n xs)
    (p : Option Addr) (m c : Nat) (news : List Value) (hx : a.eval x = .slice p m c) (hA : At w p news) (hl : news.length = m) (hn : p = none → c = 0) (hmc : m ≤ c) (h1 : ∀ u ∈ news, ∃ n, u = Value.int .u8 n)
    (hbytes : (n + m) * by_ ≤ 140737488355328) (hmax : n + m ≤ maxLen) (hB : B ≤ w.heap.size)
    (h : ∀ v' w', Own8 w' B e v' (n + m) (xs ++ news) → w.grownBy w' v.ownBlock → RowKit.Below B w w' → B ≤ w'.heap.size → K (a.put o.dst v') w') :
    if Region.wanted o (yielded ops a.tmps) = true then Oper.wp P o a w K Q else E := by
  have hw : Region.wanted o (yielded ops a.tmps) = true := by simp [Region.wanted, hgd]
  rw [if_pos hw]
  exact wp_app8 s x t ho B e ht hi v n xs hs hown p m c news hx hA hl hn hmc h1 hbytes hmax hB h
end
theorem ints_map (l : List Int) : ∀ u ∈ l.map (Value.int .u8), ∃ n, u = Value.int .u8 n := by
  intro u hu
  obtain ⟨n, _, rfl⟩ := List.mem_map.1 hu
  exact ⟨n, rfl⟩
end
section
set_option linter.unusedSimpArgs false
set_option linter.unusedVariables false
open Go.RowKit Sha Fct
abbrev i64c (n : Int) : Value := .int .i64 n
theorem v8_cells {l : List Int} : ∀ v ∈ l.map v8, v.oneCell' = true := by
  intro v hv
  obtain ⟨n, _, rfl⟩ := List.mem_map.1 hv
  simp [Value.oneCell']
def fcells (x : Fac) (q : Option Addr) (c : Nat) : List Value := i64c x.K :: i64c x.S :: i64c x.H :: i64c x.N :: i64c x.O :: (x.D.map v8 ++ [.slice q x.B.length c])
theorem fcells_K (x : Fac) (q : Option Addr) (c : Nat) : (fcells x q c)[0]? = some (i64c x.K) := rfl
theorem fcells_S (x : Fac) (q : Option Addr) (c : Nat) : (fcells x q c)[1]? = some (i64c x.S) := rfl
theorem fcells_H (x : Fac) (q : Option Addr) (c : Nat) : (fcells x q c)[2]? = some (i64c x.H) := rfl
theorem fcells_N (x : Fac) (q : Option Addr) (c : Nat) : (fcells x q c)[3]? = some (i64c x.N) := rfl
theorem fcells_O (x : Fac) (q : Option Addr) (c : Nat) : (fcells x q c)[4]? = some (i64c x.O) := rfl
theorem fcells_D (x : Fac) (q : Option Addr) (c : Nat) (j : Nat) (v : Value) (h : (x.D.map v8)[j]? = some v) : (fcells x q c)[5 + j]? = some v := by
  unfold fcells
  rw [show 5 + j = j + 1 + 1 + 1 + 1 + 1 by omega, List.getElem?_cons_succ, List.getElem?_cons_succ, List.getElem?_cons_succ, List.getElem?_cons_succ, List.getElem?_cons_succ, List.getElem?_append_left (List.getElem?_eq_some_iff.1 h).1]
  exact h
theorem fcells_B {x : Fac} (h : x.D.length = 32) (q : Option Addr) (c : Nat) : (fcells x q c)[37]? = some (.slice q x.B.length c) := by
  unfold fcells
  rw [List.getElem?_cons_succ, List.getElem?_cons_succ, List.getElem?_cons_succ, List.getElem?_cons_succ, List.getElem?_cons_succ, List.getElem?_append_right (by simp [h])]
  simp [h]
theorem fcells_length {x : Fac} (h : x.D.length = 32) (q : Option Addr) (c : Nat) : (fcells x q c).length = 38 := by unfold fcells; simp [h]
theorem fcells_one (x : Fac) (q : Option Addr) (c : Nat) : ∀ v ∈ fcells x q c, v.oneCell' = true := by
  unfold fcells
  intro v hv
  simp only [List.mem_cons, List.mem_append, List.not_mem_nil, or_false] at hv
  rcases hv with rfl | rfl | rfl | rfl | rfl | hv | rfl
  · rfl
  · rfl
  · rfl
  · rfl
  · rfl
  · exact v8_cells v hv
  · rfl
def sF : Shp Fac := ⟨38, Fac.B, fcells, Fac.ok, by omega, fun q c h => fcells_length h.len q c, fcells_one, fun h => h.B⟩
def bcells (x : Fct.Id × List Int) (q : Option Addr) (c : Nat) : List Value := x.1.map v8 ++ [.slice q x.2.length c]
theorem bcells_D (x : Fct.Id × List Int) (q : Option Addr) (c : Nat) (j : Nat) (v : Value) (h : (x.1.map v8)[j]? = some v) : (bcells x q c)[j]? = some v := by
  unfold bcells; rw [List.getElem?_append_left (List.getElem?_eq_some_iff.1 h).1]; exact h
theorem bcells_one (x : Fct.Id × List Int) (q : Option Addr) (c : Nat) : ∀ v ∈ bcells x q c, v.oneCell' = true := by
  unfold bcells
  intro v hv
  rcases List.mem_append.1 hv with hv | hv
  · exact v8_cells v hv
  · rw [List.mem_singleton.1 hv]; rfl
def sB : Shp (Fct.Id × List Int) := ⟨33, (·.2), bcells, fun x => idOk x.1 ∧ ∀ n ∈ x.2, 0 ≤ n ∧ n ≤ 255, by omega, fun q c h => by unfold bcells; simp [h.1.1], bcells_one, fun h => h.2⟩
def kcells (x : Int × Fct.Id) (_ : Option Addr) (_ : Nat) : List Value := i64c x.1 :: x.2.map v8
def sK : Shp (Int × Fct.Id) := ⟨33, fun _ => [], kcells, fun x => fit x.1 ∧ idOk x.2, by omega, fun q c h => by unfold kcells; simp [h.2.1], fun x q c v hv => by
  rcases List.mem_cons.1 hv with rfl | hv
  · rfl
  · exact v8_cells v hv, fun _ => by simp⟩
def hcells (x : Int × Int × Fct.Id) (_ : Option Addr) (_ : Nat) : List Value := i64c x.1 :: i64c x.2.1 :: x.2.2.map v8
def sH : Shp (Int × Int × Fct.Id) := ⟨34, fun _ => [], hcells, fun x => fit x.1 ∧ fit x.2.1 ∧ idOk x.2.2, by omega, fun q c h => by unfold hcells; simp [h.2.2.1], fun x q c v hv => by
  rcases List.mem_cons.1 hv with rfl | hv
  · rfl
  · rcases List.mem_cons.1 hv with rfl | hv
    · rfl
    · exact v8_cells v hv, fun _ => by simp⟩
def vcells (x : Vot) (q : Option Addr) (c : Nat) : List Value := [i64c x.S, i64c x.PN, i64c x.PO, i64c x.AN, i64c x.AO, .slice q x.B.length c]
structure Vot.ok (x : Vot) : Prop where
  S : fit x.S
  PN : fit x.PN
  PO : fit x.PO
  AN : fit x.AN
  AO : fit x.AO
  B : ∀ n ∈ x.B, 0 ≤ n ∧ n ≤ 255
def sV : Shp Vot := ⟨6, Vot.B, vcells, Vot.ok, by omega, fun _ _ _ => rfl, fun x q c v hv => by
  unfold vcells at hv; simp at hv; rcases hv with rfl | rfl | rfl | rfl | rfl | rfl <;> rfl, fun h => h.B⟩
def dcells9 (x : Int × List Int) (q : Option Addr) (c : Nat) : List Value := [i64c x.1, .slice q x.2.length c]
def sD : Shp (Int × List Int) := ⟨2, (·.2), dcells9, fun x => fit x.1 ∧ ∀ n ∈ x.2, 0 ≤ n ∧ n ≤ 255, by omega, fun _ _ _ => rfl, fun x q c v hv => by
  unfold dcells9 at hv; simp at hv; rcases hv with rfl | rfl <;> rfl, fun h => h.2⟩
/-- Where a slice begins, how long it is, how much room it has. -/
abbrev Sl3 := Option Addr × Nat × Nat
abbrev Sl3.v (x : Sl3) : Value := .slice x.1 x.2.1 x.2.2
structure Hds where
  b : Sl3
  k : Sl3
  h : Sl3
  v : Sl3
  d : Sl3
def Hds.none : Hds := ⟨(.none, 0, 0), (.none, 0, 0), (.none, 0, 0), (.none, 0, 0), (.none, 0, 0)⟩
def scells (s : Ste) (h : Hds) : List Value := [.bool s.born, i64c s.boot, h.b.v, h.k.v, h.h.v, h.v.v, h.d.v]
theorem scells_eq (s : Ste) (h : Hds) : scells s h = [.bool s.born, i64c s.boot, h.b.v, h.k.v, h.h.v, h.v.v, h.d.v] := rfl
theorem scells_length (s : Ste) (h : Hds) : (scells s h).length = 7 := rfl
theorem scells_one (s : Ste) (h : Hds) : ∀ v ∈ scells s h, v.oneCell' = true := by
  intro v hv; unfold scells at hv; simp at hv; rcases hv with rfl | rfl | rfl | rfl | rfl | rfl | rfl <;> rfl
attribute [irreducible] scells
structure SGood (w : World) (s : Ste) (e : Hds) : Prop where
  b : sB.Told w e.b.1 e.b.2.1 e.b.2.2 s.blobs
  k : sK.Told w e.k.1 e.k.2.1 e.k.2.2 s.keeps
  h : sH.Told w e.h.1 e.h.2.1 e.h.2.2 s.hints
  v : sV.Told w e.v.1 e.v.2.1 e.v.2.2 s.votes
  d : sD.Told w e.d.1 e.d.2.1 e.d.2.2 s.decs
theorem SGood.below {w w' : World} {s : Ste} {h : Hds} (g : SGood w s h) (hb : Below w.heap.size w w') : SGood w' s h := ⟨g.b.below hb, g.k.below hb, g.h.below hb, g.v.below hb, g.d.below hb⟩
def FPut (w : World) (r : List Int × Int) (e : Ending) (w' : World) : Prop :=
  ∃ v, e = .returned (.tuple #[v, .int .i64 r.2]) ∧ Own8 w' w.heap.size 5 v r.1.length (r.1.map v8) ∧ Below w.heap.size w w'
def FGet (w : World) (r : Fac × Int × Nat) (e : Ending) (w' : World) : Prop :=
  ∃ q c, e = .returned (.tuple #[.agg (fcells r.1 q c).toArray, .agg #[.int .i64 r.2.1, .int .i64 (r.2.2 : Int)]]) ∧ sF.Good w' r.1 q c ∧ Below w.heap.size w w'
def FSte (w : World) (r : Ste × Int) (e : Ending) (w' : World) : Prop :=
  ∃ h, e = .returned (.tuple #[.agg (scells r.1 h).toArray, .int .i64 r.2]) ∧ SGood w' r.1 h ∧ Below w.heap.size w w'
/-- How large a fact, how long a list may be here. -/
abbrev dataMost : Nat := 1000000000000
abbrev listMost : Nat := 2000000
end
section
set_option linter.unusedSimpArgs false
set_option linter.unusedVariables false
variable {P : Program}
theorem foldl_put : ∀ (vs : List Value) (pre mid post : List Value) (j : Nat) (off : Nat), pre.length = off + j → mid.length = vs.length →
    (vs.zipIdx j).foldl (fun (cs : Array Value) (x : Value × Nat) => cs.setIfInBounds (off + x.2) x.1) (pre ++ mid ++ post).toArray = (pre ++ vs ++ post).toArray
  | [], pre, mid, post, j, off, _, hm => by
    have : mid = [] := List.eq_nil_of_length_eq_zero hm
    subst this; simp
  | v :: vs, pre, mid, post, j, off, hp, hm => by
    cases mid with
    | nil => simp at hm
    | cons m mid =>
      rw [List.zipIdx_cons, List.foldl_cons]
      have e : (pre ++ (m :: mid) ++ post).toArray.setIfInBounds (off + j) v = ((pre ++ [v]) ++ mid ++ post).toArray := by
        rw [← hp, List.setIfInBounds_toArray]; simp
      rw [e, foldl_put vs (pre ++ [v]) mid post (j + 1) off (by simp; omega) (by simpa using hm)]
      simp
theorem put_cells (vs pre mid post : List Value) (off : Nat) (hp : pre.length = off) (hm : mid.length = vs.length) :
    (vs.toArray.zipIdx.foldl (fun (cs : Array Value) (x : Value × Nat) => cs.setIfInBounds (off + x.2) x.1) (pre ++ mid ++ post).toArray) = (pre ++ vs ++ post).toArray := by
  rw [← foldl_put vs pre mid post 0 off (by simpa using hp) hm, ← Array.foldl_toList]
  simp
/-- Parts one behind the other, all of one size, fill a row. -/
theorem fill_parts (s : Nat) : ∀ (css : List (List Value)) (i : Nat) (done rest : List Value), (∀ c ∈ css, c.length = s) → done.length = i * s → rest.length = css.length * s →
    Instr.fill (fun i => some (i * s, s)) (done ++ rest).toArray (css.zipIdx i |>.map fun c => (c.2, Value.agg c.1.toArray)) = some (done ++ css.flatten).toArray
  | [], i, done, rest, _, _, hr => by
    have : rest = [] := List.eq_nil_of_length_eq_zero (by simpa using hr)
    subst this; simp [Instr.fill]
  | c :: css, i, done, rest, hc, hd, hr => by
    have hl : c.length = s := hc c (List.mem_cons_self ..)
    have hr' : rest.length = css.length * s + s := by rw [hr, List.length_cons, Nat.succ_mul]
    rw [List.zipIdx_cons, List.map_cons, Instr.fill]
    dsimp only
    split
    · rename_i hne
      exfalso
      simp [Value.cells, hl, hd, hr'] at hne
      omega
    · show Instr.fill _ (Array.foldl _ (done ++ rest).toArray c.toArray.zipIdx) _ = _
      have e := put_cells c done (rest.take s) (rest.drop s) (i * s) hd (by rw [List.length_take, hl]; omega)
      rw [List.append_assoc, List.take_append_drop] at e
      rw [e, fill_parts s css (i + 1) (done ++ c) (rest.drop s) (fun c hc' => hc c (List.mem_cons_of_mem _ hc')) (by rw [List.length_append, hd, hl, Nat.succ_mul]) (by rw [List.length_drop]; omega)]
      simp
theorem run_build_items (w : World) (t e : TypeId) (s : Nat) (z : Value) (hs : 0 < s) (hu : P.underlying t = some (.slice e)) (he : (P.info? e).map (fun i => (i.zero, i.size)) = some (some z, s)) (css : List (List Value)) (hc : ∀ c ∈ css, c.length = s) (hk : css.length * s ≤ 16777216) :
    (Instr.buildSlice t css.length (css.zipIdx.map fun c => (c.2, Value.agg c.1.toArray)).toArray).run P w = .ok (.slice (some ⟨w.heap.size, 0, none⟩) css.length css.length) (w.alloc (.cells css.flatten.toArray e)) := by
  cases hq : P.info? e with
  | none => simp [hq] at he
  | some i =>
    simp [hq] at he
    obtain ⟨hz, hsz⟩ := he
    have h1 : (sizeOf e).run P w = .ok s w := by simp [sizeOf, typeInfo, hq, hsz]
    have h2 : (zeroValue e).run P w = .ok z w := by simp [zeroValue, typeInfo, hq, hz]
    have hf := fill_parts s css 0 [] ((Array.range (css.length * s)).map (fun x => z.cells[x % z.cells.size]!)).toList hc (by simp) (by simp)
    simp only [List.nil_append, Array.toArray_toList] at hf
    by_cases h0 : css.length * s = 0
    · have hn : css = [] := by
        cases css with
        | nil => rfl
        | cons c cs => rcases Nat.mul_eq_zero.1 h0 with h | h; simp at h; omega
      subst hn
      simp [go_sem, Instr.buildSlice, run_underlying hu, h1, Instr.fill]
    · have h16 : ¬ 16777216 < css.length * s := by omega
      simp [go_sem, Instr.buildSlice, run_underlying hu, h1, h2, h0, h16]
      unfold Value.cells at hf
      rw [hf]
      simp [go_sem]
end
section
set_option linter.unusedSimpArgs false
set_option linter.unusedVariables false
open Go.RowKit Sha
open Fld (Itm)
@[irreducible] def loadOp (t : TypeId) (v : Value) : Sem Next := do pure (.value (← Instr.loadAt t v))
@[irreducible] def buildOp (t : TypeId) (len : Nat) (parts : Array (Nat × Value)) : Sem Next := do pure (.value (← Instr.buildSlice t len parts))
theorem execOp_loadItem (ρ : Operand → Value) (dst : Option Tmp) (x : Operand) (ty : TypeId) (pos : String) (after : Array Edge) (guard : Option (Nat × Bool)) :
    execOp ρ { dst := dst, op := .load 83 x, type := ty, pos := pos, after := after, guard := guard } = loadOp 83 (ρ x) := by unfold loadOp; rfl
theorem execOp_buildItems (ρ : Operand → Value) (dst : Option Tmp) (len : Nat) (parts : Array (Nat × Operand)) (ty : TypeId) (pos : String) (after : Array Edge) (guard : Option (Nat × Bool)) :
    execOp ρ { dst := dst, op := .buildSlice 81 len parts, type := ty, pos := pos, after := after, guard := guard } = buildOp 81 len (parts.map fun (i, x) => (i, ρ x)) := by unfold buildOp; rfl
theorem execOp_loadId (ρ : Operand → Value) (dst : Option Tmp) (x : Operand) (ty : TypeId) (pos : String) (after : Array Edge) (guard : Option (Nat × Bool)) :
    execOp ρ { dst := dst, op := .load 25 x, type := ty, pos := pos, after := after, guard := guard } = loadOp 25 (ρ x) := by unfold loadOp; rfl
theorem run_loadOp {P : Program} {t : TypeId} {v u : Value} {w : World} (h : (Instr.loadAt t v).run P w = .ok u w) : (loadOp t v).run P w = .ok (.value u) w := by
  unfold loadOp; simp only [Sem.run_bind, h, Result.andThen_ok, Sem.run_pure]
theorem run_buildOp {P : Program} {t : TypeId} {len : Nat} {parts : Array (Nat × Value)} {u : Value} {w w' : World} (h : (Instr.buildSlice t len parts).run P w = .ok u w') : (buildOp t len parts).run P w = .ok (.value u) w' := by
  unfold buildOp; simp only [Sem.run_bind, h, Result.andThen_ok, Sem.run_pure]
theorem load_item {w : World} {g : Nat} {x : Itm} {q : Option Addr} {c : Nat} (hx : x.ok) (h : Blk w g (icells x q c) 83) : (loadOp 83 (.pointer (some ⟨g, 0, none⟩))).run Tryz.prog w = .ok (.value (.agg (icells x q c).toArray)) w :=
  run_loadOp (run_loadAt_mid w g 0 83 _ _ h.range Tryz.underlying83 rfl (by rw [item_size, icells_length hx]))
theorem item_all : (Tryz.prog.info? 83).map (fun i => (i.zero, i.size)) = some (some (.agg (icells ⟨0, [], Fld.zero32⟩ none 0).toArray), 34) := by unfold icells; kernel_rfl
theorem item_all3 : (Tryz.prog.info? 83).map (fun i => (i.zero, i.size, i.bytes)) = some (some (.agg (icells ⟨0, [], Fld.zero32⟩ none 0).toArray), 34, 64) := by unfold icells; kernel_rfl
theorem build_item (w : World) {x : Itm} {q : Option Addr} {c : Nat} (hx : x.ok) : (buildOp 81 1 #[(0, .agg (icells x q c).toArray)]).run Tryz.prog w = .ok (.value (.slice (some ⟨w.heap.size, 0, none⟩) 1 1)) (w.alloc (.cells (icells x q c).toArray 83)) := by
  have := run_build_items (P := Tryz.prog) w 81 83 34 _ (by omega) Tryz.underlying81 item_all [icells x q c] (by intro c hc; simp at hc; subst hc; exact icells_length hx _ _) (by simp)
  exact run_buildOp (by simpa using this)
theorem load_id {w : World} {g o : Nat} {x : Itm} {q : Option Addr} {c : Nat} (hx : x.ok) (h : w.rangeAt g o (icells x q c)) : (loadOp 25 (.pointer (some ⟨g, o + 2, none⟩))).run Tryz.prog w = .ok (.value (.agg (x.D.map v8).toArray)) w :=
  run_loadOp (run_loadAt_mid w g (o + 2) 25 _ _ (rangeAt_id h) Tryz.underlying25 rfl (by rw [id_size, List.length_map, hx.len]))
theorem load_at {w : World} {g o : Nat} {x : Itm} {q : Option Addr} {c : Nat} (hx : x.ok) (h : w.rangeAt g o (icells x q c)) : (loadOp 83 (.pointer (some ⟨g, o, none⟩))).run Tryz.prog w = .ok (.value (.agg (icells x q c).toArray)) w :=
  run_loadOp (run_loadAt_mid w g o 83 _ _ h Tryz.underlying83 rfl (by rw [item_size, icells_length hx]))
end
end Go.Proofs.YtokpabkcaofahaaGreat
