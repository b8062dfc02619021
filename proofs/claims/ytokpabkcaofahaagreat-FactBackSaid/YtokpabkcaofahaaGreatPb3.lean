/-
  Structs in memory, of any shape: so many cells each, among them (perhaps) a slice of bytes. What lies from an address on; rows of the call's own. General: no function is named here.
  Append to a row of structs of any size that is the call's or an object's own: where what comes of it lies. Whatever is appended, nothing too. No program is named here.
  Slices of structs: cut, copied, appended to with noughts; rows of the call's own, parted. General: no function is named here.
-/
import Derived.Test.YtokpabkcaofahaaGreatPb2
import Derived.Test.YtokpabkcaofahaaGreatPb1
import Derived.Deep.RegionLaw
import Derived.Deep.AppendLies
import Derived.Lib.AppendZerosOnto
import Derived.Lib.Overlaps
namespace Go.Proofs.YtokpabkcaofahaaGreat
section
set_option linter.unusedSimpArgs false
set_option linter.unusedVariables false
open Go.RowKit Sha
variable {P : Program}
/-- A shape: how many cells; the bytes of its slice; the cells, where those lie at q with room for c. -/
structure Shp (V : Type) where
  n : Nat
  byt : V → List Int
  cells : V → Option Addr → Nat → List Value
  ok : V → Prop
  pos : 0 < n
  len : ∀ {x} q c, ok x → (cells x q c).length = n
  one : ∀ x q c, ∀ v ∈ cells x q c, v.oneCell' = true
  byte : ∀ {x}, ok x → ∀ m ∈ byt x, 0 ≤ m ∧ m ≤ 255
section
variable {V : Type} (S : Shp V)
abbrev Hd (V : Type) := V × Option Addr × Nat
def Shp.row (y : Hd V) : List Value := S.cells y.1 y.2.1 y.2.2
structure Shp.Good (w : World) (x : V) (q : Option Addr) (c : Nat) : Prop where
  ok : S.ok x
  at_ : At w q ((S.byt x).map v8)
  le : (S.byt x).length ≤ c
  max : c ≤ 9223372036854775807
  nil : q = none → c = 0
variable {S}
theorem Shp.Good.carry {w w' : World} {x : V} {q : Option Addr} {c : Nat} (h : S.Good w x q c) (hc : ∀ p v, w.cell? p = some v → w'.cell? p = some v) : S.Good w' x q c := ⟨h.ok, h.at_.carry hc, h.le, h.max, h.nil⟩
theorem Shp.Good.below {w w' : World} {x : V} {q : Option Addr} {c : Nat} (h : S.Good w x q c) (hb : Below w.heap.size w w') : S.Good w' x q c := ⟨h.ok, h.at_.below hb, h.le, h.max, h.nil⟩
variable (S)
def Shp.At (w : World) (p : Option Addr) (xs : List V) : Prop := ∃ ys : List (Hd V), ys.map (·.1) = xs ∧ Go.Proofs.YtokpabkcaofahaaGreat.At w p (ys.flatMap S.row) ∧ ∀ y ∈ ys, S.Good w y.1 y.2.1 y.2.2
/-- A slice of them: what is told, or came in. -/
structure Shp.Told (w : World) (p : Option Addr) (n c : Nat) (l : List V) : Prop where
  len : n = l.length
  le : n ≤ c
  max : c ≤ 9223372036854775807
  nil : p = none → c = 0
  rows : S.At w p l
variable {S}
theorem Shp.At.below {w w' : World} {p : Option Addr} {xs : List V} (h : S.At w p xs) (hb : Below w.heap.size w w') : S.At w' p xs := by
  obtain ⟨ys, h1, h2, h3⟩ := h
  exact ⟨ys, h1, h2.below hb, fun y hy => (h3 y hy).below hb⟩
theorem Shp.flat_length (ys : List (Hd V)) (h : ∀ y ∈ ys, S.ok y.1) : (ys.flatMap S.row).length = ys.length * S.n := by
  induction ys with
  | nil => simp
  | cons y ys ih =>
    rw [List.flatMap_cons, List.length_append, ih (fun y hy => h y (List.mem_cons_of_mem _ hy)), List.length_cons]
    unfold Shp.row
    rw [S.len _ _ (h y (List.mem_cons_self ..)), Nat.succ_mul]; omega
theorem Shp.flat_get (ys : List (Hd V)) (h : ∀ y ∈ ys, S.ok y.1) (i : Nat) (hi : i < ys.length) (j : Nat) (v : Value) (hv : (S.row ys[i])[j]? = some v) : (ys.flatMap S.row)[i * S.n + j]? = some v := by
  induction ys generalizing i with
  | nil => simp at hi
  | cons y ys ih =>
    have hl : (S.row y).length = S.n := S.len _ _ (h y (List.mem_cons_self ..))
    rw [List.flatMap_cons]
    cases i with
    | zero =>
      simp at hv
      rw [Nat.zero_mul, Nat.zero_add, List.getElem?_append_left (List.getElem?_eq_some_iff.1 hv).1]
      exact hv
    | succ i =>
      simp at hv
      rw [List.getElem?_append_right (by rw [hl, Nat.succ_mul]; omega), show (i + 1) * S.n + j - (S.row y).length = i * S.n + j by rw [hl, Nat.succ_mul]; omega]
      exact ih (fun y hy => h y (List.mem_cons_of_mem _ hy)) i (by simpa using hi) hv
theorem flat_mul {ys : List (Hd V)} (S : Shp V) (h : 0 < ys.length) : 0 < ys.length * S.n := Nat.mul_pos h S.pos
/-- The i-th one: where it lies, and its bytes. -/
theorem Shp.At.get {w : World} {p : Option Addr} {xs : List V} (h : S.At w p xs) (i : Nat) (hi : i < xs.length) :
    ∃ b off q c, p = some ⟨b, off, none⟩ ∧ w.rangeAt b (off + i * S.n) (S.cells xs[i] q c) ∧ S.Good w xs[i] q c := by
  obtain ⟨ys, rfl, h2, h3⟩ := h
  rw [List.length_map] at hi
  have hok : ∀ y ∈ ys, S.ok y.1 := fun y hy => (h3 y hy).ok
  obtain ⟨b, off, rfl, hc⟩ := h2.addr (by rw [Shp.flat_length ys hok]; exact flat_mul S (by omega))
  refine ⟨b, off, (ys[i]).2.1, (ys[i]).2.2, rfl, fun j v hv => ?_, ?_⟩
  · rw [Nat.add_assoc]
    exact hc _ v (Shp.flat_get ys hok i hi j v (by simpa [Shp.row] using hv))
  · simpa using h3 ys[i] (List.getElem_mem hi)
theorem Shp.Told.below {w w' : World} {p : Option Addr} {n c : Nat} {l : List V} (h : S.Told w p n c l) (hb : Below w.heap.size w w') : S.Told w' p n c l := ⟨h.len, h.le, h.max, h.nil, h.rows.below hb⟩
variable (S)
/-- A row of the call's own: each one's bytes lie somewhere. -/
structure Shp.Own (w : World) (B : Nat) (t : TypeId) (v : Value) (ys : List (Hd V)) : Prop where
  own : w.ownsRow B t S.n v ys.length (ys.flatMap S.row)
  good : ∀ y ∈ ys, S.Good w y.1 y.2.1 y.2.2
variable {S}
theorem Shp.Own.told {w : World} {B : Nat} {t : TypeId} {v : Value} {ys : List (Hd V)} (h : S.Own w B t v ys) {xs : List V} (hx : ys.map (·.1) = xs) : ∃ q c', v = .slice q xs.length c' ∧ S.Told w q xs.length c' xs := by
  have hl : ys.length = xs.length := by rw [← hx, List.length_map]
  have ho := h.own
  rw [hl] at ho
  have hi : ∀ q, Go.Proofs.YtokpabkcaofahaaGreat.At w q (ys.flatMap S.row) → S.At w q xs := fun q hA => ⟨ys, hx, hA, h.good⟩
  rcases ho.2 with ⟨hv, h0⟩ | ⟨g, cap, cur, hv, hg, hh, h1, h2, h3, h4⟩
  · refine ⟨none, 0, by rw [hv, h0], rfl, by omega, by omega, fun _ => rfl, hi none (Or.inl ?_)⟩
    have := ho.1
    rw [h0] at this
    exact List.eq_nil_of_length_eq_zero (by simpa using this)
  · refine ⟨_, cap, hv, rfl, h1, by unfold maxLen at h2; omega, (fun h => by cases h), hi _ (Or.inr ⟨g, 0, rfl, fun i u hu => ?_⟩)⟩
    have := ho.cells (g := g) (by rw [hv]; rfl) i u hu
    rwa [Addr.add_mid] at this
theorem Shp.flat_one (ys : List (Hd V)) : ∀ v ∈ ys.flatMap S.row, v.oneCell' = true := by
  intro v hv
  obtain ⟨y, _, hv⟩ := List.mem_flatMap.1 hv
  exact S.one _ _ _ v hv
/-- What is told as a list of rows. -/
theorem Shp.Told.rows' {w : World} {p : Option Addr} {n c : Nat} {l : List V} (h : S.Told w p n c l) : ∃ ys : List (Hd V), ys.map (·.1) = l ∧ ys.length = n ∧ Go.Proofs.YtokpabkcaofahaaGreat.At w p (ys.flatMap S.row) ∧ (∀ y ∈ ys, S.Good w y.1 y.2.1 y.2.2) ∧ (ys.flatMap S.row).length = n * S.n := by
  obtain ⟨ys, h1, h2, h3⟩ := h.rows
  have hl : ys.length = n := by rw [h.len, ← h1, List.length_map]
  exact ⟨ys, h1, hl, h2, h3, by rw [Shp.flat_length ys (fun y hy => (h3 y hy).ok), hl]⟩
end
end
section
set_option linter.unusedSimpArgs false
set_option linter.unusedVariables false
variable {P : Program}
theorem run_app_s (w : World) (B : Nat) (t ty e : TypeId) (i : TypeInfo) (z : Value) (size : Nat) (hsz : 0 < size) (by_ : Nat) (ht : P.underlying t = some (.slice e)) (hi : P.info? e = some i) (hz : i.zero = some z) (h1s : i.size = size) (hby : i.bytes = by_) (hzs : z.cells.size = size)
    (v : Value) (n : Nat) (xs : List Value) (hown : w.ownsRow B e size v n xs)
    (ad : Addr) (m c : Nat) (news : List Value) (hl : news.length = m * size) (hnews : ∀ j u, news[j]? = some u → w.cell? (ad.add j) = some u) (h1 : ∀ u ∈ news, u.oneCell' = true)
    (hmax : n + m ≤ maxLen) (hbytes : (n + m) * by_ ≤ 140737488355328) (hB : B ≤ w.heap.size) :
    ∃ v' w', (Builtin.append_ #[t, t] ty #[v, .slice (some ad) m c]).run P w = .ok v' w' ∧ w'.ownsRow B e size v' (n + m) (xs ++ news) ∧ w.grownBy w' v.ownBlock ∧ ∀ g, v'.ownBlock = some g → v.ownBlock = some g ∨ w.heap.size ≤ g := by
  by_cases hm : m = 0
  · obtain ⟨v', w', hr, h2, h3, _⟩ := run_append_own (P := P) w B t ty e i z size by_ ht hi hz h1s hby hzs hsz v n xs hown ad m c news hl hnews h1 hmax hbytes hB
    refine ⟨v', w', hr, h2, h3, ?_⟩
    subst hm
    have hn : news = [] := List.eq_nil_of_length_eq_zero (by simpa using hl)
    subst hn
    rcases hown.2 with ⟨rfl, rfl⟩ | ⟨g, cap, cur, rfl, hbg, hg, hnc, hcm, hcs, htake⟩
    · have hr' : (Builtin.append_ #[t, t] ty #[.slice none 0 0, .slice (some ad) 0 c]).run P w = .ok (.slice none 0 0) w := by
        simp [Builtin.append_, run_underlying ht, sizeOf, typeInfo, hi, Builtin.lenOf, Builtin.firstCells, loadCells, loadCellsFrom]
      rw [hr'] at hr
      cases hr
      intro g hg; cases hg
    · have hfit : n * i.size + ([] : List Value).length ≤ cur.size := by rw [h1s, hcs]; simpa using Nat.mul_le_mul_right size hnc
      have hr' := run_append_room (P := P) w t ty e i ht hi g n cap cur hg ad 0 c [] (by simp) hnews h1 (by omega) hfit
      rw [hr'] at hr
      cases hr
      intro g' hg'; exact .inl hg'
  · obtain ⟨g, cap, w', hr, h2, h3, h4, h5⟩ := run_append_lies (P := P) w t ty B e i z size by_ ht hi hz h1s hby hzs hsz v n xs hown ad m c news hl hnews h1 (by omega) hmax hbytes hB _ rfl
    refine ⟨_, w', hr, h2, h3, fun g' hg' => ?_⟩
    cases hg'
    rcases h4 with h | h
    · exact .inl h
    · exact .inr (by show w.heap.size ≤ g; omega)
variable {ops : Array Oper} {rest : List Oper} {o : Oper} {a : Act} {w : World} {Q : Exit → Act → World → Prop} {K : Act → World → Prop} {E : Prop}
theorem wp_app_s (s x : Operand) (t : TypeId) (ho : o.op = .call { callee := .builtin .append, args := #[s, x], argTypes := #[t, t] })
    (B : Nat) (e : TypeId) {z : Value} {size by_ : Nat} (hsz : 0 < size) (ht : P.underlying t = some (.slice e)) (hi : (P.info? e).map (fun i => (i.zero, i.size, i.bytes)) = some (some z, size, by_)) (hz : z.cells.size = size)
    (v : Value) (n : Nat) (xs : List Value) (hs : a.eval s = v) (hown : w.ownsRow B e size v n xs)
    (p : Option Addr) (m c : Nat) (news : List Value) (hx : a.eval x = .slice p m c) (hA : At w p news) (hl : news.length = m * size) (hn : p = none → c = 0) (hmc : m ≤ c) (h1 : ∀ u ∈ news, u.oneCell' = true)
    (hbytes : (n + m) * by_ ≤ 140737488355328) (hmax : n + m ≤ maxLen) (hB : B ≤ w.heap.size)
    (h : ∀ v' w', w'.ownsRow B e size v' (n + m) (xs ++ news) → w.grownBy w' v.ownBlock → (∀ g, v'.ownBlock = some g → v.ownBlock = some g ∨ w.heap.size ≤ g) → K (a.put o.dst v') w') : o.wp P a w K Q := by
  obtain ⟨i, hi, hz0, hz1, hz2⟩ := info_parts hi
  cases p with
  | none =>
    have hc := hn rfl
    have hm : m = 0 := by omega
    subst hc hm
    have hnews : news = [] := List.eq_nil_of_length_eq_zero (by simpa using hl)
    subst hnews
    have hrun := run_append_owned_none (P := P) (w := w) B t o.type e i size ht hi v n xs hown
    unfold Oper.wp
    simp [execOp, ho, resolve, invoke, builtin, hs, hx, hrun, Result.andThen]
    exact h v w (by simpa using hown) ⟨rfl, rfl, rfl, Nat.le_refl _, fun _ _ _ => rfl⟩ (fun g hg => .inl hg)
  | some ad =>
    obtain ⟨v', w', hr, h2, h3, h4⟩ := run_app_s (P := P) w B t o.type e i z size hsz by_ ht hi hz0 hz1 hz2 hz v n xs hown ad m c news hl (by
      intro j u hj
      rcases hA with hA | ⟨b, off, hA, hc⟩
      · subst hA; simp at hj
      · cases hA; rw [Addr.add_mid]; exact hc j u hj) h1 hmax hbytes hB
    unfold Oper.wp
    simp [execOp, ho, resolve, invoke, builtin, hs, hx, hr, Result.andThen]
    exact h v' w' h2 h3 h4
theorem wpList_app_s (hgd : o.guard = none) (s x : Operand) (t : TypeId) (ho : o.op = .call { callee := .builtin .append, args := #[s, x], argTypes := #[t, t] })
    (B : Nat) (e : TypeId) {z : Value} {size by_ : Nat} (hsz : 0 < size) (ht : P.underlying t = some (.slice e)) (hi : (P.info? e).map (fun i => (i.zero, i.size, i.bytes)) = some (some z, size, by_)) (hz : z.cells.size = size)
    (v : Value) (n : Nat) (xs : List Value) (hs : a.eval s = v) (hown : w.ownsRow B e size v n xs)
    (p : Option Addr) (m c : Nat) (news : List Value) (hx : a.eval x = .slice p m c) (hA : At w p news) (hl : news.length = m * size) (hn : p = none → c = 0) (hmc : m ≤ c) (h1 : ∀ u ∈ news, u.oneCell' = true)
    (hbytes : (n + m) * by_ ≤ 140737488355328) (hmax : n + m ≤ maxLen) (hB : B ≤ w.heap.size)
    (h : ∀ v' w', w'.ownsRow B e size v' (n + m) (xs ++ news) → w.grownBy w' v.ownBlock → (∀ g, v'.ownBlock = some g → v.ownBlock = some g ∨ w.heap.size ≤ g) → wpList P ops Q rest (a.put o.dst v') w') : wpList P ops Q (o :: rest) a w :=
  wpList_plain hgd fun _ hK => wp_app_s s x t ho B e hsz ht hi hz v n xs hs hown p m c news hx hA hl hn hmc h1 hbytes hmax hB fun v' w' h1 h2 h3 => hK _ _ (h v' w' h1 h2 h3)
theorem step_app_s (hgd : o.guard = none) (s x : Operand) (t : TypeId) (ho : o.op = .call { callee := .builtin .append, args := #[s, x], argTypes := #[t, t] })
    (B : Nat) (e : TypeId) {z : Value} {size by_ : Nat} (hsz : 0 < size) (ht : P.underlying t = some (.slice e)) (hi : (P.info? e).map (fun i => (i.zero, i.size, i.bytes)) = some (some z, size, by_)) (hz : z.cells.size = size)
    (v : Value) (n : Nat) (xs : List Value) (hs : a.eval s = v) (hown : w.ownsRow B e size v n xs)
    (p : Option Addr) (m c : Nat) (news : List Value) (hx : a.eval x = .slice p m c) (hA : At w p news) (hl : news.length = m * size) (hn : p = none → c = 0) (hmc : m ≤ c) (h1 : ∀ u ∈ news, u.oneCell' = true)
    (hbytes : (n + m) * by_ ≤ 140737488355328) (hmax : n + m ≤ maxLen) (hB : B ≤ w.heap.size)
    (h : ∀ v' w', w'.ownsRow B e size v' (n + m) (xs ++ news) → w.grownBy w' v.ownBlock → (∀ g, v'.ownBlock = some g → v.ownBlock = some g ∨ w.heap.size ≤ g) → K (a.put o.dst v') w') :
    if Region.wanted o (yielded ops a.tmps) = true then Oper.wp P o a w K Q else E := by
  have hw : Region.wanted o (yielded ops a.tmps) = true := by simp [Region.wanted, hgd]
  rw [if_pos hw]
  exact wp_app_s s x t ho B e hsz ht hi hz v n xs hs hown p m c news hx hA hl hn hmc h1 hbytes hmax hB h
end
section
set_option linter.unusedSimpArgs false
set_option linter.unusedVariables false
open Go.RowKit Sha
section
variable {P : Program}
/-- A cut, as one operation. -/
@[irreducible] def sliceOp (t : TypeId) (v : Value) (lo hi : Option Value) : Sem Next := do pure (.value (← Instr.sliceAt t v lo hi none))
theorem run_sliceOp {t : TypeId} {v u : Value} {lo hi : Option Value} {w : World} (h : (Instr.sliceAt t v lo hi none).run P w = .ok u w) : (sliceOp t v lo hi).run P w = .ok (.value u) w := by
  unfold sliceOp; simp only [Sem.run_bind, h, Result.andThen_ok, Sem.run_pure]
variable {t e : TypeId} {s : Nat}
theorem size_ofS (he : (P.info? e).map (fun i => i.size) = some s) (w : World) : (sizeOf e).run P w = .ok s w := by
  cases hq : P.info? e with
  | none => simp [hq] at he
  | some j => simp [hq] at he; simp [sizeOf, typeInfo, hq, he]
theorem elem_ofS (hu : P.underlying t = some (.slice e)) : P.elem t = e := by simp [Program.elem, hu]
theorem run_cutS_l (hu : P.underlying t = some (.slice e)) (he : (P.info? e).map (fun i => i.size) = some s) (p : Option Addr) (len cap k : Nat) (hk : k ≤ len) (hc : len ≤ cap) (w : World) :
    (Instr.sliceAt t (.slice p len cap) (some (.int .i64 k)) none none).run P w = .ok (.slice (if cap = k then p else p.map (·.add (k * s))) (len - k) (cap - k)) w := by
  have hu' : P.underlying t = some (.slice (P.elem t)) := by rw [elem_ofS hu]; exact hu
  rw [run_sliceAt_slice w t _ _ _ _ hu', run_slice_l w t p len cap hu' .i64 k (by omega) (by omega), elem_ofS hu, size_ofS he]
  simp [Result.andThen, sliced]
theorem run_cutS_h (hu : P.underlying t = some (.slice e)) (he : (P.info? e).map (fun i => i.size) = some s) (p : Option Addr) (len cap k : Nat) (hk : k ≤ cap) (w : World) :
    (Instr.sliceAt t (.slice p len cap) none (some (.int .i64 k)) none).run P w = .ok (.slice p k cap) w := by
  have hu' : P.underlying t = some (.slice (P.elem t)) := by rw [elem_ofS hu]; exact hu
  rw [run_sliceAt_slice w t _ _ _ _ hu', run_slice_h w t p len cap hu' .i64 k (by omega) (by omega), elem_ofS hu, size_ofS he]
  simp [Result.andThen, sliced]
  intro _
  cases p with
  | none => rfl
  | some a => simp [Addr.add]
/-- A copy of structs. -/
theorem run_copyS (w : World) (hu : P.underlying t = some (.slice e)) (he : (P.info? e).map (fun i => i.size) = some s) (g off dLen dCap : Nat) (a : Addr) (sLen sCap k : Nat) (cs : List Value) (hk : k = Nat.min sLen dLen) (hl : cs.length = k * s)
    (hc : ∀ j v, cs[j]? = some v → w.cell? (a.add j) = some v) (ht : w.there g off cs.length) (h1 : ∀ v ∈ cs, v.oneCell' = true) (ty : TypeId) :
    (Builtin.copy_ #[t, t] ty #[.slice (some ⟨g, off, none⟩) dLen dCap, .slice (some a) sLen sCap]).run P w = .ok (goInt k) (w.setCells g off cs) := by
  have h2 := run_storeCells_cells (P := P) g off cs 0 w (fun j hj => by simpa using (ht j hj).1) (fun j hj => by simpa using (ht j hj).2) h1
  have h3 := run_firstCells_some (P := P) w s k a sLen sCap cs hl hc
  simp only [Nat.add_zero] at h2
  simp [Builtin.copy_, run_underlying hu, Builtin.lenOf, size_ofS he, ← hk, h3, h2, Result.andThen]
theorem copy_law (w : World) {ops : Array Oper} {rest : List Oper} {o : Oper} {a : Act} {Q : Exit → Act → World → Prop} (hgd : o.guard = none) (d x : Operand) (t1 t2 : TypeId)
    (ho : o.op = .call { callee := .builtin .copy, args := #[d, x], argTypes := #[t1, t2] }) (v u : Value) (hd : a.eval d = v) (hs : a.eval x = u) {v' : Value} {w' : World}
    (hr : (Builtin.copy_ #[t1, t2] o.type #[v, u]).run P w = .ok v' w') (h : wpList P ops Q rest (a.put o.dst v') w') : wpList P ops Q (o :: rest) a w := by
  refine wpList_plain hgd fun K hK => ?_
  unfold Oper.wp execOp
  simp only [ho, resolve, invoke, builtin, Sem.run_bind, Sem.run_pure, Result.andThen_ok, List.map_toArray, List.map_cons, List.map_nil, hd, hs, hr]
  exact hK _ _ h
theorem copy_step {ops : Array Oper} {o : Oper} {a : Act} {w : World} {K : Act → World → Prop} {Q : Exit → Act → World → Prop} {E : Prop}
    (hg : o.guard = none) (d x : Operand) (t1 t2 : TypeId) (hop : o.op = Op.call { callee := Callee.builtin Builtin.copy, args := #[d, x], argTypes := #[t1, t2] })
    (v u : Value) (hd : a.eval d = v) (hx : a.eval x = u) {v' : Value} {w' : World} (hr : (Builtin.copy_ #[t1, t2] o.type #[v, u]).run P w = .ok v' w') (hK : K (a.put o.dst v') w') :
    if Region.wanted o (yielded ops a.tmps) = true then Oper.wp P o a w K Q else E := by
  have hw : Region.wanted o (yielded ops a.tmps) = true := by simp [Region.wanted, hg]
  rw [if_pos hw]
  unfold Oper.wp execOp
  simp only [hop, resolve, invoke, builtin, Sem.run_bind, Sem.run_pure, Result.andThen_ok, List.map_toArray, List.map_cons, List.map_nil, hd, hx, hr]
  exact hK
end
section
variable {w : World} {B n s : Nat} {e : TypeId} {v : Value} {xs : List Value}
/-- A row of the call's own that has something, as its block. -/
theorem own_whole (h : w.ownsRow B e s v n xs) (hn : 0 < n) : ∃ g cap rest, v = .slice (some ⟨g, 0, none⟩) n cap ∧ B ≤ g ∧ n ≤ cap ∧ cap ≤ maxLen ∧ Blk w g (xs ++ rest) e ∧ xs.length = n * s ∧ (xs ++ rest).length = cap * s := by
  obtain ⟨h0, h⟩ := h
  rcases h with ⟨_, h0⟩ | ⟨g, cap, cur, hv, hg, hh, h1, h2, h3, h4⟩
  · omega
  · refine ⟨g, cap, cur.toList.drop (n * s), hv, hg, h1, h2, ?_, h0, ?_⟩
    · rw [← h4, List.take_append_drop]
      unfold Blk; simpa using hh
    · rw [← h4, List.take_append_drop]; simpa using h3
theorem own_ofBlk {g cap : Nat} {rest : List Value} (hg : B ≤ g) (hk : Blk w g (xs ++ rest) e) (hn : n ≤ cap) (hm : cap ≤ maxLen) (hl : xs.length = n * s) (hl2 : (xs ++ rest).length = cap * s) : w.ownsRow B e s (.slice (some ⟨g, 0, none⟩) n cap) n xs := by
  refine ⟨hl, Or.inr ⟨g, cap, (xs ++ rest).toArray, rfl, hg, hk, hn, hm, by simpa using hl2, ?_⟩⟩
  rw [← hl]; simp
end
/-- One behind the other, the second from so far on. -/
theorem cells_in {w : World} {g : Nat} {pre cs post : List Value} {t : TypeId} (h : Blk w g (pre ++ cs ++ post) t) {o : Nat} (ho : pre.length = o) : ∀ j v, cs[j]? = some v → w.cell? ((⟨g, o, none⟩ : Addr).add j) = some v := fun j v hj => by
  have hlt := (List.getElem?_eq_some_iff.1 hj).1
  rw [Addr.add_mid, h.cell, List.append_assoc, List.getElem?_append_right (by omega), ho, Nat.add_sub_cancel_left, List.getElem?_append_left hlt]
  exact hj
end
end Go.Proofs.YtokpabkcaofahaaGreat
