/-
  Words in memory: three cells each, one behind the other.
  A slice that the call itself makes: appended to by whatever slice; what it reads as. For elements of one cell.
  append onto a slice of the call's own, as a step of a region that draws its order; a slice of structs appended to.
  Append to a row of structs of any size that is the call's or an object's own: where what comes of it lies. Whatever is appended, nothing too. No program is named here.
  A slice of structs built of its elements: '[]T{a, b, c}', 'append(out, x)'.
  Rows of words of the call's own.
-/
import Derived.Test.YtocfcfoocmkkdaaQ3
import Derived.Test.YtocfcfoocmkkdaaQ2
import Derived.Laws.AppendOwnNone
import Derived.OwnWalk
import Derived.Deep.Onto
import Derived.Deep.RegionLaw
import Derived.Deep.AppendLies
import Derived.Test.YtocfcfoocmkkdaaQ1
import Derived.BigFrame
namespace Go.Proofs.Ytocfcfoocmkkdaa
section
set_option linter.unusedSimpArgs false
set_option linter.unusedVariables false
open Go.RowKit Sha
theorem wflat_length (l : List Mb) : (l.flatMap mc).length = l.length * 3 := by
  induction l with
  | nil => rfl
  | cons x l ih => rw [List.flatMap_cons, List.length_append, ih, List.length_cons]; simp; omega
theorem wflat_get (l : List Mb) (i : Nat) (hi : i < l.length) (r : Nat) (hr : r < 3) : (l.flatMap mc)[i * 3 + r]? = (mc l[i])[r]? := by
  induction l generalizing i with
  | nil => simp at hi
  | cons x l ih =>
    rw [List.flatMap_cons]
    cases i with
    | zero => simp only [Nat.zero_mul, Nat.zero_add]; rw [List.getElem?_append_left (by simpa using hr)]; rfl
    | succ i =>
      rw [List.getElem?_append_right (by simp; omega), show (i + 1) * 3 + r - (mc x).length = i * 3 + r by simp; omega]
      simpa using ih i (by simpa using hi)
theorem wflat_inv (l : List Mb) (j : Nat) (v : Value) (hv : (l.flatMap mc)[j]? = some v) : ∃ (i r : Nat) (hi : i < l.length), r < 3 ∧ j = i * 3 + r ∧ (mc l[i])[r]? = some v := by
  have hj := (List.getElem?_eq_some_iff.1 hv).1
  rw [wflat_length] at hj
  have hi : j / 3 < l.length := by omega
  refine ⟨j / 3, j % 3, hi, by omega, by omega, ?_⟩
  rw [← wflat_get l _ hi _ (by omega), show j / 3 * 3 + j % 3 = j by omega]; exact hv
structure GoodW (w : World) (l : List Mb) (q : Option Addr) (cap : Nat) : Prop where
  ok : ∀ x ∈ l, x.ok
  at_ : At w q (l.flatMap mc)
  le : l.length ≤ cap
  max : cap ≤ 9223372036854775807
  nil : q = none → cap = 0
theorem GoodW.below {w w' : World} {l : List Mb} {q : Option Addr} {cap : Nat} (h : GoodW w l q cap) (hb : Below w.heap.size w w') : GoodW w' l q cap := ⟨h.ok, h.at_.below hb, h.le, h.max, h.nil⟩
/-- The i-th word: where it lies. -/
theorem GoodW.get {w : World} {l : List Mb} {q : Option Addr} {cap : Nat} (h : GoodW w l q cap) (i : Nat) (hi : i < l.length) : ∃ b off, q = some ⟨b, off, none⟩ ∧ w.rangeAt b (off + i * 3) (mc l[i]) := by
  obtain ⟨b, off, rfl, hc⟩ := h.at_.addr (by rw [wflat_length]; omega)
  refine ⟨b, off, rfl, fun j v hv => ?_⟩
  have hj : j < 3 := by have := (List.getElem?_eq_some_iff.1 hv).1; simpa using this
  rw [Nat.add_assoc]
  exact hc _ v (by rw [wflat_get l i hi j hj]; exact hv)
end
section
set_option linter.unusedSimpArgs false
set_option linter.unusedVariables false
variable {P : Program} {ops : Array Oper} {rest : List Oper} {o : Oper} {a : Act} {w : World} {Q : Exit → Act → World → Prop}
/-- How long a slice value is: for a loop's measure. -/
def lenOf : Value → Nat
  | .slice _ n _ => n
  | _ => 0
theorem own_form {B n : Nat} {e : TypeId} {v : Value} {xs : List Value} (h : w.ownsRow B e 1 v n xs) (hn : 0 < n) : ∃ g cap, v = .slice (some ⟨g, 0, none⟩) n cap ∧ B ≤ g ∧ n ≤ cap ∧ cap ≤ maxLen ∧ g < w.heap.size := by
  obtain ⟨_, h⟩ := h
  rcases h with ⟨_, h0⟩ | ⟨g, cap, cur, hv, hg, hh, h1, h2, _⟩
  · omega
  · exact ⟨g, cap, hv, hg, h1, h2, Blk.lt (cs := cur.toList) (t := e) (by unfold Blk; simpa using hh)⟩
theorem own_at {B n : Nat} {e : TypeId} {v : Value} {xs : List Value} (h : w.ownsRow B e 1 v n xs) : ∃ p cap, v = .slice p n cap ∧ n ≤ cap ∧ cap ≤ maxLen ∧ At w p xs ∧ xs.length = n ∧ (p = none → cap = 0) := by
  have hl : xs.length = n := by simpa using h.1
  rcases h.2 with ⟨hv, h0⟩ | ⟨g, cap, cur, hv, hg, hh, h1, h2, h3, h4⟩
  · exact ⟨none, 0, by rw [hv, h0], by omega, by simp [maxLen], Or.inl (List.eq_nil_of_length_eq_zero (by omega)), hl, fun _ => rfl⟩
  · refine ⟨_, cap, hv, h1, h2, Or.inr ⟨g, 0, rfl, fun i v hi => ?_⟩, hl, fun h => by cases h⟩
    subst hv
    have hlt : i < xs.length := by
      by_cases hlt : i < xs.length
      · exact hlt
      · rw [List.getElem?_eq_none (by omega)] at hi; cases hi
    rw [Nat.zero_add, h.cellAt i (by omega)]; exact hi
theorem at_one (w : World) (v : Value) (e : TypeId) : At (w.alloc (.cells #[v] e)) (some ⟨w.heap.size, 0, none⟩) [v] := by
  refine Or.inr ⟨_, 0, rfl, fun i u hi => ?_⟩
  rw [Nat.zero_add, (Blk.new w #[v] e).cell]; exact hi
/-- 'append(v, x...)': v the call's own, x whatever. -/
theorem wpList_app (hgd : o.guard = none) (s x : Operand) (t : TypeId) (ho : o.op = .call { callee := .builtin .append, args := #[s, x], argTypes := #[t, t] })
    (B : Nat) (e : TypeId) {z : Value} {by_ : Nat} (ht : P.underlying t = some (.slice e)) (hi : (P.info? e).map (fun i => (i.zero, i.size, i.bytes)) = some (some z, 1, by_)) (hz : z.cells.size = 1)
    (v : Value) (n : Nat) (xs : List Value) (hs : a.eval s = v) (hown : w.ownsRow B e 1 v n xs)
    (p : Option Addr) (m c : Nat) (news : List Value) (hx : a.eval x = .slice p m c) (hA : At w p news) (hl : news.length = m) (hn : p = none → c = 0) (hmc : m ≤ c) (h1 : ∀ u ∈ news, u.oneCell' = true)
    (hbytes : (n + m) * by_ ≤ 140737488355328) (hmax : n + m ≤ maxLen) (hB : B ≤ w.heap.size)
    (h : ∀ v' w', w'.ownsRow B e 1 v' (n + m) (xs ++ news) → w.grownBy w' v.ownBlock → RowKit.Below B w w' → B ≤ w'.heap.size → (v' = .slice none 0 0 ↔ v = .slice none 0 0 ∧ m = 0) → wpList P ops Q rest (a.put o.dst v') w') : wpList P ops Q (o :: rest) a w := by
  obtain ⟨i, hi, hz0, hz1, hz2⟩ := info_parts hi
  have hblock : ∀ k, v.ownBlock = some k → B ≤ k := by
    intro k hk
    rcases hown.2 with ⟨hv, _⟩ | ⟨g, cap, cur, hv, hg, _⟩
    · rw [hv] at hk; cases hk
    · rw [hv] at hk; cases hk; exact hg
  cases p with
  | none =>
    have hc := hn rfl
    have hm : m = 0 := by omega
    subst hc hm
    have hnews : news = [] := List.eq_nil_of_length_eq_zero hl
    subst hnews
    refine wpList_append_own_none hgd s x t ho B e i 1 ht hi v n xs hs hown hx (h v w (by simpa using hown) ⟨rfl, rfl, rfl, Nat.le_refl _, fun _ _ _ => rfl⟩ (RowKit.Below.refl _ _) hB (by simp))
  | some ad =>
    refine wpList_append_own w hgd s x t ho B e i z 1 by_ ht hi hz0 hz1 hz2 hz (by decide) v n xs hs hown ad m c news hx (by omega) ?_ h1 hmax hbytes hB ?_
    · intro j u hj
      rcases hA with hA | ⟨b, off, hA, hc⟩
      · subst hA; simp at hj
      · cases hA; rw [Addr.add_mid]; exact hc j u hj
    · intro v' w' h1 h2 h3
      exact h v' w' h1 h2 ((RowKit.Below.refl B w).grown h2 hB hblock) (Nat.le_trans hB h2.size) h3
end
section
set_option linter.unusedSimpArgs false
set_option linter.unusedVariables false
variable {P : Program} {ops : Array Oper} {o : Oper} {a : Act} {w : World} {Q : Exit → Act → World → Prop} {K : Act → World → Prop} {E : Prop}
/-- 'append(v, x...)': v the call's own, x whatever. -/
theorem step_app (hgd : o.guard = none) (s x : Operand) (t : TypeId) (ho : o.op = .call { callee := .builtin .append, args := #[s, x], argTypes := #[t, t] })
    (B : Nat) (e : TypeId) {z : Value} {by_ : Nat} (ht : P.underlying t = some (.slice e)) (hi : (P.info? e).map (fun i => (i.zero, i.size, i.bytes)) = some (some z, 1, by_)) (hz : z.cells.size = 1)
    (v : Value) (n : Nat) (xs : List Value) (hs : a.eval s = v) (hown : w.ownsRow B e 1 v n xs)
    (p : Option Addr) (m c : Nat) (news : List Value) (hx : a.eval x = .slice p m c) (hA : At w p news) (hl : news.length = m) (hn : p = none → c = 0) (hmc : m ≤ c) (h1 : ∀ u ∈ news, u.oneCell' = true)
    (hbytes : (n + m) * by_ ≤ 140737488355328) (hmax : n + m ≤ maxLen) (hB : B ≤ w.heap.size)
    (h : ∀ v' w', w'.ownsRow B e 1 v' (n + m) (xs ++ news) → w.grownBy w' v.ownBlock → RowKit.Below B w w' → B ≤ w'.heap.size → K (a.put o.dst v') w') :
    if Region.wanted o (yielded ops a.tmps) = true then Oper.wp P o a w K Q else E := by
  have hw : Region.wanted o (yielded ops a.tmps) = true := by simp [Region.wanted, hgd]
  rw [if_pos hw]
  obtain ⟨i, hi, hz0, hz1, hz2⟩ := info_parts hi
  have hblock : ∀ k, v.ownBlock = some k → B ≤ k := by
    intro k hk
    rcases hown.2 with ⟨hv, _⟩ | ⟨g, cap, cur, hv, hg, _⟩
    · rw [hv] at hk; cases hk
    · rw [hv] at hk; cases hk; exact hg
  cases p with
  | none =>
    have hc := hn rfl
    have hm : m = 0 := by omega
    subst hc hm
    have hnews : news = [] := List.eq_nil_of_length_eq_zero hl
    subst hnews
    have hrun := run_append_owned_none (P := P) (w := w) B t o.type e i 1 ht hi v n xs hown
    unfold Oper.wp
    simp [execOp, ho, resolve, invoke, builtin, hs, hx, hrun, Result.andThen]
    exact h v w (by simpa using hown) ⟨rfl, rfl, rfl, Nat.le_refl _, fun _ _ _ => rfl⟩ (RowKit.Below.refl _ _) hB
  | some ad =>
    refine wp_append_own w s x t ho B e i z 1 by_ ht hi hz0 hz1 hz2 hz (by decide) v n xs hs hown ad m c news hx (by omega) ?_ h1 hmax hbytes hB ?_
    · intro j u hj
      rcases hA with hA | ⟨b, off, hA, hc⟩
      · subst hA; simp at hj
      · cases hA; rw [Addr.add_mid]; exact hc j u hj
    · intro v' w' h1 h2 h3
      exact h v' w' h1 h2 ((RowKit.Below.refl B w).grown h2 hB hblock) (Nat.le_trans hB h2.size)
end
section
set_option linter.unusedSimpArgs false
set_option linter.unusedVariables false
variable {P : Program}
theorem run_app_s (w : World) (B : Nat) (t ty e : TypeId) (i : TypeInfo) (z : Value) (size : Nat) (hsz : 0 < size) (by_ : Nat) (ht : P.underlying t = some (.slice e)) (hi : P.info? e = some i) (hz : i.zero = some z) (h1s : i.size = size) (hby : i.bytes = by_) (hzs : z.cells.size = size)
    (v : Value) (n : Nat) (xs : List Value) (hown : w.ownsRow B e size v n xs)
    (ad : Addr) (m c : Nat) (news : List Value) (hl : news.length = m * size) (hnews : ∀ j u, news[j]? = some u → w.cell? (ad.add j) = some u) (h1 : ∀ u ∈ news, u.oneCell' = true)
    (hmax : n + m ≤ maxLen) (hbytes : (n + m) * by_ ≤ 140737488355328) (hB : B ≤ w.heap.size) :
    ∃ v' w', (Builtin.append_ #[t, t] ty #[v, .slice (some ad) m c]).run P w = .ok v' w' ∧ w'.ownsRow B e size v' (n + m) (xs ++ news) ∧ w.grownBy w' v.ownBlock ∧ ∀ g, v'.ownBlock = some g → v.ownBlock = some g ∨ w.heap.size ≤ g := by
  by_cases hm : m = 0
  · obtain ⟨v', w', hr, h2, h3, _⟩ := run_append_own (P := P) w B t ty e i z size by_ ht hi hz h1s hby hzs hsz v n xs hown ad m c news hl hnews h1 hmax hbytes hB
    refine ⟨v', w', hr, h2, h3, ?_⟩
    subst hm
    have hn : news = [] := List.eq_nil_of_length_eq_zero (by simpa using hl)
    subst hn
    rcases hown.2 with ⟨rfl, rfl⟩ | ⟨g, cap, cur, rfl, hbg, hg, hnc, hcm, hcs, htake⟩
    · have hr' : (Builtin.append_ #[t, t] ty #[.slice none 0 0, .slice (some ad) 0 c]).run P w = .ok (.slice none 0 0) w := by
        simp [Builtin.append_, run_underlying ht, sizeOf, typeInfo, hi, Builtin.lenOf, Builtin.firstCells, loadCells, loadCellsFrom]
      rw [hr'] at hr
      cases hr
      intro g hg; cases hg
    · have hfit : n * i.size + ([] : List Value).length ≤ cur.size := by rw [h1s, hcs]; simpa using Nat.mul_le_mul_right size hnc
      have hr' := run_append_room (P := P) w t ty e i ht hi g n cap cur hg ad 0 c [] (by simp) hnews h1 (by omega) hfit
      rw [hr'] at hr
      cases hr
      intro g' hg'; exact .inl hg'
  · obtain ⟨g, cap, w', hr, h2, h3, h4, h5⟩ := run_append_lies (P := P) w t ty B e i z size by_ ht hi hz h1s hby hzs hsz v n xs hown ad m c news hl hnews h1 (by omega) hmax hbytes hB _ rfl
    refine ⟨_, w', hr, h2, h3, fun g' hg' => ?_⟩
    cases hg'
    rcases h4 with h | h
    · exact .inl h
    · exact .inr (by show w.heap.size ≤ g; omega)
variable {ops : Array Oper} {rest : List Oper} {o : Oper} {a : Act} {w : World} {Q : Exit → Act → World → Prop} {K : Act → World → Prop} {E : Prop}
theorem wp_app_s (s x : Operand) (t : TypeId) (ho : o.op = .call { callee := .builtin .append, args := #[s, x], argTypes := #[t, t] })
    (B : Nat) (e : TypeId) {z : Value} {size by_ : Nat} (hsz : 0 < size) (ht : P.underlying t = some (.slice e)) (hi : (P.info? e).map (fun i => (i.zero, i.size, i.bytes)) = some (some z, size, by_)) (hz : z.cells.size = size)
    (v : Value) (n : Nat) (xs : List Value) (hs : a.eval s = v) (hown : w.ownsRow B e size v n xs)
    (p : Option Addr) (m c : Nat) (news : List Value) (hx : a.eval x = .slice p m c) (hA : At w p news) (hl : news.length = m * size) (hn : p = none → c = 0) (hmc : m ≤ c) (h1 : ∀ u ∈ news, u.oneCell' = true)
    (hbytes : (n + m) * by_ ≤ 140737488355328) (hmax : n + m ≤ maxLen) (hB : B ≤ w.heap.size)
    (h : ∀ v' w', w'.ownsRow B e size v' (n + m) (xs ++ news) → w.grownBy w' v.ownBlock → (∀ g, v'.ownBlock = some g → v.ownBlock = some g ∨ w.heap.size ≤ g) → K (a.put o.dst v') w') : o.wp P a w K Q := by
  obtain ⟨i, hi, hz0, hz1, hz2⟩ := info_parts hi
  cases p with
  | none =>
    have hc := hn rfl
    have hm : m = 0 := by omega
    subst hc hm
    have hnews : news = [] := List.eq_nil_of_length_eq_zero (by simpa using hl)
    subst hnews
    have hrun := run_append_owned_none (P := P) (w := w) B t o.type e i size ht hi v n xs hown
    unfold Oper.wp
    simp [execOp, ho, resolve, invoke, builtin, hs, hx, hrun, Result.andThen]
    exact h v w (by simpa using hown) ⟨rfl, rfl, rfl, Nat.le_refl _, fun _ _ _ => rfl⟩ (fun g hg => .inl hg)
  | some ad =>
    obtain ⟨v', w', hr, h2, h3, h4⟩ := run_app_s (P := P) w B t o.type e i z size hsz by_ ht hi hz0 hz1 hz2 hz v n xs hown ad m c news hl (by
      intro j u hj
      rcases hA with hA | ⟨b, off, hA, hc⟩
      · subst hA; simp at hj
      · cases hA; rw [Addr.add_mid]; exact hc j u hj) h1 hmax hbytes hB
    unfold Oper.wp
    simp [execOp, ho, resolve, invoke, builtin, hs, hx, hr, Result.andThen]
    exact h v' w' h2 h3 h4
theorem wpList_app_s (hgd : o.guard = none) (s x : Operand) (t : TypeId) (ho : o.op = .call { callee := .builtin .append, args := #[s, x], argTypes := #[t, t] })
    (B : Nat) (e : TypeId) {z : Value} {size by_ : Nat} (hsz : 0 < size) (ht : P.underlying t = some (.slice e)) (hi : (P.info? e).map (fun i => (i.zero, i.size, i.bytes)) = some (some z, size, by_)) (hz : z.cells.size = size)
    (v : Value) (n : Nat) (xs : List Value) (hs : a.eval s = v) (hown : w.ownsRow B e size v n xs)
    (p : Option Addr) (m c : Nat) (news : List Value) (hx : a.eval x = .slice p m c) (hA : At w p news) (hl : news.length = m * size) (hn : p = none → c = 0) (hmc : m ≤ c) (h1 : ∀ u ∈ news, u.oneCell' = true)
    (hbytes : (n + m) * by_ ≤ 140737488355328) (hmax : n + m ≤ maxLen) (hB : B ≤ w.heap.size)
    (h : ∀ v' w', w'.ownsRow B e size v' (n + m) (xs ++ news) → w.grownBy w' v.ownBlock → (∀ g, v'.ownBlock = some g → v.ownBlock = some g ∨ w.heap.size ≤ g) → wpList P ops Q rest (a.put o.dst v') w') : wpList P ops Q (o :: rest) a w :=
  wpList_plain hgd fun _ hK => wp_app_s s x t ho B e hsz ht hi hz v n xs hs hown p m c news hx hA hl hn hmc h1 hbytes hmax hB fun v' w' h1 h2 h3 => hK _ _ (h v' w' h1 h2 h3)
theorem step_app_s (hgd : o.guard = none) (s x : Operand) (t : TypeId) (ho : o.op = .call { callee := .builtin .append, args := #[s, x], argTypes := #[t, t] })
    (B : Nat) (e : TypeId) {z : Value} {size by_ : Nat} (hsz : 0 < size) (ht : P.underlying t = some (.slice e)) (hi : (P.info? e).map (fun i => (i.zero, i.size, i.bytes)) = some (some z, size, by_)) (hz : z.cells.size = size)
    (v : Value) (n : Nat) (xs : List Value) (hs : a.eval s = v) (hown : w.ownsRow B e size v n xs)
    (p : Option Addr) (m c : Nat) (news : List Value) (hx : a.eval x = .slice p m c) (hA : At w p news) (hl : news.length = m * size) (hn : p = none → c = 0) (hmc : m ≤ c) (h1 : ∀ u ∈ news, u.oneCell' = true)
    (hbytes : (n + m) * by_ ≤ 140737488355328) (hmax : n + m ≤ maxLen) (hB : B ≤ w.heap.size)
    (h : ∀ v' w', w'.ownsRow B e size v' (n + m) (xs ++ news) → w.grownBy w' v.ownBlock → (∀ g, v'.ownBlock = some g → v.ownBlock = some g ∨ w.heap.size ≤ g) → K (a.put o.dst v') w') :
    if Region.wanted o (yielded ops a.tmps) = true then Oper.wp P o a w K Q else E := by
  have hw : Region.wanted o (yielded ops a.tmps) = true := by simp [Region.wanted, hgd]
  rw [if_pos hw]
  exact wp_app_s s x t ho B e hsz ht hi hz v n xs hs hown p m c news hx hA hl hn hmc h1 hbytes hmax hB h
end
section
set_option linter.unusedSimpArgs false
set_option linter.unusedVariables false
variable {P : Program}
theorem foldl_put : ∀ (vs : List Value) (pre mid post : List Value) (j : Nat) (off : Nat), pre.length = off + j → mid.length = vs.length →
    (vs.zipIdx j).foldl (fun (cs : Array Value) (x : Value × Nat) => cs.setIfInBounds (off + x.2) x.1) (pre ++ mid ++ post).toArray = (pre ++ vs ++ post).toArray
  | [], pre, mid, post, j, off, _, hm => by
    have : mid = [] := List.eq_nil_of_length_eq_zero hm
    subst this; simp
  | v :: vs, pre, mid, post, j, off, hp, hm => by
    cases mid with
    | nil => simp at hm
    | cons m mid =>
      rw [List.zipIdx_cons, List.foldl_cons]
      have e : (pre ++ (m :: mid) ++ post).toArray.setIfInBounds (off + j) v = ((pre ++ [v]) ++ mid ++ post).toArray := by
        rw [← hp, List.setIfInBounds_toArray]; simp
      rw [e, foldl_put vs (pre ++ [v]) mid post (j + 1) off (by simp; omega) (by simpa using hm)]
      simp
theorem put_cells (vs pre mid post : List Value) (off : Nat) (hp : pre.length = off) (hm : mid.length = vs.length) :
    (vs.toArray.zipIdx.foldl (fun (cs : Array Value) (x : Value × Nat) => cs.setIfInBounds (off + x.2) x.1) (pre ++ mid ++ post).toArray) = (pre ++ vs ++ post).toArray := by
  rw [← foldl_put vs pre mid post 0 off (by simpa using hp) hm, ← Array.foldl_toList]
  simp
/-- Parts one behind the other, all of one size, fill a row. -/
theorem fill_parts (s : Nat) : ∀ (css : List (List Value)) (i : Nat) (done rest : List Value), (∀ c ∈ css, c.length = s) → done.length = i * s → rest.length = css.length * s →
    Instr.fill (fun i => some (i * s, s)) (done ++ rest).toArray (css.zipIdx i |>.map fun c => (c.2, Value.agg c.1.toArray)) = some (done ++ css.flatten).toArray
  | [], i, done, rest, _, _, hr => by
    have : rest = [] := List.eq_nil_of_length_eq_zero (by simpa using hr)
    subst this; simp [Instr.fill]
  | c :: css, i, done, rest, hc, hd, hr => by
    have hl : c.length = s := hc c (List.mem_cons_self ..)
    have hr' : rest.length = css.length * s + s := by rw [hr, List.length_cons, Nat.succ_mul]
    rw [List.zipIdx_cons, List.map_cons, Instr.fill]
    dsimp only
    split
    · rename_i hne
      exfalso
      simp [Value.cells, hl, hd, hr'] at hne
      omega
    · show Instr.fill _ (Array.foldl _ (done ++ rest).toArray c.toArray.zipIdx) _ = _
      have e := put_cells c done (rest.take s) (rest.drop s) (i * s) hd (by rw [List.length_take, hl]; omega)
      rw [List.append_assoc, List.take_append_drop] at e
      rw [e, fill_parts s css (i + 1) (done ++ c) (rest.drop s) (fun c hc' => hc c (List.mem_cons_of_mem _ hc')) (by rw [List.length_append, hd, hl, Nat.succ_mul]) (by rw [List.length_drop]; omega)]
      simp
theorem run_build_items (w : World) (t e : TypeId) (s : Nat) (z : Value) (hs : 0 < s) (hu : P.underlying t = some (.slice e)) (he : (P.info? e).map (fun i => (i.zero, i.size)) = some (some z, s)) (css : List (List Value)) (hc : ∀ c ∈ css, c.length = s) (hk : css.length * s ≤ 16777216) :
    (Instr.buildSlice t css.length (css.zipIdx.map fun c => (c.2, Value.agg c.1.toArray)).toArray).run P w = .ok (.slice (some ⟨w.heap.size, 0, none⟩) css.length css.length) (w.alloc (.cells css.flatten.toArray e)) := by
  cases hq : P.info? e with
  | none => simp [hq] at he
  | some i =>
    simp [hq] at he
    obtain ⟨hz, hsz⟩ := he
    have h1 : (sizeOf e).run P w = .ok s w := by simp [sizeOf, typeInfo, hq, hsz]
    have h2 : (zeroValue e).run P w = .ok z w := by simp [zeroValue, typeInfo, hq, hz]
    have hf := fill_parts s css 0 [] ((Array.range (css.length * s)).map (fun x => z.cells[x % z.cells.size]!)).toList hc (by simp) (by simp)
    simp only [List.nil_append, Array.toArray_toList] at hf
    by_cases h0 : css.length * s = 0
    · have hn : css = [] := by
        cases css with
        | nil => rfl
        | cons c cs => rcases Nat.mul_eq_zero.1 h0 with h | h; simp at h; omega
      subst hn
      simp [go_sem, Instr.buildSlice, run_underlying hu, h1, Instr.fill]
    · have h16 : ¬ 16777216 < css.length * s := by omega
      simp [go_sem, Instr.buildSlice, run_underlying hu, h1, h2, h0, h16]
      unfold Value.cells at hf
      rw [hf]
      simp [go_sem]
end
section
set_option linter.unusedSimpArgs false
set_option linter.unusedVariables false
open Go.RowKit Sha
theorem mem_info : (Try.prog.info? mt).map (fun i => (i.zero, i.size, i.bytes)) = some (some (.agg #[.int .i64 0, .int .i64 0, .int .i64 0]), 3, 24) := by kernel_rfl
theorem mem_zs : (Try.prog.info? mt).map (fun i => (i.zero, i.size)) = some (some (.agg #[.int .i64 0, .int .i64 0, .int .i64 0]), 3) := by kernel_rfl
@[irreducible] def buildM (t : TypeId) (len : Nat) (parts : Array (Nat × Value)) : Sem Next := do pure (.value (← Instr.buildSlice t len parts))
theorem execOp_buildM (ρ : Operand → Value) (dst : Option Tmp) (len : Nat) (parts : Array (Nat × Operand)) (ty : TypeId) (pos : String) (after : Array Edge) (guard : Option (Nat × Bool)) :
    execOp ρ { dst := dst, op := .buildSlice 22 len parts, type := ty, pos := pos, after := after, guard := guard } = buildM 22 len (parts.map fun (i, x) => (i, ρ x)) := by unfold buildM; rfl
theorem run_buildM0 (w : World) : (buildM 22 0 #[]).run Try.prog w = .ok (.value (.slice (some ⟨w.heap.size, 0, none⟩) 0 0)) (w.alloc (.cells #[] mt)) := by
  have := run_build_items (P := Try.prog) w 22 mt 3 _ (by omega) Try.underlying22 mem_zs [] (by simp) (by simp)
  unfold buildM; simp only [Sem.run_bind]
  rw [show (Instr.buildSlice 22 0 #[]).run Try.prog w = _ from this]; rfl
theorem run_buildM1 (w : World) (m : Mb) : (buildM 22 1 #[(0, mv m)]).run Try.prog w = .ok (.value (.slice (some ⟨w.heap.size, 0, none⟩) 1 1)) (w.alloc (.cells (mc m).toArray mt)) := by
  have := run_build_items (P := Try.prog) w 22 mt 3 _ (by omega) Try.underlying22 mem_zs [mc m] (by intro c hc; simp at hc; subst hc; rfl) (by simp)
  unfold buildM; simp only [Sem.run_bind]
  rw [show (Instr.buildSlice 22 1 #[(0, mv m)]).run Try.prog w = _ from this]; rfl
theorem own_blk_w {w : World} {B n size : Nat} {e : TypeId} {v : Value} {xs : List Value} (h : w.ownsRow B e size v n xs) (hn : 0 < n) : ∃ g cap rest, v = .slice (some ⟨g, 0, none⟩) n cap ∧ B ≤ g ∧ n ≤ cap ∧ cap ≤ maxLen ∧ Blk w g (xs ++ rest) e := by
  obtain ⟨_, h⟩ := h
  rcases h with ⟨_, h0⟩ | ⟨g, cap, cur, hv, hg, hh, h1, h2, h3, h4⟩
  · omega
  · refine ⟨g, cap, cur.toList.drop (n * size), hv, hg, h1, h2, ?_⟩
    rw [← h4, List.take_append_drop]
    unfold Blk; simpa using hh
theorem own_base_w {w : World} {B n size : Nat} {e : TypeId} {v : Value} {xs : List Value} (h : w.ownsRow B e size v n xs) : ∀ k, v.ownBlock = some k → B ≤ k ∧ k < w.heap.size := by
  intro k hk
  rcases h.2 with ⟨hv, _⟩ | ⟨g, cap, cur, hv, hg, hh, _⟩
  · rw [hv] at hk; cases hk
  · rw [hv] at hk; cases hk; exact ⟨hg, Blk.lt (cs := cur.toList) (t := e) (by unfold Blk; simpa using hh)⟩
theorem own_empty_w (w : World) (B : Nat) (hB : B ≤ w.heap.size) : (w.alloc (.cells #[] mt)).ownsRow B mt 3 (.slice (some ⟨w.heap.size, 0, none⟩) 0 0) 0 [] :=
  ⟨rfl, Or.inr ⟨w.heap.size, 0, #[], rfl, hB, heap_alloc_new w _, Nat.le_refl _, by simp [maxLen], rfl, rfl⟩⟩
theorem own_on_w {w w' : World} {B n : Nat} {v : Value} {xs : List Value} (h : w.ownsRow B mt 3 v n xs) (hb : Below w.heap.size w w') : w'.ownsRow B mt 3 v n xs := by
  refine ⟨h.1, ?_⟩
  have hk := own_base_w h
  rcases h.2 with h | ⟨g, cap, cur, hv, hg, hh, h4⟩
  · exact Or.inl h
  · exact Or.inr ⟨g, cap, cur, hv, hg, by rw [hb.block g (hk g (by rw [hv]; rfl)).2]; exact hh, h4⟩
/-- What an append has grown is above what was there before. -/
theorem grown_below {a b c : World} {row : Option Nat} {B : Nat} (h : Below B a b) (k : b.grownBy c row) (hB : ∀ g, row = some g → B ≤ g) (hs : B ≤ b.heap.size) : Below B a c :=
  h.trans ⟨k.os, k.tape, k.output, k.size, fun i hi => k.block i (by omega) (by intro e; have := hB i e.symm; omega)⟩
theorem wflat_one (l : List Mb) : ∀ u ∈ l.flatMap mc, u.oneCell' = true := by
  intro u hu
  obtain ⟨m, _, hm⟩ := List.mem_flatMap.1 hu
  simp at hm
  rcases hm with rfl | rfl | rfl <;> rfl
theorem wflat_set (l : List Mb) (rest : List Value) (k : Nat) (hk : k < l.length) (i : Int) : (l.flatMap mc ++ rest).set (k * 3) (.int .i64 i) = (l.set k ⟨i, l[k].S, l[k].N⟩).flatMap mc ++ rest := by
  induction l generalizing k with
  | nil => simp at hk
  | cons x l ih =>
    cases k with
    | zero => simp
    | succ k =>
      have h := ih k (by simpa using hk)
      rw [show (k + 1) * 3 = k * 3 + 3 by omega]
      simp only [List.flatMap_cons, List.set_cons_succ, List.getElem_cons_succ]
      simp only [mc, List.cons_append, List.nil_append, List.set_cons_succ] at h ⊢
      rw [h]
theorem rangeW {w : World} {g : Nat} {l : List Mb} {rest : List Value} (h : Blk w g (l.flatMap mc ++ rest) mt) (k : Nat) (hk : k < l.length) : w.rangeAt g (k * 3) (mc l[k]) := fun j v hv => by
  have hj : j < 3 := by have := (List.getElem?_eq_some_iff.1 hv).1; simpa using this
  rw [h.cell, List.getElem?_append_left (by rw [wflat_length]; omega), wflat_get l k hk j hj]; exact hv
theorem goodW_blk {w : World} {g cap n : Nat} {l : List Mb} {rest : List Value} (h : Blk w g (l.flatMap mc ++ rest) mt) (hok : ∀ x ∈ l, x.ok) (hn : l.length = n) (hc : n ≤ cap) (hm : cap ≤ maxLen) : GoodW w l (some ⟨g, 0, none⟩) cap :=
  ⟨hok, Or.inr ⟨g, 0, rfl, fun j v hv => by
    rw [Nat.zero_add, h.cell, List.getElem?_append_left (List.getElem?_eq_some_iff.1 hv).1]; exact hv⟩, by omega, by unfold maxLen at hm; omega, fun h => by cases h⟩
/-- The row of words, and what lies above. -/
structure RowM (w0 w : World) (g : Nat) (l : List Mb) (rest : List Value) : Prop where
  blk : Blk w g (l.flatMap mc ++ rest) mt
  below : Below w0.heap.size w0 w
theorem RowM.on {w0 w w' : World} {g : Nat} {l : List Mb} {rest : List Value} (h : RowM w0 w g l rest) (hb : Below w.heap.size w w') : RowM w0 w' g l rest := ⟨h.blk.upon hb, h.below.trans (hb.mono h.below.size)⟩
theorem RowM.set {w0 w : World} {g : Nat} {l : List Mb} {rest : List Value} (h : RowM w0 w g l rest) (hg : w0.heap.size ≤ g) (k : Nat) (hk : k < l.length) (i : Int) : RowM w0 (w.setCell ⟨g, k * 3, none⟩ (.int .i64 i)) g (l.set k ⟨i, l[k].S, l[k].N⟩) rest := by
  refine ⟨?_, Below.setCell h.below hg _⟩
  have := h.blk.set (k * 3) (.int .i64 i)
  rwa [wflat_set l rest k hk i] at this
theorem RowM.load {w0 w : World} {g : Nat} {l : List Mb} {rest : List Value} (h : RowM w0 w g l rest) (k : Nat) (hk : k < l.length) : (loadM mt (.pointer (some ⟨g, k * 3, none⟩))).run Try.prog w = .ok (.value (mv l[k])) w := run_loadM (rangeW h.blk k hk)
end
end Go.Proofs.Ytocfcfoocmkkdaa
