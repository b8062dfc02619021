/-
  Append to a row of structs of any size that is the call's or an object's own: where what comes of it lies. Whatever is appended, nothing too. No program is named here.
  Rows of structs as a block: one cell of one struct written over. General: no function is named here.
  Items of a note in memory; the wire package's withNumbers, truth.
-/
import Derived.Test.YteepaoklibflpaaR10
import Derived.Deep.AppendLies
import Derived.Test.YteepaoklibflpaaR26
import Derived.Test.YteepaoklibflpaaR12
import Derived.Laws.MakeOwn
namespace Go.Proofs.Yteepaoklibflpaa
section
set_option linter.unusedSimpArgs false
set_option linter.unusedVariables false
variable {P : Program}
theorem run_app_s (w : World) (B : Nat) (t ty e : TypeId) (i : TypeInfo) (z : Value) (size : Nat) (hsz : 0 < size) (by_ : Nat) (ht : P.underlying t = some (.slice e)) (hi : P.info? e = some i) (hz : i.zero = some z) (h1s : i.size = size) (hby : i.bytes = by_) (hzs : z.cells.size = size)
    (v : Value) (n : Nat) (xs : List Value) (hown : w.ownsRow B e size v n xs)
    (ad : Addr) (m c : Nat) (news : List Value) (hl : news.length = m * size) (hnews : ∀ j u, news[j]? = some u → w.cell? (ad.add j) = some u) (h1 : ∀ u ∈ news, u.oneCell' = true)
    (hmax : n + m ≤ maxLen) (hbytes : (n + m) * by_ ≤ 140737488355328) (hB : B ≤ w.heap.size) :
    ∃ v' w', (Builtin.append_ #[t, t] ty #[v, .slice (some ad) m c]).run P w = .ok v' w' ∧ w'.ownsRow B e size v' (n + m) (xs ++ news) ∧ w.grownBy w' v.ownBlock ∧ ∀ g, v'.ownBlock = some g → v.ownBlock = some g ∨ w.heap.size ≤ g := by
  by_cases hm : m = 0
  · obtain ⟨v', w', hr, h2, h3, _⟩ := run_append_own (P := P) w B t ty e i z size by_ ht hi hz h1s hby hzs hsz v n xs hown ad m c news hl hnews h1 hmax hbytes hB
    refine ⟨v', w', hr, h2, h3, ?_⟩
    subst hm
    have hn : news = [] := List.eq_nil_of_length_eq_zero (by simpa using hl)
    subst hn
    rcases hown.2 with ⟨rfl, rfl⟩ | ⟨g, cap, cur, rfl, hbg, hg, hnc, hcm, hcs, htake⟩
    · have hr' : (Builtin.append_ #[t, t] ty #[.slice none 0 0, .slice (some ad) 0 c]).run P w = .ok (.slice none 0 0) w := by
        simp [Builtin.append_, run_underlying ht, sizeOf, typeInfo, hi, Builtin.lenOf, Builtin.firstCells, loadCells, loadCellsFrom]
      rw [hr'] at hr
      cases hr
      intro g hg; cases hg
    · have hfit : n * i.size + ([] : List Value).length ≤ cur.size := by rw [h1s, hcs]; simpa using Nat.mul_le_mul_right size hnc
      have hr' := run_append_room (P := P) w t ty e i ht hi g n cap cur hg ad 0 c [] (by simp) hnews h1 (by omega) hfit
      rw [hr'] at hr
      cases hr
      intro g' hg'; exact .inl hg'
  · obtain ⟨g, cap, w', hr, h2, h3, h4, h5⟩ := run_append_lies (P := P) w t ty B e i z size by_ ht hi hz h1s hby hzs hsz v n xs hown ad m c news hl hnews h1 (by omega) hmax hbytes hB _ rfl
    refine ⟨_, w', hr, h2, h3, fun g' hg' => ?_⟩
    cases hg'
    rcases h4 with h | h
    · exact .inl h
    · exact .inr (by show w.heap.size ≤ g; omega)
variable {ops : Array Oper} {rest : List Oper} {o : Oper} {a : Act} {w : World} {Q : Exit → Act → World → Prop} {K : Act → World → Prop} {E : Prop}
theorem wp_app_s (s x : Operand) (t : TypeId) (ho : o.op = .call { callee := .builtin .append, args := #[s, x], argTypes := #[t, t] })
    (B : Nat) (e : TypeId) {z : Value} {size by_ : Nat} (hsz : 0 < size) (ht : P.underlying t = some (.slice e)) (hi : (P.info? e).map (fun i => (i.zero, i.size, i.bytes)) = some (some z, size, by_)) (hz : z.cells.size = size)
    (v : Value) (n : Nat) (xs : List Value) (hs : a.eval s = v) (hown : w.ownsRow B e size v n xs)
    (p : Option Addr) (m c : Nat) (news : List Value) (hx : a.eval x = .slice p m c) (hA : At w p news) (hl : news.length = m * size) (hn : p = none → c = 0) (hmc : m ≤ c) (h1 : ∀ u ∈ news, u.oneCell' = true)
    (hbytes : (n + m) * by_ ≤ 140737488355328) (hmax : n + m ≤ maxLen) (hB : B ≤ w.heap.size)
    (h : ∀ v' w', w'.ownsRow B e size v' (n + m) (xs ++ news) → w.grownBy w' v.ownBlock → (∀ g, v'.ownBlock = some g → v.ownBlock = some g ∨ w.heap.size ≤ g) → K (a.put o.dst v') w') : o.wp P a w K Q := by
  obtain ⟨i, hi, hz0, hz1, hz2⟩ := info_parts hi
  cases p with
  | none =>
    have hc := hn rfl
    have hm : m = 0 := by omega
    subst hc hm
    have hnews : news = [] := List.eq_nil_of_length_eq_zero (by simpa using hl)
    subst hnews
    have hrun := run_append_owned_none (P := P) (w := w) B t o.type e i size ht hi v n xs hown
    unfold Oper.wp
    simp [execOp, ho, resolve, invoke, builtin, hs, hx, hrun, Result.andThen]
    exact h v w (by simpa using hown) ⟨rfl, rfl, rfl, Nat.le_refl _, fun _ _ _ => rfl⟩ (fun g hg => .inl hg)
  | some ad =>
    obtain ⟨v', w', hr, h2, h3, h4⟩ := run_app_s (P := P) w B t o.type e i z size hsz by_ ht hi hz0 hz1 hz2 hz v n xs hown ad m c news hl (by
      intro j u hj
      rcases hA with hA | ⟨b, off, hA, hc⟩
      · subst hA; simp at hj
      · cases hA; rw [Addr.add_mid]; exact hc j u hj) h1 hmax hbytes hB
    unfold Oper.wp
    simp [execOp, ho, resolve, invoke, builtin, hs, hx, hr, Result.andThen]
    exact h v' w' h2 h3 h4
theorem wpList_app_s (hgd : o.guard = none) (s x : Operand) (t : TypeId) (ho : o.op = .call { callee := .builtin .append, args := #[s, x], argTypes := #[t, t] })
    (B : Nat) (e : TypeId) {z : Value} {size by_ : Nat} (hsz : 0 < size) (ht : P.underlying t = some (.slice e)) (hi : (P.info? e).map (fun i => (i.zero, i.size, i.bytes)) = some (some z, size, by_)) (hz : z.cells.size = size)
    (v : Value) (n : Nat) (xs : List Value) (hs : a.eval s = v) (hown : w.ownsRow B e size v n xs)
    (p : Option Addr) (m c : Nat) (news : List Value) (hx : a.eval x = .slice p m c) (hA : At w p news) (hl : news.length = m * size) (hn : p = none → c = 0) (hmc : m ≤ c) (h1 : ∀ u ∈ news, u.oneCell' = true)
    (hbytes : (n + m) * by_ ≤ 140737488355328) (hmax : n + m ≤ maxLen) (hB : B ≤ w.heap.size)
    (h : ∀ v' w', w'.ownsRow B e size v' (n + m) (xs ++ news) → w.grownBy w' v.ownBlock → (∀ g, v'.ownBlock = some g → v.ownBlock = some g ∨ w.heap.size ≤ g) → wpList P ops Q rest (a.put o.dst v') w') : wpList P ops Q (o :: rest) a w :=
  wpList_plain hgd fun _ hK => wp_app_s s x t ho B e hsz ht hi hz v n xs hs hown p m c news hx hA hl hn hmc h1 hbytes hmax hB fun v' w' h1 h2 h3 => hK _ _ (h v' w' h1 h2 h3)
theorem step_app_s (hgd : o.guard = none) (s x : Operand) (t : TypeId) (ho : o.op = .call { callee := .builtin .append, args := #[s, x], argTypes := #[t, t] })
    (B : Nat) (e : TypeId) {z : Value} {size by_ : Nat} (hsz : 0 < size) (ht : P.underlying t = some (.slice e)) (hi : (P.info? e).map (fun i => (i.zero, i.size, i.bytes)) = some (some z, size, by_)) (hz : z.cells.size = size)
    (v : Value) (n : Nat) (xs : List Value) (hs : a.eval s = v) (hown : w.ownsRow B e size v n xs)
    (p : Option Addr) (m c : Nat) (news : List Value) (hx : a.eval x = .slice p m c) (hA : At w p news) (hl : news.length = m * size) (hn : p = none → c = 0) (hmc : m ≤ c) (h1 : ∀ u ∈ news, u.oneCell' = true)
    (hbytes : (n + m) * by_ ≤ 140737488355328) (hmax : n + m ≤ maxLen) (hB : B ≤ w.heap.size)
    (h : ∀ v' w', w'.ownsRow B e size v' (n + m) (xs ++ news) → w.grownBy w' v.ownBlock → (∀ g, v'.ownBlock = some g → v.ownBlock = some g ∨ w.heap.size ≤ g) → K (a.put o.dst v') w') :
    if Region.wanted o (yielded ops a.tmps) = true then Oper.wp P o a w K Q else E := by
  have hw : Region.wanted o (yielded ops a.tmps) = true := by simp [Region.wanted, hgd]
  rw [if_pos hw]
  exact wp_app_s s x t ho B e hsz ht hi hz v n xs hs hown p m c news hx hA hl hn hmc h1 hbytes hmax hB h
end
section
set_option linter.unusedSimpArgs false
set_option linter.unusedVariables false
open Go.RowKit Sha
variable {P : Program} {V : Type} {S : Shp V}
theorem own_blk_s {w : World} {B n size : Nat} {e : TypeId} {v : Value} {xs : List Value} (h : w.ownsRow B e size v n xs) (hn : 0 < n) : ∃ g cap rest, v = .slice (some ⟨g, 0, none⟩) n cap ∧ B ≤ g ∧ n ≤ cap ∧ cap ≤ maxLen ∧ Blk w g (xs ++ rest) e := by
  obtain ⟨_, h⟩ := h
  rcases h with ⟨_, h0⟩ | ⟨g, cap, cur, hv, hg, hh, h1, h2, h3, h4⟩
  · omega
  · refine ⟨g, cap, cur.toList.drop (n * size), hv, hg, h1, h2, ?_⟩
    rw [← h4, List.take_append_drop]
    unfold Blk; simpa using hh
theorem row_kind {w : World} {B n size : Nat} {e : TypeId} {v : Value} {xs : List Value} (h : w.ownsRow B e size v n xs) : ∀ k, v.ownBlock = some k → ∃ c fz, w.heap[k]? = some (.cells c e fz) := by
  intro k hk
  rcases h.2 with ⟨hv, _⟩ | ⟨g, cap, cur, hv, _, hh, _⟩
  · rw [hv] at hk; cases hk
  · rw [hv] at hk; cases hk; exact ⟨_, _, hh⟩
theorem row_base {w : World} {B n size : Nat} {e : TypeId} {v : Value} {xs : List Value} (h : w.ownsRow B e size v n xs) : ∀ k, v.ownBlock = some k → B ≤ k := by
  intro k hk
  rcases h.2 with ⟨hv, _⟩ | ⟨g, cap, cur, hv, hg, hh, _⟩
  · rw [hv] at hk; cases hk
  · rw [hv] at hk; cases hk; exact hg
theorem row_carry {w w' : World} {B n size : Nat} {e : TypeId} {v : Value} {xs : List Value} (h : w.ownsRow B e size v n xs) (hc : ∀ k c fz, v.ownBlock = some k → w.heap[k]? = some (.cells c e fz) → w'.heap[k]? = some (.cells c e fz)) : w'.ownsRow B e size v n xs := by
  refine ⟨h.1, ?_⟩
  rcases h.2 with h | ⟨g, cap, cur, hv, hg, hh, h4⟩
  · exact Or.inl h
  · exact Or.inr ⟨g, cap, cur, hv, hg, hc g _ _ (by rw [hv]; rfl) hh, h4⟩
/-- One cell of the k-th struct. -/
theorem Shp.flat_set (ys : List (Hd V)) (h : ∀ y ∈ ys, S.ok y.1) (k : Nat) (hk : k < ys.length) (j : Nat) (hj : j < S.n) (u : Value) (y' : Hd V) (hy : (S.row ys[k]).set j u = S.row y') (rest : List Value) :
    (ys.flatMap S.row ++ rest).set (k * S.n + j) u = (ys.set k y').flatMap S.row ++ rest := by
  induction ys generalizing k with
  | nil => simp at hk
  | cons y ys ih =>
    have hl : (S.row y).length = S.n := S.len _ _ (h y (List.mem_cons_self ..))
    cases k with
    | zero =>
      simp only [Nat.zero_mul, Nat.zero_add, List.getElem_cons_zero, List.set_cons_zero, List.flatMap_cons, List.append_assoc] at hy ⊢
      rw [List.set_append_left _ _ (by omega), hy]
    | succ k =>
      simp only [List.getElem_cons_succ, List.set_cons_succ, List.flatMap_cons, List.append_assoc] at hy ⊢
      rw [List.set_append_right _ _ (by rw [hl, Nat.succ_mul]; omega), show (k + 1) * S.n + j - (S.row y).length = k * S.n + j by rw [hl, Nat.succ_mul]; omega]
      rw [ih (fun y hy => h y (List.mem_cons_of_mem _ hy)) k (by simpa using hk) hy]
/-- Bytes that do not lie in a block. -/
def OutOf (g : Nat) (zs : List Int) (q : Option Addr) : Prop := zs ≠ [] → ∀ a, q = some a → a.block ≠ g
theorem At.setOut {w : World} {g i : Nat} {u : Value} {zs : List Int} {q : Option Addr} (h : At w q (zs.map v8)) (ho : OutOf g zs q) : At (w.setCell ⟨g, i, none⟩ u) q (zs.map v8) := by
  by_cases hz : zs = []
  · left; rw [hz]; rfl
  · rcases h with h | ⟨b, off, rfl, hc⟩
    · exact Or.inl h
    · refine Or.inr ⟨b, off, rfl, fun j v hj => ?_⟩
      have h1 := hc j v hj
      have hb : b ≠ g := ho hz _ rfl
      exact (World.cell?_of_block (w := w) (a := ⟨b, off + j, none⟩) (Below.heap_setCell w ⟨g, i, none⟩ u b hb)).trans h1
theorem OutOf.old {w : World} {g : Nat} {zs : List Int} {q : Option Addr} (h : At w q (zs.map v8)) (hg : w.heap.size ≤ g) : OutOf g zs q := by
  intro hz a ha e
  rcases h with h | ⟨b, off, rfl, hc⟩
  · exact hz (by simpa using h)
  · cases ha
    cases zs with
    | nil => exact hz rfl
    | cons z zs =>
      have := World.block_lt_of_cell? w _ (hc 0 (v8 z) rfl)
      simp only at e this
      omega
theorem Shp.Good.setOut {w : World} {g i : Nat} {u : Value} {x : V} {q : Option Addr} {c : Nat} (h : S.Good w x q c) (ho : OutOf g (S.byt x) q) : S.Good (w.setCell ⟨g, i, none⟩ u) x q c := ⟨h.ok, h.at_.setOut ho, h.le, h.max, h.nil⟩
theorem flat_cell {w : World} {g : Nat} {ys : List (Hd V)} {rest : List Value} {t : TypeId} (h : Blk w g (ys.flatMap S.row ++ rest) t) (hok : ∀ y ∈ ys, S.ok y.1) (k : Nat) (hk : k < ys.length) : w.rangeAt g (k * S.n) (S.row ys[k]) := fun j v hj => by
  rw [h.cell]
  have hlt := (List.getElem?_eq_some_iff.1 (Shp.flat_get ys hok k hk j v hj)).1
  rw [List.getElem?_append_left hlt]
  exact Shp.flat_get ys hok k hk j v hj
theorem At.ofBlk {w : World} {g : Nat} {xs rest : List Value} {t : TypeId} (h : Blk w g (xs ++ rest) t) : At w (some ⟨g, 0, none⟩) xs := by
  refine Or.inr ⟨g, 0, rfl, fun i v hi => ?_⟩
  rw [Nat.zero_add, h.cell, List.getElem?_append_left (List.getElem?_eq_some_iff.1 hi).1]
  exact hi
end
section
set_option linter.unusedSimpArgs false
set_option linter.unusedVariables false
open Go.RowKit Sha Nte
open Fld (Itm)
theorem nat_cells (w : World) (cs : List Value) (t : TypeId) (fr : Nat × Nat) : At (w.alloc (.cells cs.toArray t fr)) (some ⟨w.heap.size, 0, none⟩) cs := by
  refine Or.inr ⟨_, 0, rfl, fun i v hi => ?_⟩
  rw [Nat.zero_add, cell_of_row _ _ i _ t fr (heap_alloc_new w _)]
  simpa using hi
theorem nown_at {w : World} {B n size : Nat} {e : TypeId} {v : Value} {xs : List Value} (h : w.ownsRow B e size v n xs) : ∃ p cap, v = .slice p n cap ∧ n ≤ cap ∧ cap ≤ maxLen ∧ At w p xs ∧ xs.length = n * size ∧ (p = none → cap = 0) := by
  rcases h.2 with ⟨hv, h0⟩ | ⟨g, cap, cur, hv, hg, hh, h1, h2, h3, h4⟩
  · refine ⟨none, 0, by rw [hv, h0], by omega, by unfold maxLen; omega, Or.inl ?_, h.1, fun _ => rfl⟩
    have := h.1
    rw [h0] at this
    exact List.eq_nil_of_length_eq_zero (by simpa using this)
  · refine ⟨_, cap, hv, h1, h2, Or.inr ⟨g, 0, rfl, fun i u hu => ?_⟩, h.1, (fun h => by cases h)⟩
    have := h.cells (g := g) (by rw [hv]; rfl) i u hu
    rwa [Addr.add_mid] at this
theorem nrow_below {w w' : World} {B n size : Nat} {e : TypeId} {v : Value} {xs : List Value} (h : w.ownsRow B e size v n xs) (hb : Below w.heap.size w w') : w'.ownsRow B e size v n xs :=
  row_carry h fun k c fz hk hh => (hb.block k (Array.getElem?_eq_some_iff.1 hh).1).trans hh
/-- What a call that writes to rows of one type alone, from a block on, leaves. -/
structure Stays (t : TypeId) (B : Nat) (w w' : World) : Prop where
  bel : ∀ a, Below B a w → Below B a w'
  size : w.heap.size ≤ w'.heap.size
  keep : ∀ (k : Nat) (o : Obj), w.heap[k]? = some o → (∀ cs fz, o ≠ Obj.cells cs t fz) → w'.heap[k]? = some o
namespace Stays
variable {t : TypeId} {B : Nat} {w w' w'' : World}
theorem refl (t : TypeId) (B : Nat) (w : World) : Stays t B w w := ⟨fun _ h => h, Nat.le_refl _, fun _ _ h _ => h⟩
theorem trans (h : Stays t B w w') (k : Stays t B w' w'') : Stays t B w w'' := ⟨fun a h1 => k.bel a (h.bel a h1), Nat.le_trans h.size k.size, fun i o h1 h2 => k.keep i o (h.keep i o h1 h2) h2⟩
theorem below (h : Below w.heap.size w w') (hB : B ≤ w.heap.size) : Stays t B w w' := ⟨fun a h1 => h1.trans (h.mono hB), h.size, fun k o h1 _ => (h.block k (Array.getElem?_eq_some_iff.1 h1).1).trans h1⟩
theorem grown {v : Value} {n size : Nat} {xs : List Value} (ho : w.ownsRow B t size v n xs) (hg : w.grownBy w' v.ownBlock) (hB : B ≤ w.heap.size) : Stays t B w w' :=
  ⟨fun a h1 => h1.grown hg hB (fun k e => row_base ho k e), hg.size, fun k o h1 h2 => (hg.block k (Array.getElem?_eq_some_iff.1 h1).1 (fun e => by
    obtain ⟨c, fz, hh⟩ := row_kind ho k e.symm
    rw [h1] at hh; exact h2 _ _ (Option.some.inj hh))).trans h1⟩
theorem blk (h : Stays t B w w') {g : Nat} {cs : List Value} {e : TypeId} (hb : Blk w g cs e) (he : e ≠ t) : Blk w' g cs e := h.keep g _ hb (fun cs' fz e' => by injection e' with _ h2; exact he h2)
theorem iter (h : Stays t B w w') {g : Nat} {s : ByteArray} {p : Nat} (hb : w.heap[g]? = some (.stringIter s p)) : w'.heap[g]? = some (.stringIter s p) := h.keep g _ hb (fun _ _ e => by cases e)
end Stays
/-! ### Items -/
def nNh (n : Int) : Hdr := (iN n, none, 0)
def nDh (D : List Int) : Hdr := (iD D, none, 0)
theorem nitem_zsize : (Value.agg (icells ⟨0, [], Fld.zero32⟩ none 0).toArray).cells.size = 34 := by
  unfold icells; rfl
theorem execOp_nmakeItem (ρ : Operand → Value) (dst : Option Tmp) (parts : Array (Nat × Operand)) (ty : TypeId) (pos : String) (after : Array Edge) (guard : Option (Nat × Bool)) :
    execOp ρ { dst := dst, op := .build 98 parts, type := ty, pos := pos, after := after, guard := guard } = makeOp 98 (parts.map fun (i, x) => (i, ρ x)) := by unfold makeOp; rfl
theorem nitem_bN (n : Int) : Try.prog.built 98 [(0, .int .i64 n)] = some (icells (iN n) none 0).toArray := by unfold icells; kernel_rfl
theorem nitem_bB (b : List Int) (q : Option Addr) (n c : Nat) (hn : n = b.length) : Try.prog.built 98 [(1, .slice q n c)] = some (icells (iB b) q c).toArray := by subst hn; unfold icells; kernel_rfl
theorem nlen32 {α : Type} (l : List α) (h : l.length = 32) : ∃ a0 a1 a2 a3 a4 a5 a6 a7 a8 a9 a10 a11 a12 a13 a14 a15 a16 a17 a18 a19 a20 a21 a22 a23 a24 a25 a26 a27 a28 a29 a30 a31, l = [a0, a1, a2, a3, a4, a5, a6, a7, a8, a9, a10, a11, a12, a13, a14, a15, a16, a17, a18, a19, a20, a21, a22, a23, a24, a25, a26, a27, a28, a29, a30, a31] := by
  obtain ⟨a0, l, rfl⟩ := List.exists_cons_of_length_eq_add_one h
  replace h := Nat.succ.inj h
  obtain ⟨a1, l, rfl⟩ := List.exists_cons_of_length_eq_add_one h
  replace h := Nat.succ.inj h
  obtain ⟨a2, l, rfl⟩ := List.exists_cons_of_length_eq_add_one h
  replace h := Nat.succ.inj h
  obtain ⟨a3, l, rfl⟩ := List.exists_cons_of_length_eq_add_one h
  replace h := Nat.succ.inj h
  obtain ⟨a4, l, rfl⟩ := List.exists_cons_of_length_eq_add_one h
  replace h := Nat.succ.inj h
  obtain ⟨a5, l, rfl⟩ := List.exists_cons_of_length_eq_add_one h
  replace h := Nat.succ.inj h
  obtain ⟨a6, l, rfl⟩ := List.exists_cons_of_length_eq_add_one h
  replace h := Nat.succ.inj h
  obtain ⟨a7, l, rfl⟩ := List.exists_cons_of_length_eq_add_one h
  replace h := Nat.succ.inj h
  obtain ⟨a8, l, rfl⟩ := List.exists_cons_of_length_eq_add_one h
  replace h := Nat.succ.inj h
  obtain ⟨a9, l, rfl⟩ := List.exists_cons_of_length_eq_add_one h
  replace h := Nat.succ.inj h
  obtain ⟨a10, l, rfl⟩ := List.exists_cons_of_length_eq_add_one h
  replace h := Nat.succ.inj h
  obtain ⟨a11, l, rfl⟩ := List.exists_cons_of_length_eq_add_one h
  replace h := Nat.succ.inj h
  obtain ⟨a12, l, rfl⟩ := List.exists_cons_of_length_eq_add_one h
  replace h := Nat.succ.inj h
  obtain ⟨a13, l, rfl⟩ := List.exists_cons_of_length_eq_add_one h
  replace h := Nat.succ.inj h
  obtain ⟨a14, l, rfl⟩ := List.exists_cons_of_length_eq_add_one h
  replace h := Nat.succ.inj h
  obtain ⟨a15, l, rfl⟩ := List.exists_cons_of_length_eq_add_one h
  replace h := Nat.succ.inj h
  obtain ⟨a16, l, rfl⟩ := List.exists_cons_of_length_eq_add_one h
  replace h := Nat.succ.inj h
  obtain ⟨a17, l, rfl⟩ := List.exists_cons_of_length_eq_add_one h
  replace h := Nat.succ.inj h
  obtain ⟨a18, l, rfl⟩ := List.exists_cons_of_length_eq_add_one h
  replace h := Nat.succ.inj h
  obtain ⟨a19, l, rfl⟩ := List.exists_cons_of_length_eq_add_one h
  replace h := Nat.succ.inj h
  obtain ⟨a20, l, rfl⟩ := List.exists_cons_of_length_eq_add_one h
  replace h := Nat.succ.inj h
  obtain ⟨a21, l, rfl⟩ := List.exists_cons_of_length_eq_add_one h
  replace h := Nat.succ.inj h
  obtain ⟨a22, l, rfl⟩ := List.exists_cons_of_length_eq_add_one h
  replace h := Nat.succ.inj h
  obtain ⟨a23, l, rfl⟩ := List.exists_cons_of_length_eq_add_one h
  replace h := Nat.succ.inj h
  obtain ⟨a24, l, rfl⟩ := List.exists_cons_of_length_eq_add_one h
  replace h := Nat.succ.inj h
  obtain ⟨a25, l, rfl⟩ := List.exists_cons_of_length_eq_add_one h
  replace h := Nat.succ.inj h
  obtain ⟨a26, l, rfl⟩ := List.exists_cons_of_length_eq_add_one h
  replace h := Nat.succ.inj h
  obtain ⟨a27, l, rfl⟩ := List.exists_cons_of_length_eq_add_one h
  replace h := Nat.succ.inj h
  obtain ⟨a28, l, rfl⟩ := List.exists_cons_of_length_eq_add_one h
  replace h := Nat.succ.inj h
  obtain ⟨a29, l, rfl⟩ := List.exists_cons_of_length_eq_add_one h
  replace h := Nat.succ.inj h
  obtain ⟨a30, l, rfl⟩ := List.exists_cons_of_length_eq_add_one h
  replace h := Nat.succ.inj h
  obtain ⟨a31, l, rfl⟩ := List.exists_cons_of_length_eq_add_one h
  replace h := Nat.succ.inj h
  have h0 := List.eq_nil_of_length_eq_zero h
  subst h0
  exact ⟨_, _, _, _, _, _, _, _, _, _, _, _, _, _, _, _, _, _, _, _, _, _, _, _, _, _, _, _, _, _, _, _, rfl⟩
theorem nitem_bD (D : List Int) (h : D.length = 32) : Try.prog.built 98 [(2, .agg (D.map v8).toArray)] = some (icells (iD D) none 0).toArray := by
  obtain ⟨a0, a1, a2, a3, a4, a5, a6, a7, a8, a9, a10, a11, a12, a13, a14, a15, a16, a17, a18, a19, a20, a21, a22, a23, a24, a25, a26, a27, a28, a29, a30, a31, rfl⟩ := nlen32 D h
  unfold icells
  kernel_rfl
theorem nmake_iN (n : Int) (w : World) : (makeOp 98 #[(0, .int .i64 n)]).run Try.prog w = .ok (.value (.agg (icells (iN n) none 0).toArray)) w := run_makeOp w (nitem_bN n)
theorem nmake_iB (b : List Int) (q : Option Addr) (n c : Nat) (hn : n = b.length) (w : World) : (makeOp 98 #[(1, .slice q n c)]).run Try.prog w = .ok (.value (.agg (icells (iB b) q c).toArray)) w := run_makeOp w (nitem_bB b q n c hn)
theorem nmake_iD (D : List Int) (h : D.length = 32) (w : World) : (makeOp 98 #[(2, .agg (D.map v8).toArray)]).run Try.prog w = .ok (.value (.agg (icells (iD D) none 0).toArray)) w := run_makeOp w (nitem_bD D h)
theorem nz32_ok : (∀ n ∈ Fld.zero32, 0 ≤ n ∧ n ≤ 255) ∧ Fld.zero32.length = 32 := ⟨by intro n hn; unfold Fld.zero32 at hn; have := (List.mem_replicate.1 hn).2; omega, Fld.zero32_length⟩
theorem niN_good (w : World) {n : Int} (h : fit n) : GoodI w (iN n) none 0 := ⟨iN_ok h, At.nil _ _, by simp [iN], by omega, fun _ => rfl⟩
theorem niD_good (w : World) {D : List Int} (h : ∀ n ∈ D, 0 ≤ n ∧ n ≤ 255) (hl : D.length = 32) : GoodI w (iD D) none 0 := ⟨iD_ok h hl, At.nil _ _, by simp [iD], by omega, fun _ => rfl⟩
theorem niB_good {w : World} {x : Not} {h : NHd} (g : NGood w x h) : GoodI w (iB x.X) h.q h.c := ⟨iB_ok g.ok.X, g.X, g.Xc, g.Xm, g.Xn⟩
/-- What a note has by a letter: items, and where their bytes lie. -/
def hdrs (x : Not) (h : NHd) (c : Int) : List Hdr := if c = 120 then [(iB x.X, h.q, h.c)] else (its x c).map fun i => (i, none, 0)
theorem hdrs_map (x : Not) (h : NHd) (c : Int) : (hdrs x h c).map (·.1) = its x c := by
  unfold hdrs
  split
  · rename_i e; subst e; simp [its]
  · rw [List.map_map]; exact List.map_id' _
theorem hdrs_good {w : World} {x : Not} {h : NHd} (g : NGood w x h) {c : Int} (hc : isT c) : ∀ y ∈ hdrs x h c, GoodI w y.1 y.2.1 y.2.2 := by
  have n0 : fit (yes x.Y) := by unfold yes fit; split <;> omega
  have gB := niB_good g
  have gD := niD_good w g.ok.D g.ok.len
  intro y hy
  rcases hc with rfl | rfl | rfl | rfl | rfl | rfl | rfl | rfl | rfl | rfl <;> simp [hdrs, its] at hy
  · rcases hy with rfl | rfl | rfl
    · exact niN_good w g.ok.C.1
    · exact niN_good w g.ok.C.2.1
    · exact niN_good w g.ok.C.2.2
  · rcases hy with rfl | rfl
    · exact niN_good w g.ok.B.1
    · exact niN_good w g.ok.B.2
  · rcases hy with rfl | rfl
    · exact niN_good w g.ok.O.1
    · exact niN_good w g.ok.O.2
  · rw [hy]; exact gD
  · rw [hy]; exact gB
  · rcases hy with rfl | ⟨i, ⟨d, hd, rfl⟩, rfl⟩
    · exact niN_good w ⟨by omega, by have := g.ok.Il; omega⟩
    · exact niD_good w (g.ok.I d hd).1 (g.ok.I d hd).2
  · rcases hy with rfl | ⟨i, ⟨m, hm, hi⟩, rfl⟩
    · exact niN_good w ⟨by omega, by have := g.ok.Wl; omega⟩
    · have hm := g.ok.W m hm
      unfold w3 at hi
      simp at hi
      rcases hi with rfl | rfl | rfl
      · exact niN_good w hm.i
      · exact niN_good w hm.s
      · exact niN_good w hm.n
  · rw [hy]; exact niN_good w g.ok.S
  · rw [hy]; exact niN_good w g.ok.H
  · rw [hy]; exact niN_good w n0
theorem item_ne_int : (3 : TypeId) ≠ 98 := by decide
/-- What a call that adds items to others leaves. -/
def PWith (B : Nat) (ys zs : List Hdr) (w : World) (e : Ending) (w' : World) : Prop :=
  ∃ v', e = .returned v' ∧ w'.ownsRow B 98 34 v' (ys.length + zs.length) ((ys ++ zs).flatMap cellsI) ∧ Stays 98 B w w'
section
attribute [local go_sem ↓] execOp_nmakeItem execOp_buildItems
set_option maxRecDepth 100000 in
set_option maxHeartbeats 2000000 in
theorem wnums_any (B : Nat) (ys : List Hdr) (v : Value) (ns : List Int) (k : Nat) (hk : k = ns.length) (gn : Nat) (w : World) (hf : ∀ n ∈ ns, fit n) (hv : w.ownsRow B 98 34 v ys.length (ys.flatMap cellsI)) (hn : Blk w gn (ns.map nic) 3) (hB : B ≤ w.heap.size) (hle : ys.length ≤ 100000) (hk3 : k ≤ 3) :
    Calls Try.prog 67 #[v, .slice (some ⟨gn, 0, none⟩) k k] w (PWith B ys (ns.map nNh) w) := by
  have HF := Lib.hid hf
  have HV := Lib.hid hv
  have HN := Lib.hid hn
  have HB := Lib.hid hB
  have HK := Lib.hid hk
  clear hf hv hn hB hk
  go_enter Try.func67, Try.ntmps67
  go_wp2_with fail
  go_loopw [0, 9] (fun vv i wr => ∃ (j : Nat) (u : Value), u = vv ∧ i = .int .i64 j ∧ j ≤ k ∧ Hid (wr.ownsRow B 98 34 u (ys.length + j) ((ys ++ (ns.take j).map nNh).flatMap cellsI)) ∧ Hid (Stays 98 B w wr)) (fun _ i _ => k - (intOf i).toNat)
  case atStart => exact ⟨0, v, rfl, rfl, by omega, Lib.hid (by simpa using HV.out), Lib.hid (Stays.refl _ _ _)⟩
  case round =>
    obtain ⟨j, u, rfl, rfl, hj, HO, HS⟩ := hrel
    clear HV
    by_cases hlt : j < k
    · have hjn : j < ns.length := by rw [← HK.out]; exact hlt
      have HNr := Lib.hid (HS.out.blk HN.out item_ne_int)
      have cj : wr.cell? ⟨gn, j, none⟩ = some (nic ns[j]) := by rw [HNr.out.cell]; simp [hjn]
      have HTK := Lib.hid (show (ns.take (j + 1)).map nNh = (ns.take j).map nNh ++ [nNh ns[j]] from by
        rw [List.take_succ_eq_append_getElem hjn, List.map_append]; rfl)
      have hfj := HF.out _ (List.getElem_mem hjn)
      have HBr := Lib.hid (Nat.le_trans HB.out HS.out.size)
      generalize ns[j] = m at *
      have mk := fun w => nmake_iN m w
      have yok : (iN m : Itm).ok := iN_ok hfj
      have bi := build_item wr (q := none) (c := 0) yok
      have HL := Lib.hid (icells_length yok none 0)
      have HA := Lib.hid (nat_cells wr (icells (iN m) none 0) 98 (0, 0))
      have HO2 := Lib.hid (HO.out.alloc (.cells (icells (iN m) none 0).toArray 98))
      have HS2 := Lib.hid (HS.out.trans (Stays.below (t := 98) ((Below.refl _ wr).alloc (Nat.le_refl _) (.cells (icells (iN m) none 0).toArray 98)) HBr.out))
      have HB2 := Lib.hid (show B ≤ (wr.alloc (.cells (icells (iN m) none 0).toArray 98)).heap.size from by have := HBr.out; simp; omega)
      clear hfj yok hjn HO HS HNr
      go_wp2_with (at_builtin; refine wpList_app_s rfl (.tmp 13) (.tmp 16) 55 rfl B 98 (size := 34) (by omega) Try.underlying55 item_all3 nitem_zsize u (ys.length + j) _ rfl HO2.out (some ⟨wr.heap.size, 0, none⟩) 1 1 (icells (iN m) none 0) rfl HA.out (by rw [HL.out]) (fun h => by cases h) (Nat.le_refl _) (icells_one _ _ _) (by omega) (by unfold maxLen; omega) HB2.out ?_; intro v8' w8 hown8 hgr8 hat8)
      have HS8 := Lib.hid (HS2.out.trans (Stays.grown HO2.out hgr8 HB2.out))
      have HO8 := Lib.hid (show w8.ownsRow B 98 34 v8' (ys.length + (j + 1)) ((ys ++ (ns.take (j + 1)).map nNh).flatMap cellsI) from by
        rw [HTK.out, ← List.append_assoc, List.flatMap_append, List.flatMap_singleton]; exact hown8)
      clear hown8 hgr8 hat8 HO2 HS2 HB2 HA HL HTK
      go_wp2_with fail
      go_roundw
      case rel => exact ⟨j + 1, _, rfl, by go_num, by omega, HO8, HS8⟩
      case measure => simp [intOf]; omega
    · obtain rfl : j = k := by omega
      have HTL := Lib.hid (show ns.take j = ns from List.take_of_length_le (by rw [← HK.out]; exact Nat.le_refl _))
      go_wp2_with fail
      go_ret
      refine ⟨_, rfl, ?_, HS.out⟩
      have := HO.out
      rw [HTL.out] at this
      rw [List.length_map, ← HK.out]
      exact this
end
set_option maxHeartbeats 1000000 in
theorem wtruth_any (b : Bool) (w : World) : Calls Try.prog 74 #[.bool b] w fun e w' => e = .returned (.int .i64 (yes b)) ∧ w = w' := by
  cases b with
  | false =>
    go_enter Try.func74, Try.ntmps74
    go_wp2_with fail
    go_ret
    exact ⟨rfl, rfl⟩
  | true =>
    go_enter Try.func74, Try.ntmps74
    go_wp2_with fail
    go_ret
    exact ⟨rfl, rfl⟩
end
end Go.Proofs.Yteepaoklibflpaa
