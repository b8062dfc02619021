/-
  A slice of numbers (int) of the call's own, whose spare room holds numbers too: append keeps it so.
  The kit's calls on lists of numbers: compared, written over.
  Texts in memory; the kit's comparison of lists of texts.
  The law package's same, texts, opens, fine, begins: records compared, made, told.
-/
import Derived.Test.YthopfpfmliookaaJp6
import Derived.Test.YthopfpfmliookaaRows
import Derived.Test.YthopfpfmliookaaJp1
import Derived.WalkSpells
import Derived.IntWalk
import Derived.WalkLawsBesides
import Derived.Test.YthopfpfmliookaaJp8
import Derived.BigQuiet
import Derived.Deep.QuietTactic
namespace Go.Proofs.Ythopfpfmliookaa
section
set_option linter.unusedSimpArgs false
set_option linter.unusedVariables false
/-- What lies in a slice's block are numbers, behind its length too. -/
def Ints64 (w : World) (v : Value) : Prop := ∀ g, v.ownBlock = some g → ∀ (j : Nat) u, w.cell? ⟨g, j, none⟩ = some u → ∃ n, u = .int .i64 n
structure Own64 (w : World) (B : Nat) (e : TypeId) (v : Value) (n : Nat) (xs : List Value) : Prop where
  row : w.ownsRow B e 1 v n xs
  ints : Ints64 w v
theorem Ints64.nil (w : World) : Ints64 w (.slice none 0 0) := fun g h => by cases h
theorem Own64.nil (w : World) (B : Nat) (e : TypeId) : Own64 w B e (.slice none 0 0) 0 [] := ⟨World.ownsRow_nil _ _ _ _, Ints64.nil _⟩
theorem Ints64.carry {w w' : World} {v : Value} (h : Ints64 w v) (hc : ∀ g, v.ownBlock = some g → w'.heap[g]? = w.heap[g]?) : Ints64 w' v := fun g hg j u hu => h g hg j u (by rw [← hu]; exact (World.cell?_of_block (hc g hg)).symm)
theorem Own64.alloc {w : World} {B n : Nat} {e : TypeId} {v : Value} {xs : List Value} (h : Own64 w B e v n xs) (o : Obj) : Own64 (w.alloc o) B e v n xs :=
  ⟨h.row.alloc o, h.ints.carry fun g hg => (World.grownBy_alloc w o none).block g (h.row.lt g hg).2 (by simp)⟩
theorem ints64_block {w : World} {g n c : Nat} {cur : Array Value} {e : TypeId} {fr : Nat × Nat} (hh : w.heap[g]? = some (.cells cur e fr)) (h : ∀ u ∈ cur.toList, ∃ n, u = Value.int .i64 n) : Ints64 w (.slice (some ⟨g, 0, none⟩) n c) := by
  intro g' hg j u hu
  cases hg
  rw [cell_of_row w g j cur e fr hh] at hu
  exact h u (by rw [Array.mem_toList_iff]; exact Array.mem_of_getElem? hu)
theorem ints64_zero (k : Nat) : ∀ u ∈ (Builtin.zeroCells (Value.cells (.int .i64 0)) k).toList, ∃ n, u = Value.int .i64 n := by
  intro u hu
  rw [Array.mem_toList_iff] at hu
  obtain ⟨i, hi, rfl⟩ := Array.mem_iff_getElem.1 hu
  have h0 : i % 1 = 0 := by omega
  exact ⟨0, by simp [Builtin.zeroCells, Value.cells, h0]⟩
theorem ints64_row {w : World} {g : Nat} {cur : Array Value} {e : TypeId} {fr : Nat × Nat} {n c : Nat} (h : Ints64 w (.slice (some ⟨g, 0, none⟩) n c)) (hh : w.heap[g]? = some (.cells cur e fr)) : ∀ u ∈ cur.toList, ∃ n, u = Value.int .i64 n := by
  intro u hu
  rw [Array.mem_toList_iff] at hu
  obtain ⟨i, hi⟩ := Array.mem_iff_getElem?.1 hu
  exact h g rfl i u (by rw [cell_of_row w g i cur e fr hh]; exact hi)
section
variable {P : Program} {ops : Array Oper} {rest : List Oper} {o : Oper} {a : Act} {w : World} {Q : Exit → Act → World → Prop} {K : Act → World → Prop} {E : Prop}
theorem run_app64 (w : World) (B : Nat) (t ty e : TypeId) (i : TypeInfo) (by_ : Nat) (ht : P.underlying t = some (.slice e)) (hi : P.info? e = some i) (hz : i.zero = some (.int .i64 0)) (h1s : i.size = 1) (hby : i.bytes = by_)
    (v : Value) (n : Nat) (xs : List Value) (hown : Own64 w B e v n xs)
    (ad : Addr) (m c : Nat) (news : List Value) (hl : news.length = m) (hnews : ∀ j u, news[j]? = some u → w.cell? (ad.add j) = some u) (h1 : ∀ u ∈ news, ∃ n, u = Value.int .i64 n)
    (hmax : n + m ≤ maxLen) (hbytes : (n + m) * by_ ≤ 140737488355328) (hB : B ≤ w.heap.size) :
    ∃ v' w', (Builtin.append_ #[t, t] ty #[v, .slice (some ad) m c]).run P w = .ok v' w' ∧ Own64 w' B e v' (n + m) (xs ++ news) ∧ w.grownBy w' v.ownBlock := by
  have hone : ∀ u ∈ news, u.oneCell' = true := fun u hu => by obtain ⟨k, rfl⟩ := h1 u hu; rfl
  obtain ⟨v', w', hr, h2, h3, _⟩ := run_append_own (P := P) w B t ty e i (.int .i64 0) 1 by_ ht hi hz h1s hby rfl (by decide) v n xs hown.row ad m c news (by omega) hnews hone hmax hbytes hB
  refine ⟨v', w', hr, ⟨h2, ?_⟩, h3⟩
  have hsmall : n + m ≤ 9223372036854775807 := by simp only [maxLen] at hmax; omega
  subst hby
  rcases hown.row.2 with ⟨rfl, rfl⟩ | ⟨g, cap, cur, rfl, hbg, hg, hnc, hcm, hcs, htake⟩
  · by_cases hm : m = 0
    · subst hm
      have hn : news = [] := List.eq_nil_of_length_eq_zero hl
      subst hn
      have hr' : (Builtin.append_ #[t, t] ty #[.slice none 0 0, .slice (some ad) 0 c]).run P w = .ok (.slice none 0 0) w := by
        simp [Builtin.append_, run_underlying ht, sizeOf, typeInfo, hi, Builtin.lenOf, Builtin.firstCells, loadCells, loadCellsFrom]
      rw [hr'] at hr
      cases hr
      exact Ints64.nil _
    · have hr' := run_append_nil (P := P) w t ty e i (.int .i64 0) ht hi hz ad m c news (by rw [h1s]; omega) hnews (by omega) (by omega) (by have hb := hbytes; simp only [Nat.zero_add] at hb; omega)
      rw [hr'] at hr
      cases hr
      refine ints64_block (heap_alloc_new w.drew _) fun u hu => ?_
      rw [Array.toList_append, List.mem_append] at hu
      rcases hu with hu | hu
      · exact h1 u (by simpa using hu)
      · exact ints64_zero _ u hu
  · by_cases hroom : n + m ≤ cap
    · have hfit : n * i.size + news.length ≤ cur.size := by rw [h1s, hcs]; omega
      have hr' := run_append_room (P := P) w t ty e i ht hi g n cap cur hg ad m c news (by rw [h1s]; omega) hnews hone hroom hfit
      rw [hr'] at hr
      cases hr
      refine ints64_block (setRow_heap w g cur _ e _ hg) fun u hu => ?_
      have hi := ints64_row hown.ints hg
      simp only [List.mem_append] at hu
      rcases hu with (hu | hu) | hu
      · exact hi u (List.mem_of_mem_take hu)
      · exact h1 u hu
      · exact hi u (List.mem_of_mem_drop hu)
    · have holds : ∀ j u, xs[j]? = some u → w.cell? ((⟨g, 0, none⟩ : Addr).add j) = some u := hown.row.cells (g := g) rfl
      have hr' := run_append_grow (P := P) w t ty e i (.int .i64 0) ht hi hz ⟨g, 0, none⟩ n cap xs (by rw [h1s]; exact hown.row.1) holds ad m c news (by rw [h1s]; omega) hnews (by omega) (by omega) (growslice_fits (by omega) hbytes)
      rw [hr'] at hr
      cases hr
      refine ints64_block (heap_alloc_new w.drew _) fun u hu => ?_
      rw [Array.toList_append, Array.toList_append, List.mem_append, List.mem_append] at hu
      have hi := ints64_row hown.ints hg
      rcases hu with (hu | hu) | hu
      · exact hi u (by
          have : u ∈ xs := by simpa using hu
          rw [← htake] at this
          exact List.mem_of_mem_take this)
      · exact h1 u (by simpa using hu)
      · exact ints64_zero _ u hu
theorem wp_app64 (s x : Operand) (t : TypeId) (ho : o.op = .call { callee := .builtin .append, args := #[s, x], argTypes := #[t, t] })
    (B : Nat) (e : TypeId) {by_ : Nat} (ht : P.underlying t = some (.slice e)) (hi : (P.info? e).map (fun i => (i.zero, i.size, i.bytes)) = some (some (.int .i64 0), 1, by_))
    (v : Value) (n : Nat) (xs : List Value) (hs : a.eval s = v) (hown : Own64 w B e v n xs)
    (p : Option Addr) (m c : Nat) (news : List Value) (hx : a.eval x = .slice p m c) (hA : At w p news) (hl : news.length = m) (hn : p = none → c = 0) (hmc : m ≤ c) (h1 : ∀ u ∈ news, ∃ n, u = Value.int .i64 n)
    (hbytes : (n + m) * by_ ≤ 140737488355328) (hmax : n + m ≤ maxLen) (hB : B ≤ w.heap.size)
    (h : ∀ v' w', Own64 w' B e v' (n + m) (xs ++ news) → w.grownBy w' v.ownBlock → RowKit.Below B w w' → B ≤ w'.heap.size → K (a.put o.dst v') w') : o.wp P a w K Q := by
  obtain ⟨i, hi, hz0, hz1, hz2⟩ := info_parts hi
  have hblock : ∀ k, v.ownBlock = some k → B ≤ k := fun k hk => (hown.row.lt k hk).1
  cases p with
  | none =>
    have hc := hn rfl
    have hm : m = 0 := by omega
    subst hc hm
    have hnews : news = [] := List.eq_nil_of_length_eq_zero hl
    subst hnews
    have hrun := run_append_owned_none (P := P) (w := w) B t o.type e i 1 ht hi v n xs hown.row
    unfold Oper.wp
    simp [execOp, ho, resolve, invoke, builtin, hs, hx, hrun, Result.andThen]
    exact h v w (by simpa using hown) ⟨rfl, rfl, rfl, Nat.le_refl _, fun _ _ _ => rfl⟩ (RowKit.Below.refl _ _) hB
  | some ad =>
    obtain ⟨v', w', hr, h2, h3⟩ := run_app64 (P := P) w B t o.type e i by_ ht hi hz0 hz1 hz2 v n xs hown ad m c news hl (by
      intro j u hj
      rcases hA with hA | ⟨b, off, hA, hc⟩
      · subst hA; simp at hj
      · cases hA; rw [Addr.add_mid]; exact hc j u hj) h1 hmax hbytes hB
    unfold Oper.wp
    simp [execOp, ho, resolve, invoke, builtin, hs, hx, hr, Result.andThen]
    exact h v' w' h2 h3 ((RowKit.Below.refl B w).grown h3 hB hblock) (Nat.le_trans hB h3.size)
theorem wpList_app64 (hgd : o.guard = none) (s x : Operand) (t : TypeId) (ho : o.op = .call { callee := .builtin .append, args := #[s, x], argTypes := #[t, t] })
    (B : Nat) (e : TypeId) {by_ : Nat} (ht : P.underlying t = some (.slice e)) (hi : (P.info? e).map (fun i => (i.zero, i.size, i.bytes)) = some (some (.int .i64 0), 1, by_))
    (v : Value) (n : Nat) (xs : List Value) (hs : a.eval s = v) (hown : Own64 w B e v n xs)
    (p : Option Addr) (m c : Nat) (news : List Value) (hx : a.eval x = .slice p m c) (hA : At w p news) (hl : news.length = m) (hn : p = none → c = 0) (hmc : m ≤ c) (h1 : ∀ u ∈ news, ∃ n, u = Value.int .i64 n)
    (hbytes : (n + m) * by_ ≤ 140737488355328) (hmax : n + m ≤ maxLen) (hB : B ≤ w.heap.size)
    (h : ∀ v' w', Own64 w' B e v' (n + m) (xs ++ news) → w.grownBy w' v.ownBlock → RowKit.Below B w w' → B ≤ w'.heap.size → wpList P ops Q rest (a.put o.dst v') w') : wpList P ops Q (o :: rest) a w :=
  wpList_plain hgd fun _ hK => wp_app64 s x t ho B e ht hi v n xs hs hown p m c news hx hA hl hn hmc h1 hbytes hmax hB fun v' w' h1 h2 h3 h4 => hK _ _ (h v' w' h1 h2 h3 h4)
theorem step_app64 (hgd : o.guard = none) (s x : Operand) (t : TypeId) (ho : o.op = .call { callee := .builtin .append, args := #[s, x], argTypes := #[t, t] })
    (B : Nat) (e : TypeId) {by_ : Nat} (ht : P.underlying t = some (.slice e)) (hi : (P.info? e).map (fun i => (i.zero, i.size, i.bytes)) = some (some (.int .i64 0), 1, by_))
    (v : Value) (n : Nat) (xs : List Value) (hs : a.eval s = v) (hown : Own64 w B e v n xs)
    (p : Option Addr) (m c : Nat) (news : List Value) (hx : a.eval x = .slice p m c) (hA : At w p news) (hl : news.length = m) (hn : p = none → c = 0) (hmc : m ≤ c) (h1 : ∀ u ∈ news, ∃ n, u = Value.int .i64 n)
    (hbytes : (n + m) * by_ ≤ 140737488355328) (hmax : n + m ≤ maxLen) (hB : B ≤ w.heap.size)
    (h : ∀ v' w', Own64 w' B e v' (n + m) (xs ++ news) → w.grownBy w' v.ownBlock → RowKit.Below B w w' → B ≤ w'.heap.size → K (a.put o.dst v') w') :
    if Region.wanted o (yielded ops a.tmps) = true then Oper.wp P o a w K Q else E := by
  have hw : Region.wanted o (yielded ops a.tmps) = true := by simp [Region.wanted, hgd]
  rw [if_pos hw]
  exact wp_app64 s x t ho B e ht hi v n xs hs hown p m c news hx hA hl hn hmc h1 hbytes hmax hB h
end
theorem ints64_map (l : List Int) : ∀ u ∈ l.map (Value.int .i64), ∃ n, u = Value.int .i64 n := by
  intro u hu
  obtain ⟨n, _, rfl⟩ := List.mem_map.1 hu
  exact ⟨n, rfl⟩
end
section
set_option linter.unusedSimpArgs false
set_option linter.unusedVariables false
open Go.RowKit Sha
abbrev v64 (n : Int) : Value := .int .i64 n
theorem knum_info : (Try.prog.info? 3).map (fun i => (i.zero, i.size, i.bytes)) = some (some (.int .i64 0), 1, 8) := by kernel_rfl
theorem knum1 : (Try.prog.info? 3).map (fun i => i.size) = some 1 := by kernel_rfl
theorem kone64 (l : List Int) : ∀ u ∈ l.map v64, u.oneCell' = true := by simp [Value.oneCell']
/-- Numbers in memory. -/
structure GoodN (w : World) (xs : List Int) (p : Option Addr) (cap : Nat) : Prop where
  nums : ∀ n ∈ xs, -9223372036854775808 ≤ n ∧ n ≤ 9223372036854775807
  at_ : At w p (xs.map v64)
  le : xs.length ≤ cap
  max : cap ≤ 9223372036854775807
  nil : p = none → cap = 0
theorem GoodN.below {w w' : World} {xs : List Int} {p : Option Addr} {cap : Nat} (h : GoodN w xs p cap) (hb : Below w.heap.size w w') : GoodN w' xs p cap := ⟨h.nums, h.at_.below hb, h.le, h.max, h.nil⟩
theorem GoodN.carry {w w' : World} {xs : List Int} {p : Option Addr} {cap : Nat} (h : GoodN w xs p cap) (hc : ∀ p v, w.cell? p = some v → w'.cell? p = some v) : GoodN w' xs p cap := ⟨h.nums, h.at_.carry hc, h.le, h.max, h.nil⟩
theorem Own64.good {w : World} {B n : Nat} {e : TypeId} {v : Value} {xs : List Int} (h : Own64 w B e v n (xs.map v64)) (hb : ∀ n ∈ xs, -9223372036854775808 ≤ n ∧ n ≤ 9223372036854775807) : ∃ p cap, v = .slice p n cap ∧ xs.length = n ∧ GoodN w xs p cap := by
  obtain ⟨p, cap, hv, hl, hm, hA, hx, hn⟩ := own_at h.row
  rw [List.length_map] at hx
  exact ⟨p, cap, hv, hx, hb, hA, by rw [hx]; exact hl, by unfold maxLen at hm; omega, hn⟩
/-- A cut, where it is told besides that no address means no room. -/
theorem wpList_cut_nil {P : Program} {ops : Array Oper} {rest : List Oper} {o : Oper} {a : Act} {w : World} {Q : Exit → Act → World → Prop} (hgd : o.guard = none) (t : TypeId) (x : Operand) (lo hi : Option Operand) (ho : o.op = .slice t x lo hi none) (p : Option Addr) (l h cap : Nat)
    (hr : ∀ w, (Instr.sliceAt t (a.eval x) (lo.map a.eval) (hi.map a.eval) none).run P w = .ok (cutV p l h cap) w) (cs : List Value) (hA : At w p cs) (hc : cs.length ≤ cap) (hp : p = none → cap = 0)
    (hn : ∀ p', At w p' ((cs.take h).drop l) → (p' = none → cap - l = 0) → wpList P ops Q rest (a.put o.dst (.slice p' (h - l) (cap - l))) w) : wpList P ops Q (o :: rest) a w := by
  refine wpList_plain hgd fun K hK => ?_
  unfold Oper.wp execOp
  simp only [ho, Option.map_none, Sem.run_bind, hr, Result.andThen_ok, Sem.run_pure]
  refine hK _ _ (hn _ (hA.sub l h cap hc) fun e => ?_)
  split at e
  · omega
  · cases p with
    | none => have := hp rfl; omega
    | some a => cases e
def NumsDone (w0 : World) (xs : List Int) (w : World) (e : Ending) (w' : World) : Prop := ∃ v, e = .returned v ∧ Own64 w' w0.heap.size 3 v xs.length (xs.map v64) ∧ Below w0.heap.size w w'
theorem ntake_succ {xs ys : List Int} {k : Nat} (hx : k < xs.length) (hy : k < ys.length) (h : xs.take k = ys.take k) : (xs.take (k + 1) = ys.take (k + 1)) ↔ xs[k] = ys[k] := by
  rw [List.take_succ_eq_append_getElem hx, List.take_succ_eq_append_getElem hy, h]
  exact ⟨fun e => by have := List.append_cancel_left e; simpa using this, fun e => by rw [e]⟩
def SameDone (b : Bool) (w : World) (e : Ending) (w' : World) : Prop := e = .returned (.bool b) ∧ ∃ m, w' = w.drewN m
/-- A list of the call's own as a block: its numbers, its spare room. -/
theorem own64_blk {w : World} {B n : Nat} {e : TypeId} {v : Value} {xs : List Value} (h : Own64 w B e v n xs) (hn : 0 < n) : ∃ g cap rest, v = .slice (some ⟨g, 0, none⟩) n cap ∧ B ≤ g ∧ n ≤ cap ∧ cap ≤ maxLen ∧ n + rest.length = cap ∧ Blk w g (xs ++ rest) e ∧ ∀ u ∈ xs ++ rest, ∃ m, u = Value.int .i64 m := by
  rcases h.row.2 with ⟨_, h0⟩ | ⟨g, cap, cur, rfl, hg, hh, h1, h2, h3, h4⟩
  · omega
  · refine ⟨g, cap, cur.toList.drop n, rfl, hg, h1, h2, by simp; omega, ?_, ?_⟩
    · rw [Nat.mul_one] at h4
      rw [← h4, List.take_append_drop]
      unfold Blk; simpa using hh
    · rw [Nat.mul_one] at h4
      rw [← h4, List.take_append_drop]
      exact ints64_row h.ints hh
theorem own64_of_blk {w : World} {B n g cap : Nat} {e : TypeId} {xs rest : List Value} (hb : Blk w g (xs ++ rest) e) (hB : B ≤ g) (hx : xs.length = n) (hr : n + rest.length = cap) (hm : cap ≤ maxLen) (hi : ∀ u ∈ xs ++ rest, ∃ m, u = Value.int .i64 m) : Own64 w B e (.slice (some ⟨g, 0, none⟩) n cap) n xs := by
  refine ⟨⟨by omega, .inr ⟨g, cap, (xs ++ rest).toArray, rfl, hB, hb, by omega, hm, by simp; omega, ?_⟩⟩, ints64_block hb (by simpa using hi)⟩
  rw [Nat.mul_one]
  simp [← hx]
theorem Blk.front64 {w : World} {g : Nat} {ys : List Int} {rest : List Value} {t : TypeId} (h : Blk w g (ys.map v64 ++ rest) t) (i : Nat) (hi : i < ys.length) (x : Int) : Blk (w.setCell ⟨g, i, none⟩ (v64 x)) g ((ys.set i x).map v64 ++ rest) t := by
  have h1 := h.set i (v64 x)
  rw [List.set_append_left _ _ (by simpa using hi)] at h1
  rwa [List.map_set]
theorem Blk.get64 {w : World} {g : Nat} {ys : List Int} {rest : List Value} {t : TypeId} (h : Blk w g (ys.map v64 ++ rest) t) (i : Nat) (hi : i < ys.length) : w.cell? ⟨g, i, none⟩ = some (v64 (ys.getD i 0)) := by
  rw [h.cell, List.getElem?_append_left (by simpa using hi), List.getElem?_map, List.getElem?_eq_getElem hi]
  simp [List.getD_eq_getElem?_getD, List.getElem?_eq_getElem hi]
end
section
set_option linter.unusedSimpArgs false
set_option linter.unusedVariables false
open Go.RowKit Sha
/-- Texts in memory. -/
structure GoodT (w : World) (xs : List ByteArray) (p : Option Addr) (cap : Nat) : Prop where
  at_ : At w p (xs.map Value.string)
  le : xs.length ≤ cap
  max : cap ≤ 9223372036854775807
  nil : p = none → cap = 0
theorem GoodT.below {w w' : World} {xs : List ByteArray} {p : Option Addr} {cap : Nat} (h : GoodT w xs p cap) (hb : Below w.heap.size w w') : GoodT w' xs p cap := ⟨h.at_.below hb, h.le, h.max, h.nil⟩
theorem GoodT.carry {w w' : World} {xs : List ByteArray} {p : Option Addr} {cap : Nat} (h : GoodT w xs p cap) (hc : ∀ p v, w.cell? p = some v → w'.cell? p = some v) : GoodT w' xs p cap := ⟨h.at_.carry hc, h.le, h.max, h.nil⟩
theorem text_eq (x y : ByteArray) : (x.toList == y.toList) = true ↔ x = y := by
  rw [beq_iff_eq, ByteArray.toList_eq, ByteArray.toList_eq]
  exact ⟨fun h => ByteArray.ext (Array.toList_inj.mp h), fun h => by rw [h]⟩
theorem text_ne (x y : ByteArray) : (x.toList == y.toList) = false ↔ x ≠ y := by rw [Ne, ← text_eq x y, Bool.not_eq_true]
theorem ttake_succ {xs ys : List ByteArray} {k : Nat} (hx : k < xs.length) (hy : k < ys.length) (h : xs.take k = ys.take k) : (xs.take (k + 1) = ys.take (k + 1)) ↔ xs[k] = ys[k] := by
  rw [List.take_succ_eq_append_getElem hx, List.take_succ_eq_append_getElem hy, h]
  exact ⟨fun e => by have := List.append_cancel_left e; simpa using this, fun e => by rw [e]⟩
def SameTDone (b : Bool) (w : World) (e : Ending) (w' : World) : Prop := e = .returned (.bool b) ∧ ∃ m, w' = w.drewN m
end
section
set_option linter.unusedSimpArgs false
set_option linter.unusedVariables false
open Go.RowKit Sha Dsk Jrn
theorem ltake_succJ {xs ys : List (List Int)} {k : Nat} (hx : k < xs.length) (hy : k < ys.length) (h : xs.take k = ys.take k) : (xs.take (k + 1) = ys.take (k + 1)) ↔ xs[k] = ys[k] := by
  rw [List.take_succ_eq_append_getElem hx, List.take_succ_eq_append_getElem hy, h]
  exact ⟨fun e => by have := List.append_cancel_left e; simpa using this, fun e => by rw [e]⟩
set_option maxRecDepth 100000 in
set_option maxHeartbeats 1000000 in
theorem recsSame_any (xs ys : List (List Int)) (p q : Option Addr) (n m c d : Nat) (w : World) (hx : Recs w p n c xs) (hy : Recs w q m d ys) :
    Calls Try.prog 17 #[.slice p n c, .slice q m d] w fun e w' => e = .returned (.bool (decide (xs = ys))) ∧ Below w.heap.size w w' := by
  have HX := Lib.hid hx
  have HY := Lib.hid hy
  have m1 := hx.max
  have c1 := hx.le
  have m2 := hy.max
  have c2 := hy.le
  clear hx hy
  by_cases hnm : n = m
  · subst hnm
    have HLL := Lib.hid (show xs.length = ys.length by rw [← HX.out.len, ← HY.out.len])
    go_enter Try.func17, Try.ntmps17
    go_wp2_with fail
    go_loopw [5] (fun i wr => ∃ k : Nat, k ≤ n ∧ i = .int .i64 k ∧ Hid (xs.take k = ys.take k) ∧ Hid (Below w.heap.size w wr)) (fun i _ => n - (intOf i).toNat)
    case atStart => exact ⟨0, by omega, rfl, Lib.hid (by simp), Below.refl _ _⟩
    case round =>
      obtain ⟨k, hk, rfl, HK, HB⟩ := hrel
      by_cases hlt : k < n
      · have hkx : k < xs.length := by rw [← HX.out.len]; exact hlt
        have hky : k < ys.length := by rw [← HY.out.len]; exact hlt
        obtain ⟨b1, o1, q1, d1, rfl, a1, g1⟩ := (HX.out.below HB.out).get k hkx
        obtain ⟨b2, o2, q2, d2, rfl, a2, g2⟩ := (HY.out.below HB.out).get k hky
        have HS := Lib.hid (ltake_succJ hkx hky HK.out)
        obtain ⟨x, hxx⟩ : ∃ x, x = xs[k] := ⟨_, rfl⟩
        obtain ⟨y, hyy⟩ : ∃ y, y = ys[k] := ⟨_, rfl⟩
        rw [← hxx] at a1 g1
        rw [← hyy] at a2 g2
        rw [← hxx, ← hyy] at HS
        have HNE := Lib.hid (show x ≠ y → xs ≠ ys from fun h e => h (by rw [hxx, hyy]; simp [e]))
        have G1 := Lib.hid g1
        have G2 := Lib.hid g2
        clear hxx hyy hkx hky g1 g2
        obtain ⟨bb, hbb⟩ : ∃ bb, bb = decide (x = y) := ⟨_, rfl⟩
        have QB := Lib.hid (fun nn => (same_any x y x.length y.length q1 q2 d1 d2 (wr.drewN nn) rfl rfl (G1.out.at_.carry fun _ _ h => h) (G2.out.at_.carry fun _ _ h => h) G1.out.bytes G2.out.bytes).mono (fun e w' h => show e = .returned (.bool bb) ∧ w' = wr.drewN nn from ⟨by rw [hbb]; exact h.1, h.2.symm⟩))
        generalize x.length = lx at *
        generalize y.length = ly at *
        cases bb with
        | true =>
          have hxy : x = y := of_decide_eq_true hbb.symm
          have HT := Lib.hid (HS.out.2 hxy)
          clear hbb hxy HS HNE
          go_wp2_with fail
          go_quiet (first | (go_at_call 41; refine Calls.quiet_of_same (QB.out _)))
          have HB2 := Lib.hid (below_drewN HB.out nq)
          generalize wr.drewN nq = wq at *
          go_wp2_with fail
          go_roundw
          case rel => exact ⟨k + 1, by omega, by go_num, HT, HB2⟩
          case measure => simp [intOf]; omega
        | false =>
          have hxy : x ≠ y := of_decide_eq_false hbb.symm
          have HF := Lib.hid (decide_eq_false (HNE.out hxy))
          clear hbb hxy HS HNE
          go_wp2_with fail
          go_quiet (first | (go_at_call 41; refine Calls.quiet_of_same (QB.out _)))
          have HB2 := Lib.hid (below_drewN HB.out nq)
          generalize wr.drewN nq = wq at *
          go_wp2_with fail
          go_ret
          exact ⟨by rw [HF.out]; rfl, HB2.out⟩
      · obtain rfl : k = n := by omega
        have hxy : xs = ys := by
          have h1 := HK.out
          rwa [List.take_of_length_le (by rw [← HX.out.len]; exact Nat.le_refl _), List.take_of_length_le (by rw [← HY.out.len]; exact Nat.le_refl _)] at h1
        have HF := Lib.hid (decide_eq_true hxy)
        clear hxy
        go_wp2_with fail
        go_ret
        exact ⟨by rw [HF.out]; rfl, HB.out⟩
  · have HF := Lib.hid (show decide (xs = ys) = false from decide_eq_false fun e => hnm (by rw [HX.out.len, HY.out.len, e]))
    have hnm' : ((n : Int) == (m : Int)) = false := by rw [beq_eq_false_iff_ne]; omega
    clear hnm
    go_enter Try.func17, Try.ntmps17
    go_wp2_with fail
    go_ret
    exact ⟨by rw [HF.out]; rfl, Below.refl _ _⟩
set_option maxRecDepth 100000 in
set_option maxHeartbeats 1000000 in
theorem texts_any (l : List ByteArray) (n : Nat) (p : Option Addr) (cap : Nat) (w : World) (hn : l.length = n) (hl : GoodT w l p cap) (hm : n ≤ 100) (hs : ∀ s ∈ l, s.size ≤ 1000) :
    Calls Try.prog 16 #[.slice p n cap] w fun e w' => ∃ v ys, e = .returned v ∧ RecsNew w.heap.size w' v ys ∧ ys.map (·.1) = l.map nums ∧ Below w.heap.size w w' := by
  have GL := Lib.hid hl
  have HN := Lib.hid hn
  have HS := Lib.hid hs
  have hc1 := hl.le
  have hc2 := hl.max
  rw [hn] at hc1
  clear hl hn hs
  go_enter Try.func16, Try.ntmps16
  go_wp2_with fail
  go_loopw [3, 4] (fun vv i wr => ∃ (k : Nat) (v : Value) (ys : List SHdr), i = .int .i64 k ∧ v = vv ∧ k ≤ n ∧ Hid (ys.length = k) ∧ Hid (ys.map (·.1) = (l.take k).map nums) ∧ Hid (RecsNew w.heap.size wr v ys) ∧ Hid (Below w.heap.size w wr)) (fun _ i _ => n - (intOf i).toNat)
  case atStart => exact ⟨0, _, [], rfl, rfl, by omega, Lib.hid rfl, Lib.hid (by simp), Lib.hid (RecsNew.nil _ _), Lib.hid (Below.refl _ _)⟩
  case round =>
    obtain ⟨k, v, ys, rfl, rfl, hk, HYL, HYS, HC, HB⟩ := hrel
    by_cases hlt : k < n
    · have hkl : k < l.length := by rw [HN.out]; exact hlt
      obtain ⟨g, off, rfl, hcell⟩ := (GL.out.below HB.out).at_.addr (by rw [List.length_map]; omega)
      have c1 : wr.cell? ⟨g, off + k, none⟩ = some (.string l[k]) := hcell k _ (by rw [List.getElem?_map, List.getElem?_eq_getElem hkl]; rfl)
      obtain ⟨s, hss⟩ : ∃ s, s = l[k] := ⟨_, rfl⟩
      have hsz : s.size ≤ 1000 := by rw [hss]; exact HS.out _ (List.getElem_mem hkl)
      have HTK := Lib.hid (show l.take (k + 1) = l.take k ++ [s] by rw [hss, List.take_succ_eq_append_getElem hkl])
      rw [← hss] at c1
      clear hcell hkl hss
      go_wp2_with (first
        | (refine wpList_textbytes rfl 9 22 5 (.tmp 15) rfl s rfl Try.underlying9 Try.underlying22 Try.underlying5 (by unfold maxLen; omega) ?_; intro c6 w6 hA6 hl6 hm6 hh6 hb6; have C6 := Lib.hid (HC.out.on hb6); have B6 := Lib.hid (HB.out.trans (hb6.mono HB.out.size)); have O6 := Lib.hid (show NewRec w.heap.size w6 (nums s, some ⟨wr.heap.size, 0, none⟩, c6) from ⟨⟨nums_bd s, hA6, by simp only; rw [nums_length]; exact hl6, by unfold maxLen at hm6; simp only; omega, fun h => by cases h⟩, fun a ha => by cases ha; exact ⟨HB.out.size, hh6⟩⟩); clear hA6 hh6 hb6; have tk1 : True := trivial)
        | (have _t := tk1; at_builtin; clear tk1 _t; refine wpList_app rfl (.tmp 11) (.tmp 17) 26 rfl w.heap.size 22 Try.underlying26 slice_info rfl v ys.length _ rfl (C6.out.own.alloc _) _ 1 1 [cellS (nums s, some ⟨wr.heap.size, 0, none⟩, c6)] rfl ?_ rfl (fun h => by cases h) (by omega) (by simp [cellS_one]) (by have := HYL.out; omega) (by have := HYL.out; unfold maxLen; omega) (by have := B6.out.size; simp; omega) ?_; (focus (have := at_one w6 (cellS (nums s, some ⟨wr.heap.size, 0, none⟩, c6)) 22; unfold cellS at this ⊢; simp only [nums_length] at this ⊢; exact this)); intro v8' w8 hown8 hg8 hb8 hs8 _; have C8 := Lib.hid (C6.out.snoc O6.out hg8 hown8); have B8 := Lib.hid ((B6.out.alloc B6.out.size _).trans hb8); clear hown8 hg8 hb8))
      go_roundw
      case rel => exact ⟨k + 1, _, ys ++ [(nums s, some ⟨wr.heap.size, 0, none⟩, c6)], by go_num, rfl, by omega, Lib.hid (by rw [List.length_append, HYL.out]; rfl), Lib.hid (by rw [List.map_append, HYS.out, HTK.out, List.map_append]; rfl), C8, B8⟩
      case measure => simp [intOf]; omega
    · obtain rfl : k = n := by omega
      have HE := Lib.hid (show ys.map (·.1) = l.map nums by rw [HYS.out, List.take_of_length_le (by rw [HN.out]; exact Nat.le_refl _)])
      go_wp2_with fail
      go_ret
      exact ⟨_, ys, rfl, HC.out, HE.out, HB.out⟩
end
end Go.Proofs.Ythopfpfmliookaa
