/-
  The kit's calls on lists of numbers: compared, written over.
-/
import Derived.Test.YtgohapbobbkaeaaOwn64
import Derived.Test.YtgohapbobbkaeaaRows
import Derived.Test.YtgohapbobbkaeaaSha
import Derived.WalkSpells
import Derived.IntWalk
import Derived.WalkLawsBesides
namespace Go.Proofs.Ytgohapbobbkaeaa
set_option linter.unusedSimpArgs false
set_option linter.unusedVariables false
open Go.RowKit Sha
abbrev v64 (n : Int) : Value := .int .i64 n
theorem knum_info : (Try.prog.info? 3).map (fun i => (i.zero, i.size, i.bytes)) = some (some (.int .i64 0), 1, 8) := by kernel_rfl
theorem knum1 : (Try.prog.info? 3).map (fun i => i.size) = some 1 := by kernel_rfl
theorem kone64 (l : List Int) : ∀ u ∈ l.map v64, u.oneCell' = true := by simp [Value.oneCell']
/-- Numbers in memory. -/
structure GoodN (w : World) (xs : List Int) (p : Option Addr) (cap : Nat) : Prop where
  nums : ∀ n ∈ xs, -9223372036854775808 ≤ n ∧ n ≤ 9223372036854775807
  at_ : At w p (xs.map v64)
  le : xs.length ≤ cap
  max : cap ≤ 9223372036854775807
  nil : p = none → cap = 0
theorem GoodN.below {w w' : World} {xs : List Int} {p : Option Addr} {cap : Nat} (h : GoodN w xs p cap) (hb : Below w.heap.size w w') : GoodN w' xs p cap := ⟨h.nums, h.at_.below hb, h.le, h.max, h.nil⟩
theorem GoodN.carry {w w' : World} {xs : List Int} {p : Option Addr} {cap : Nat} (h : GoodN w xs p cap) (hc : ∀ p v, w.cell? p = some v → w'.cell? p = some v) : GoodN w' xs p cap := ⟨h.nums, h.at_.carry hc, h.le, h.max, h.nil⟩
theorem Own64.good {w : World} {B n : Nat} {e : TypeId} {v : Value} {xs : List Int} (h : Own64 w B e v n (xs.map v64)) (hb : ∀ n ∈ xs, -9223372036854775808 ≤ n ∧ n ≤ 9223372036854775807) : ∃ p cap, v = .slice p n cap ∧ xs.length = n ∧ GoodN w xs p cap := by
  obtain ⟨p, cap, hv, hl, hm, hA, hx, hn⟩ := own_at h.row
  rw [List.length_map] at hx
  exact ⟨p, cap, hv, hx, hb, hA, by rw [hx]; exact hl, by unfold maxLen at hm; omega, hn⟩
/-- A cut, where it is told besides that no address means no room. -/
theorem wpList_cut_nil {P : Program} {ops : Array Oper} {rest : List Oper} {o : Oper} {a : Act} {w : World} {Q : Exit → Act → World → Prop} (hgd : o.guard = none) (t : TypeId) (x : Operand) (lo hi : Option Operand) (ho : o.op = .slice t x lo hi none) (p : Option Addr) (l h cap : Nat)
    (hr : ∀ w, (Instr.sliceAt t (a.eval x) (lo.map a.eval) (hi.map a.eval) none).run P w = .ok (cutV p l h cap) w) (cs : List Value) (hA : At w p cs) (hc : cs.length ≤ cap) (hp : p = none → cap = 0)
    (hn : ∀ p', At w p' ((cs.take h).drop l) → (p' = none → cap - l = 0) → wpList P ops Q rest (a.put o.dst (.slice p' (h - l) (cap - l))) w) : wpList P ops Q (o :: rest) a w := by
  refine wpList_plain hgd fun K hK => ?_
  unfold Oper.wp execOp
  simp only [ho, Option.map_none, Sem.run_bind, hr, Result.andThen_ok, Sem.run_pure]
  refine hK _ _ (hn _ (hA.sub l h cap hc) fun e => ?_)
  split at e
  · omega
  · cases p with
    | none => have := hp rfl; omega
    | some a => cases e
def NumsDone (w0 : World) (xs : List Int) (w : World) (e : Ending) (w' : World) : Prop := ∃ v, e = .returned v ∧ Own64 w' w0.heap.size 3 v xs.length (xs.map v64) ∧ Below w0.heap.size w w'
theorem ntake_succ {xs ys : List Int} {k : Nat} (hx : k < xs.length) (hy : k < ys.length) (h : xs.take k = ys.take k) : (xs.take (k + 1) = ys.take (k + 1)) ↔ xs[k] = ys[k] := by
  rw [List.take_succ_eq_append_getElem hx, List.take_succ_eq_append_getElem hy, h]
  exact ⟨fun e => by have := List.append_cancel_left e; simpa using this, fun e => by rw [e]⟩
def SameDone (b : Bool) (w : World) (e : Ending) (w' : World) : Prop := e = .returned (.bool b) ∧ ∃ m, w' = w.drewN m
/-- A list of the call's own as a block: its numbers, its spare room. -/
theorem own64_blk {w : World} {B n : Nat} {e : TypeId} {v : Value} {xs : List Value} (h : Own64 w B e v n xs) (hn : 0 < n) : ∃ g cap rest, v = .slice (some ⟨g, 0, none⟩) n cap ∧ B ≤ g ∧ n ≤ cap ∧ cap ≤ maxLen ∧ n + rest.length = cap ∧ Blk w g (xs ++ rest) e ∧ ∀ u ∈ xs ++ rest, ∃ m, u = Value.int .i64 m := by
  rcases h.row.2 with ⟨_, h0⟩ | ⟨g, cap, cur, rfl, hg, hh, h1, h2, h3, h4⟩
  · omega
  · refine ⟨g, cap, cur.toList.drop n, rfl, hg, h1, h2, by simp; omega, ?_, ?_⟩
    · rw [Nat.mul_one] at h4
      rw [← h4, List.take_append_drop]
      unfold Blk; simpa using hh
    · rw [Nat.mul_one] at h4
      rw [← h4, List.take_append_drop]
      exact ints64_row h.ints hh
theorem own64_of_blk {w : World} {B n g cap : Nat} {e : TypeId} {xs rest : List Value} (hb : Blk w g (xs ++ rest) e) (hB : B ≤ g) (hx : xs.length = n) (hr : n + rest.length = cap) (hm : cap ≤ maxLen) (hi : ∀ u ∈ xs ++ rest, ∃ m, u = Value.int .i64 m) : Own64 w B e (.slice (some ⟨g, 0, none⟩) n cap) n xs := by
  refine ⟨⟨by omega, .inr ⟨g, cap, (xs ++ rest).toArray, rfl, hB, hb, by omega, hm, by simp; omega, ?_⟩⟩, ints64_block hb (by simpa using hi)⟩
  rw [Nat.mul_one]
  simp [← hx]
theorem Blk.front64 {w : World} {g : Nat} {ys : List Int} {rest : List Value} {t : TypeId} (h : Blk w g (ys.map v64 ++ rest) t) (i : Nat) (hi : i < ys.length) (x : Int) : Blk (w.setCell ⟨g, i, none⟩ (v64 x)) g ((ys.set i x).map v64 ++ rest) t := by
  have h1 := h.set i (v64 x)
  rw [List.set_append_left _ _ (by simpa using hi)] at h1
  rwa [List.map_set]
theorem Blk.get64 {w : World} {g : Nat} {ys : List Int} {rest : List Value} {t : TypeId} (h : Blk w g (ys.map v64 ++ rest) t) (i : Nat) (hi : i < ys.length) : w.cell? ⟨g, i, none⟩ = some (v64 (ys.getD i 0)) := by
  rw [h.cell, List.getElem?_append_left (by simpa using hi), List.getElem?_map, List.getElem?_eq_getElem hi]
  simp [List.getD_eq_getElem?_getD, List.getElem?_eq_getElem hi]
end Go.Proofs.Ytgohapbobbkaeaa
