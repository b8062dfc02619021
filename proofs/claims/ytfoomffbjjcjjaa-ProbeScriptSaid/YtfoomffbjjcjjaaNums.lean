/-
  The kit's calls on lists of numbers: compared, written over.
-/
import Derived.Test.YtfoomffbjjcjjaaOwn64
import Derived.Test.YtfoomffbjjcjjaaRows
import Derived.Test.YtfoomffbjjcjjaaSha
import Derived.WalkSpells
import Derived.IntWalk
import Derived.WalkLawsBesides
namespace Go.Proofs.Ytfoomffbjjcjjaa
set_option linter.unusedSimpArgs false
set_option linter.unusedVariables false
open Go.RowKit Sha
abbrev v64 (n : Int) : Value := .int .i64 n
theorem knum_info : (Try.prog.info? 3).map (fun i => (i.zero, i.size, i.bytes)) = some (some (.int .i64 0), 1, 8) := by kernel_rfl
theorem knum1 : (Try.prog.info? 3).map (fun i => i.size) = some 1 := by kernel_rfl
theorem kone64 (l : List Int) : ∀ u ∈ l.map v64, u.oneCell' = true := by simp [Value.oneCell']
/-- Numbers in memory. -/
structure GoodN (w : World) (xs : List Int) (p : Option Addr) (cap : Nat) : Prop where
  nums : ∀ n ∈ xs, -9223372036854775808 ≤ n ∧ n ≤ 9223372036854775807
  at_ : At w p (xs.map v64)
  le : xs.length ≤ cap
  max : cap ≤ 9223372036854775807
  nil : p = none → cap = 0
theorem GoodN.below {w w' : World} {xs : List Int} {p : Option Addr} {cap : Nat} (h : GoodN w xs p cap) (hb : Below w.heap.size w w') : GoodN w' xs p cap := ⟨h.nums, h.at_.below hb, h.le, h.max, h.nil⟩
theorem GoodN.carry {w w' : World} {xs : List Int} {p : Option Addr} {cap : Nat} (h : GoodN w xs p cap) (hc : ∀ p v, w.cell? p = some v → w'.cell? p = some v) : GoodN w' xs p cap := ⟨h.nums, h.at_.carry hc, h.le, h.max, h.nil⟩
theorem Own64.good {w : World} {B n : Nat} {e : TypeId} {v : Value} {xs : List Int} (h : Own64 w B e v n (xs.map v64)) (hb : ∀ n ∈ xs, -9223372036854775808 ≤ n ∧ n ≤ 9223372036854775807) : ∃ p cap, v = .slice p n cap ∧ xs.length = n ∧ GoodN w xs p cap := by
  obtain ⟨p, cap, hv, hl, hm, hA, hx, hn⟩ := own_at h.row
  rw [List.length_map] at hx
  exact ⟨p, cap, hv, hx, hb, hA, by rw [hx]; exact hl, by unfold maxLen at hm; omega, hn⟩
/-- A cut, where it is told besides that no address means no room. -/
theorem wpList_cut_nil {P : Program} {ops : Array Oper} {rest : List Oper} {o : Oper} {a : Act} {w : World} {Q : Exit → Act → World → Prop} (hgd : o.guard = none) (t : TypeId) (x : Operand) (lo hi : Option Operand) (ho : o.op = .slice t x lo hi none) (p : Option Addr) (l h cap : Nat)
    (hr : ∀ w, (Instr.sliceAt t (a.eval x) (lo.map a.eval) (hi.map a.eval) none).run P w = .ok (cutV p l h cap) w) (cs : List Value) (hA : At w p cs) (hc : cs.length ≤ cap) (hp : p = none → cap = 0)
    (hn : ∀ p', At w p' ((cs.take h).drop l) → (p' = none → cap - l = 0) → wpList P ops Q rest (a.put o.dst (.slice p' (h - l) (cap - l))) w) : wpList P ops Q (o :: rest) a w := by
  refine wpList_plain hgd fun K hK => ?_
  unfold Oper.wp execOp
  simp only [ho, Option.map_none, Sem.run_bind, hr, Result.andThen_ok, Sem.run_pure]
  refine hK _ _ (hn _ (hA.sub l h cap hc) fun e => ?_)
  split at e
  · omega
  · cases p with
    | none => have := hp rfl; omega
    | some a => cases e
def NumsDone (w0 : World) (xs : List Int) (w : World) (e : Ending) (w' : World) : Prop := ∃ v, e = .returned v ∧ Own64 w' w0.heap.size 3 v xs.length (xs.map v64) ∧ Below w0.heap.size w w'
theorem ntake_succ {xs ys : List Int} {k : Nat} (hx : k < xs.length) (hy : k < ys.length) (h : xs.take k = ys.take k) : (xs.take (k + 1) = ys.take (k + 1)) ↔ xs[k] = ys[k] := by
  rw [List.take_succ_eq_append_getElem hx, List.take_succ_eq_append_getElem hy, h]
  exact ⟨fun e => by have := List.append_cancel_left e; simpa using this, fun e => by rw [e]⟩
def SameDone (b : Bool) (w : World) (e : Ending) (w' : World) : Prop := e = .returned (.bool b) ∧ ∃ m, w' = w.drewN m
set_option maxRecDepth 100000 in
set_option maxHeartbeats 1000000 in
theorem sameN_any (xs ys : List Int) (n m : Nat) (p q : Option Addr) (c d : Nat) (w : World) (hn : xs.length = n) (hm : ys.length = m) (hx : GoodN w xs p c) (hy : GoodN w ys q d) :
    Calls Try.prog 14 #[.slice p n c, .slice q m d] w (SameDone (decide (xs = ys)) w) := by
  have GX := Lib.hid hx
  have GY := Lib.hid hy
  have HN := Lib.hid hn
  have HM := Lib.hid hm
  have b1 := hx.le
  have b2 := hx.max
  have b3 := hy.le
  have b4 := hy.max
  rw [hn] at b1
  rw [hm] at b3
  clear hx hy
  by_cases hnm : n = m
  · subst hnm
    clear hn hm
    go_enter Try.func14, Try.ntmps14
    go_wp2_with fail
    go_loopw [5, 6] (fun s i wr => ∃ (k j : Nat) (b : Bool), i = .int .i64 k ∧ s = .bool b ∧ k ≤ n ∧ Hid (wr = w.drewN j) ∧ Hid (b = decide (xs.take k = ys.take k)) ∧ Hid (b = false → xs ≠ ys)) (fun s i _ => (match s with | .bool true => 1 | _ => 0) + (n - (intOf i).toNat))
    case atStart => exact ⟨0, 0, true, rfl, rfl, by omega, Lib.hid rfl, Lib.hid (by simp), Lib.hid (fun h => by cases h)⟩
    case round =>
      obtain ⟨k, j, b, rfl, rfl, hk, HW, HB, HF⟩ := hrel
      cases b with
      | false =>
        have HR := Lib.hid (decide_eq_false (HF.out rfl))
        go_wp2_with fail
        go_ret
        exact ⟨by rw [HR.out]; rfl, j, HW.out⟩
      | true =>
        have ht : xs.take k = ys.take k := by have := HB.out; exact of_decide_eq_true this.symm
        by_cases hlt : k < n
        · have hkx : k < xs.length := by rw [HN.out]; exact hlt
          have hky : k < ys.length := by rw [HM.out]; exact hlt
          have HS := Lib.hid (ntake_succ hkx hky ht)
          obtain ⟨bx, ox, rfl, cx⟩ := GX.out.at_.addr (by rw [List.length_map]; omega)
          obtain ⟨by_, oy, rfl, cy⟩ := GY.out.at_.addr (by rw [List.length_map]; omega)
          have c1 : wr.cell? ⟨bx, ox + k, none⟩ = some (v64 xs[k]) := by rw [HW.out]; exact cx k _ (by rw [List.getElem?_map, List.getElem?_eq_getElem hkx]; rfl)
          have c2 : wr.cell? ⟨by_, oy + k, none⟩ = some (v64 ys[k]) := by rw [HW.out]; exact cy k _ (by rw [List.getElem?_map, List.getElem?_eq_getElem hky]; rfl)
          have HNE := Lib.hid (show xs[k] ≠ ys[k] → xs ≠ ys from fun h e => h (by simp [e]))
          generalize xs[k] = x at *
          generalize ys[k] = y at *
          clear ht hkx hky cx cy
          by_cases hxy : x = y
          · have HT := Lib.hid (HS.out.2 hxy)
            have hq : (x == y) = true := by rw [hxy]; exact beq_self_eq_true _
            clear hxy
            go_wp2_with fail
            go_quiet (fail)
            go_wp2_with fail
            go_roundw
            case rel => exact ⟨k + 1, j + nq, true, by go_num, rfl, by omega, Lib.hid (by rw [HW.out, World.drewN_drewN]), Lib.hid (by rw [decide_eq_true HT.out]), Lib.hid (fun h => by cases h)⟩
            case measure => simp [intOf]; omega
          · have HF2 := Lib.hid (HNE.out hxy)
            have HT := Lib.hid (show xs.take (k + 1) ≠ ys.take (k + 1) from fun e => hxy (HS.out.1 e))
            have hq : (x == y) = false := by rw [beq_eq_false_iff_ne]; exact hxy
            clear hxy
            go_wp2_with fail
            go_quiet (fail)
            go_wp2_with fail
            go_roundw
            case rel => exact ⟨k + 1, j + nq, false, by go_num, rfl, by omega, Lib.hid (by rw [HW.out, World.drewN_drewN]), Lib.hid (by rw [decide_eq_false HT.out]), Lib.hid (fun _ => HF2.out)⟩
            case measure => simp [intOf]; omega
        · obtain rfl : k = n := by omega
          have HR : Hid (decide (xs = ys) = true) := by
            refine decide_eq_true ?_
            rwa [List.take_of_length_le (by rw [HN.out]; exact Nat.le_refl _), List.take_of_length_le (by rw [HM.out]; exact Nat.le_refl _)] at ht
          clear ht
          go_wp2_with fail
          go_ret
          exact ⟨by rw [HR.out]; rfl, j, HW.out⟩
  · have hq : ((n : Int) == (m : Int)) = false := by rw [beq_eq_false_iff_ne]; omega
    have HR := Lib.hid (show decide (xs = ys) = false from decide_eq_false fun e => hnm (by rw [← hn, ← hm, e]))
    clear hnm hn hm
    go_enter Try.func14, Try.ntmps14
    go_wp2_with fail
    go_loopw [5, 6] (fun s i wr => s = .bool false ∧ i = .int .i64 0 ∧ w = wr) (fun _ i _ => (intOf i).toNat)
    case atStart => exact ⟨rfl, rfl, rfl⟩
    case round =>
      obtain ⟨rfl, rfl, rfl⟩ := hrel
      go_wp2_with fail
      go_ret
      exact ⟨by rw [HR.out]; rfl, 0, rfl⟩
set_option maxRecDepth 100000 in
set_option maxHeartbeats 600000 in
theorem overN_any (B : Nat) (v : Value) (n : Nat) (xs : List Value) (w : World) (h : Own64 w B 3 v n xs) :
    Calls Try.prog 15 #[v] w fun e w' => e = .returned (.tuple #[]) ∧ Below B w w' ∧ (∀ k, some k ≠ v.ownBlock → w'.heap[k]? = w.heap[k]?) := by
  rcases h.row.2 with ⟨rfl, rfl⟩ | ⟨g, cap, cur, rfl, hg, hh, h1, h2, h3, h4⟩
  · clear h
    go_enter Try.func15, Try.ntmps15
    go_wp2_with fail
    go_loopw [2] (fun i wr => i = .int .i64 0 ∧ w = wr) (fun i _ => (intOf i).toNat)
    case atStart => exact ⟨rfl, rfl⟩
    case round =>
      obtain ⟨rfl, rfl⟩ := hrel
      go_wp2_with fail
      go_end0
      exact ⟨rfl, Below.refl _ _, fun _ _ => rfl⟩
  · have hi := ints64_row h.ints hh
    have hb : Blk w g cur.toList 3 := by unfold Blk; simpa using hh
    have hl : cur.toList.length = cap := by simp [h3]
    have hm : cap ≤ 9223372036854775807 := by unfold maxLen at h2; omega
    have HB := Lib.hid hb
    have HI := Lib.hid hi
    have HL := Lib.hid hl
    clear h hh h3 h4 hi hb hl h2
    go_enter Try.func15, Try.ntmps15
    go_wp2_with fail
    go_loopw [2] (fun i wr => ∃ (k : Nat) (cs : List Value), i = .int .i64 k ∧ k ≤ cap ∧ Hid (Blk wr g cs 3) ∧ Hid (cs.length = cap) ∧ Hid (∀ u ∈ cs, ∃ n, u = Value.int .i64 n) ∧ Hid (Below B w wr) ∧ Hid (∀ k, k ≠ g → wr.heap[k]? = w.heap[k]?)) (fun i _ => cap - (intOf i).toNat)
    case atStart => exact ⟨0, _, rfl, by omega, HB, HL, HI, Below.refl _ _, Lib.hid (fun _ _ => rfl)⟩
    case round =>
      clear HB HI HL
      obtain ⟨k, cs, rfl, hk, HB, HL, HI, HW, HOT⟩ := hrel
      by_cases hlt : k < cap
      · have hkl : k < cs.length := by rw [HL.out]; exact hlt
        obtain ⟨u, hu⟩ := HI.out cs[k] (List.getElem_mem hkl)
        have c0 : wr.cell? ⟨g, k, none⟩ = some (.int .i64 u) := by rw [HB.out.cell, List.getElem?_eq_getElem hkl, hu]
        have f0 : wr.frozen? ⟨g, k, none⟩ = false := HB.out.free k
        clear hu hkl
        go_wp2_with fail
        go_roundw
        case rel =>
          refine ⟨k + 1, cs.set k _, by go_num, by omega, Lib.hid (HB.out.set k _), Lib.hid (by rw [List.length_set]; exact HL.out), Lib.hid fun x hx => ?_, Lib.hid (HW.out.setCell hg _), Lib.hid fun i hi => (Below.heap_setCell _ _ _ _ hi).trans (HOT.out i hi)⟩
          rcases List.mem_or_eq_of_mem_set hx with hx | hx
          · exact HI.out x hx
          · exact ⟨_, hx⟩
        case measure => simp [intOf]; omega
      · obtain rfl : k = cap := by omega
        go_wp2_with fail
        go_end0
        exact ⟨rfl, HW.out, fun i hi => HOT.out i (fun e => hi (by rw [e]; rfl))⟩
/-- A list of the call's own as a block: its numbers, its spare room. -/
theorem own64_blk {w : World} {B n : Nat} {e : TypeId} {v : Value} {xs : List Value} (h : Own64 w B e v n xs) (hn : 0 < n) : ∃ g cap rest, v = .slice (some ⟨g, 0, none⟩) n cap ∧ B ≤ g ∧ n ≤ cap ∧ cap ≤ maxLen ∧ n + rest.length = cap ∧ Blk w g (xs ++ rest) e ∧ ∀ u ∈ xs ++ rest, ∃ m, u = Value.int .i64 m := by
  rcases h.row.2 with ⟨_, h0⟩ | ⟨g, cap, cur, rfl, hg, hh, h1, h2, h3, h4⟩
  · omega
  · refine ⟨g, cap, cur.toList.drop n, rfl, hg, h1, h2, by simp; omega, ?_, ?_⟩
    · rw [Nat.mul_one] at h4
      rw [← h4, List.take_append_drop]
      unfold Blk; simpa using hh
    · rw [Nat.mul_one] at h4
      rw [← h4, List.take_append_drop]
      exact ints64_row h.ints hh
theorem own64_of_blk {w : World} {B n g cap : Nat} {e : TypeId} {xs rest : List Value} (hb : Blk w g (xs ++ rest) e) (hB : B ≤ g) (hx : xs.length = n) (hr : n + rest.length = cap) (hm : cap ≤ maxLen) (hi : ∀ u ∈ xs ++ rest, ∃ m, u = Value.int .i64 m) : Own64 w B e (.slice (some ⟨g, 0, none⟩) n cap) n xs := by
  refine ⟨⟨by omega, .inr ⟨g, cap, (xs ++ rest).toArray, rfl, hB, hb, by omega, hm, by simp; omega, ?_⟩⟩, ints64_block hb (by simpa using hi)⟩
  rw [Nat.mul_one]
  simp [← hx]
theorem Blk.front64 {w : World} {g : Nat} {ys : List Int} {rest : List Value} {t : TypeId} (h : Blk w g (ys.map v64 ++ rest) t) (i : Nat) (hi : i < ys.length) (x : Int) : Blk (w.setCell ⟨g, i, none⟩ (v64 x)) g ((ys.set i x).map v64 ++ rest) t := by
  have h1 := h.set i (v64 x)
  rw [List.set_append_left _ _ (by simpa using hi)] at h1
  rwa [List.map_set]
theorem Blk.get64 {w : World} {g : Nat} {ys : List Int} {rest : List Value} {t : TypeId} (h : Blk w g (ys.map v64 ++ rest) t) (i : Nat) (hi : i < ys.length) : w.cell? ⟨g, i, none⟩ = some (v64 (ys.getD i 0)) := by
  rw [h.cell, List.getElem?_append_left (by simpa using hi), List.getElem?_map, List.getElem?_eq_getElem hi]
  simp [List.getD_eq_getElem?_getD, List.getElem?_eq_getElem hi]
end Go.Proofs.Ytfoomffbjjcjjaa
