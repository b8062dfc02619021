/-
  Slices of one-cell elements in a walk: what a slice reads as, whatever its address; cut; an element; a part as an array.
  A slice that the call itself makes: appended to by whatever slice; what it reads as. For elements of one cell.
  The kit's CopyBytes and SameBytes; small laws on what lies in memory.
  Two arrays of integers compared with '==': alike just if all their elements are.
  Items in memory: 34 cells each (a number, a slice of bytes, an id). What lies from an address on; boxes and stores under a new name of the world.
  Structs in memory, of any shape: so many cells each, among them (perhaps) a slice of bytes. What lies from an address on; rows of the call's own. General: no function is named here.
  A slice of structs built of its elements: '[]T{a, b, c}', 'append(out, x)'.
  Structs loaded and built, as one operation each: names that the walk does not open.
  append onto a slice of the call's own, as a step of a region that draws its order; a slice of structs appended to.
  A slice of bytes of the call's own, whose spare room holds numbers too: append keeps it so.
-/
import Derived.Test.YtbogjfmefkhglaaGreatP1
import Derived.Deep.MidRow
import Derived.Laws.Cover3
import Derived.Laws.AppendOwnNone
import Derived.OwnWalk
import Derived.Deep.Onto
import Derived.Test.YtbogjfmefkhglaaGreatRows
import Derived.Laws.BytesArg
import Derived.WalkSpells
import Derived.IntWalk
import Derived.WalkLawsBesides
import Derived.Laws.StructEq
import Derived.Deep.Upon
import Derived.Laws.CopyOwn
import Derived.Lib.OthersKept
import Derived.BigFrame
import Derived.Deep.RegionLaw
import Derived.Deep.AppendLies
namespace Go.Proofs.YtbogjfmefkhglaaGreat
section
set_option linter.unusedSimpArgs false
set_option linter.unusedVariables false
variable {P : Program}
/-- From address a on the cells cs lie. (An empty list lies anywhere.) -/
def At (w : World) (a : Option Addr) (cs : List Value) : Prop := cs = [] ∨ ∃ b off, a = some ⟨b, off, none⟩ ∧ ∀ i v, cs[i]? = some v → w.cell? ⟨b, off + i, none⟩ = some v
theorem At.nil (w : World) (a : Option Addr) : At w a [] := Or.inl rfl
theorem At.carry {w w' : World} {a : Option Addr} {cs : List Value} (h : At w a cs) (hc : ∀ p v, w.cell? p = some v → w'.cell? p = some v) : At w' a cs := by
  rcases h with h | ⟨b, off, ha, hc'⟩
  · exact Or.inl h
  · exact Or.inr ⟨b, off, ha, fun i v hi => hc _ _ (hc' i v hi)⟩
theorem At.below {w w' : World} {a : Option Addr} {cs : List Value} (h : At w a cs) (hb : RowKit.Below w.heap.size w w') : At w' a cs :=
  h.carry fun p v hv => by rw [hb.cell (World.block_lt_of_cell? w p hv)]; exact hv
theorem At.drew {w : World} {a : Option Addr} {cs : List Value} (h : At w a cs) : At w.drew a cs := h
theorem At.alloc {w : World} {a : Option Addr} {cs : List Value} (h : At w a cs) (o : Obj) : At (w.alloc o) a cs :=
  h.below (RowKit.Below.alloc (RowKit.Below.refl _ _) (Nat.le_refl _) o)
theorem At.addr {w : World} {a : Option Addr} {cs : List Value} (h : At w a cs) (hn : 0 < cs.length) : ∃ b off, a = some ⟨b, off, none⟩ ∧ ∀ i v, cs[i]? = some v → w.cell? ⟨b, off + i, none⟩ = some v := by
  rcases h with h | h
  · subst h; simp at hn
  · exact h
theorem At.sub {w : World} {a : Option Addr} {cs : List Value} (h : At w a cs) (lo hi cap : Nat) (hc : cs.length ≤ cap) : At w (if cap = lo then a else a.map (·.add lo)) ((cs.take hi).drop lo) := by
  by_cases e : cap = lo
  · left; simp; omega
  rw [if_neg e]
  rcases h with h | ⟨b, off, ha, hc'⟩
  · left; simp [h]
  · refine Or.inr ⟨b, off + lo, by rw [ha]; simp [Addr.add_mid], fun i v hi' => ?_⟩
    rw [List.getElem?_drop, List.getElem?_take] at hi'
    split at hi'
    · have := hc' (lo + i) v hi'
      rwa [← Nat.add_assoc] at this
    · cases hi'
theorem At.range {w : World} {b off : Nat} {cs : List Value} (h : At w (some ⟨b, off, none⟩) cs) : w.rangeAt b off cs := by
  rcases h with h | ⟨b', off', ha, hc'⟩
  · subst h; intro j v hv; simp at hv
  · cases ha; exact hc'
theorem elem_of {t e : TypeId} (hu : P.underlying t = some (.slice e)) : P.elem t = e := by simp [Program.elem, hu]
section
variable (t e : TypeId) (p : Option Addr) (len cap : Nat) (hu : P.underlying t = some (.slice e)) (he : (P.info? e).map (fun i => i.size) = some 1)
include hu he
end
section
variable {ops : Array Oper} {rest : List Oper} {o : Oper} {a : Act} {w : World} {Q : Exit → Act → World → Prop} {C : World → Prop} {K : Act → Prop}
theorem Blk.range {w : World} {g : Nat} {cs : List Value} {t : TypeId} (h : Blk w g cs t) : w.rangeAt g 0 cs := fun j v hv => by rw [Nat.zero_add, h.cell]; exact hv
end
end
section
set_option linter.unusedSimpArgs false
set_option linter.unusedVariables false
variable {P : Program} {ops : Array Oper} {rest : List Oper} {o : Oper} {a : Act} {w : World} {Q : Exit → Act → World → Prop}
/-- How long a slice value is: for a loop's measure. -/
def lenOf : Value → Nat
  | .slice _ n _ => n
  | _ => 0
theorem own_form {B n : Nat} {e : TypeId} {v : Value} {xs : List Value} (h : w.ownsRow B e 1 v n xs) (hn : 0 < n) : ∃ g cap, v = .slice (some ⟨g, 0, none⟩) n cap ∧ B ≤ g ∧ n ≤ cap ∧ cap ≤ maxLen ∧ g < w.heap.size := by
  obtain ⟨_, h⟩ := h
  rcases h with ⟨_, h0⟩ | ⟨g, cap, cur, hv, hg, hh, h1, h2, _⟩
  · omega
  · exact ⟨g, cap, hv, hg, h1, h2, Blk.lt (cs := cur.toList) (t := e) (by unfold Blk; simpa using hh)⟩
theorem own_at {B n : Nat} {e : TypeId} {v : Value} {xs : List Value} (h : w.ownsRow B e 1 v n xs) : ∃ p cap, v = .slice p n cap ∧ n ≤ cap ∧ cap ≤ maxLen ∧ At w p xs ∧ xs.length = n ∧ (p = none → cap = 0) := by
  have hl : xs.length = n := by simpa using h.1
  rcases h.2 with ⟨hv, h0⟩ | ⟨g, cap, cur, hv, hg, hh, h1, h2, h3, h4⟩
  · exact ⟨none, 0, by rw [hv, h0], by omega, by simp [maxLen], Or.inl (List.eq_nil_of_length_eq_zero (by omega)), hl, fun _ => rfl⟩
  · refine ⟨_, cap, hv, h1, h2, Or.inr ⟨g, 0, rfl, fun i v hi => ?_⟩, hl, fun h => by cases h⟩
    subst hv
    have hlt : i < xs.length := by
      by_cases hlt : i < xs.length
      · exact hlt
      · rw [List.getElem?_eq_none (by omega)] at hi; cases hi
    rw [Nat.zero_add, h.cellAt i (by omega)]; exact hi
theorem at_one (w : World) (v : Value) (e : TypeId) : At (w.alloc (.cells #[v] e)) (some ⟨w.heap.size, 0, none⟩) [v] := by
  refine Or.inr ⟨_, 0, rfl, fun i u hi => ?_⟩
  rw [Nat.zero_add, (Blk.new w #[v] e).cell]; exact hi
/-- 'append(v, x...)': v the call's own, x whatever. -/
theorem wpList_app (hgd : o.guard = none) (s x : Operand) (t : TypeId) (ho : o.op = .call { callee := .builtin .append, args := #[s, x], argTypes := #[t, t] })
    (B : Nat) (e : TypeId) {z : Value} {by_ : Nat} (ht : P.underlying t = some (.slice e)) (hi : (P.info? e).map (fun i => (i.zero, i.size, i.bytes)) = some (some z, 1, by_)) (hz : z.cells.size = 1)
    (v : Value) (n : Nat) (xs : List Value) (hs : a.eval s = v) (hown : w.ownsRow B e 1 v n xs)
    (p : Option Addr) (m c : Nat) (news : List Value) (hx : a.eval x = .slice p m c) (hA : At w p news) (hl : news.length = m) (hn : p = none → c = 0) (hmc : m ≤ c) (h1 : ∀ u ∈ news, u.oneCell' = true)
    (hbytes : (n + m) * by_ ≤ 140737488355328) (hmax : n + m ≤ maxLen) (hB : B ≤ w.heap.size)
    (h : ∀ v' w', w'.ownsRow B e 1 v' (n + m) (xs ++ news) → w.grownBy w' v.ownBlock → RowKit.Below B w w' → B ≤ w'.heap.size → (v' = .slice none 0 0 ↔ v = .slice none 0 0 ∧ m = 0) → wpList P ops Q rest (a.put o.dst v') w') : wpList P ops Q (o :: rest) a w := by
  obtain ⟨i, hi, hz0, hz1, hz2⟩ := info_parts hi
  have hblock : ∀ k, v.ownBlock = some k → B ≤ k := by
    intro k hk
    rcases hown.2 with ⟨hv, _⟩ | ⟨g, cap, cur, hv, hg, _⟩
    · rw [hv] at hk; cases hk
    · rw [hv] at hk; cases hk; exact hg
  cases p with
  | none =>
    have hc := hn rfl
    have hm : m = 0 := by omega
    subst hc hm
    have hnews : news = [] := List.eq_nil_of_length_eq_zero hl
    subst hnews
    refine wpList_append_own_none hgd s x t ho B e i 1 ht hi v n xs hs hown hx (h v w (by simpa using hown) ⟨rfl, rfl, rfl, Nat.le_refl _, fun _ _ _ => rfl⟩ (RowKit.Below.refl _ _) hB (by simp))
  | some ad =>
    refine wpList_append_own w hgd s x t ho B e i z 1 by_ ht hi hz0 hz1 hz2 hz (by decide) v n xs hs hown ad m c news hx (by omega) ?_ h1 hmax hbytes hB ?_
    · intro j u hj
      rcases hA with hA | ⟨b, off, hA, hc⟩
      · subst hA; simp at hj
      · cases hA; rw [Addr.add_mid]; exact hc j u hj
    · intro v' w' h1 h2 h3
      exact h v' w' h1 h2 ((RowKit.Below.refl B w).grown h2 hB hblock) (Nat.le_trans hB h2.size) h3
end
section
set_option linter.unusedSimpArgs false
set_option linter.unusedVariables false
open Go.RowKit Sha
theorem kbyte_info : (Tryz.prog.info? 5).map (fun i => (i.zero, i.size, i.bytes)) = some (some (.int .u8 0), 1, 1) := by kernel_rfl
theorem kslice1 : (Tryz.prog.info? 5).map (fun i => i.size) = some 1 := by kernel_rfl
theorem kone8 (l : List Int) : ∀ u ∈ l.map v8, u.oneCell' = true := by simp [Value.oneCell']
theorem run_conv_at {P : Program} (w : World) (src dst e : TypeId) (hs : P.underlying src = some (.slice e)) (he : P.underlying e = some (.int .u8)) (hd : P.underlying dst = some .string) (xs : List Int) (n : Nat) (p : Option Addr) (c : Nat) (hn : xs.length = n) (hA : At w p (xs.map v8)) :
    (convert src dst (.slice p n c)).run P w = .ok (.string (strOfNums xs)) w := by
  cases p with
  | none =>
    have h0 : xs = [] := by
      rcases hA with h | ⟨b, off, h, _⟩
      · simpa using h
      · cases h
    subst h0 hn
    exact run_convert_bytes_nil w src e hs he _ c dst hd
  | some a =>
    by_cases h0 : xs = []
    · subst h0 hn
      rw [run_convert_bytes_string w src dst e _ _ c hs he hd, run_bytesToString w _ _ c [] (by simpa using run_loadCells_list (P := P) w a [] (fun j v hj => by simp at hj))]
      rfl
    · obtain ⟨b, off, ha, hc⟩ := hA.addr (by rw [List.length_map]; exact List.length_pos_iff.2 h0)
      cases ha
      exact run_convert_bytes_arg w src e hs he b off n c xs hn (fun i hi => hc i _ (by rw [List.getElem?_map, List.getElem?_eq_getElem (by omega), List.getD_eq_getElem?_getD, List.getElem?_eq_getElem (by omega)]; rfl)) dst hd
theorem strOfNums_toList (xs : List Int) : (strOfNums xs).toList = xs.map fun n => UInt8.ofNat n.toNat := by
  rw [ByteArray.toList_eq, strOfNums_data]
theorem strOfNums_inj (xs ys : List Int) (hx : ∀ n ∈ xs, 0 ≤ n ∧ n ≤ 255) (hy : ∀ n ∈ ys, 0 ≤ n ∧ n ≤ 255) : ((strOfNums xs).toList == (strOfNums ys).toList) = decide (xs = ys) := by
  rw [Bool.eq_iff_iff, beq_iff_eq, decide_eq_true_iff, strOfNums_toList, strOfNums_toList]
  constructor
  · intro h
    apply List.ext_getElem
    · simpa using congrArg List.length h
    · intro i h1 h2
      have h3 := congrArg (·[i]?) h
      simp [h1, h2] at h3
      have h4 := congrArg UInt8.toNat h3
      have b1 := hx xs[i] (List.getElem_mem h1)
      have b2 := hy ys[i] (List.getElem_mem h2)
      simp at h4
      omega
  · intro h; rw [h]
set_option maxHeartbeats 400000 in
theorem same_any (xs ys : List Int) (n m : Nat) (p q : Option Addr) (c d : Nat) (w : World) (hn : xs.length = n) (hm : ys.length = m) (hx : At w p (xs.map v8)) (hy : At w q (ys.map v8)) (bx : ∀ n ∈ xs, 0 ≤ n ∧ n ≤ 255) (by_ : ∀ n ∈ ys, 0 ≤ n ∧ n ≤ 255) :
    Calls Tryz.prog 10 #[.slice p n c, .slice q m d] w fun e w' => e = .returned (.bool (decide (xs = ys))) ∧ w = w' := by
  have h1 := run_conv_at (P := Tryz.prog) w 28 9 5 Tryz.underlying28 Tryz.underlying5 Tryz.underlying9 xs n p c hn hx
  have h2 := run_conv_at (P := Tryz.prog) w 28 9 5 Tryz.underlying28 Tryz.underlying5 Tryz.underlying9 ys m q d hm hy
  have HI := Lib.hid (strOfNums_inj xs ys bx by_)
  clear hn hm hx hy bx by_
  go_enter Tryz.func10, Tryz.ntmps10
  go_wp2_with fail
  go_ret
  exact ⟨congrArg (fun b => Ending.returned (Value.bool b)) HI.out, rfl⟩
theorem At.front {w : World} {a : Option Addr} {xs ys : List Value} (h : At w a (xs ++ ys)) : At w a xs := by
  rcases h with h | ⟨b, off, ha, hc⟩
  · exact Or.inl (List.append_eq_nil_iff.1 h).1
  · exact Or.inr ⟨b, off, ha, fun i v hi => hc i v (by rw [List.getElem?_append_left (by by_cases hl : i < xs.length; exact hl; rw [List.getElem?_eq_none (by omega)] at hi; cases hi)]; exact hi)⟩
theorem At.back {w : World} {b off : Nat} {xs ys : List Value} (h : At w (some ⟨b, off, none⟩) (xs ++ ys)) : At w (some ⟨b, off + xs.length, none⟩) ys := by
  rcases h with h | ⟨b', off', ha, hc⟩
  · exact Or.inl (List.append_eq_nil_iff.1 h).2
  · cases ha
    exact Or.inr ⟨b, off + xs.length, rfl, fun i v hi => by rw [Nat.add_assoc]; exact hc _ v (by rw [List.getElem?_append_right (by omega), Nat.add_sub_cancel_left]; exact hi)⟩
end
section
set_option linter.unusedSimpArgs false
set_option linter.unusedVariables false
variable {P : Program}
theorem run_part_one {e : TypeId} {d : TypeDesc} (hue : P.underlying e = some d) (hna : (match d with | .struct _ | .array _ _ => true | _ => false) = false) (cs : Array Value) (i : Nat) (v : Value) (hv : cs[i]? = some v) (w : World) :
    (part e cs i).run P w = .ok v w := by
  have hagg : (isAgg e).run P w = .ok false w := by
    unfold isAgg
    rw [Sem.run_bind, run_underlying hue w]
    cases d <;> simp_all
  simp [part, hagg, hv]
/-- The loop over the elements from the j-th on. -/
theorem run_eq_loop (w : World) (d : Nat) (e : TypeId) (k : IntKind) (hue : P.underlying e = some (.int k)) (xs ys : List Int) (hl : xs.length = ys.length) :
    ∀ (m j : Nat), j + m = xs.length →
    (forIn (List.range' j m) ((none : Option Bool), ()) fun i __s => (do
            let a ← part e (xs.map (Value.int k)).toArray (i * 1)
            let b ← part e (ys.map (Value.int k)).toArray (i * 1)
            let r ← Op.equalIn (d + 1) e a b
            if (!r) = true then pure (ForInStep.done (some false, ())) else pure (ForInStep.yield (none, ())) : Sem (ForInStep (Option Bool × Unit)))).run P w
      = .ok (if xs.drop j = ys.drop j then ((none : Option Bool), ()) else (some false, ())) w
  | 0, j, h => by
    have h1 : xs.drop j = [] := by rw [List.drop_eq_nil_iff]; omega
    have h2 : ys.drop j = [] := by rw [List.drop_eq_nil_iff]; omega
    simp [h1, h2, Sem.run_pure]
  | m + 1, j, h => by
    have hjx : j < xs.length := by omega
    have hjy : j < ys.length := by omega
    have hx : (xs.map (Value.int k)).toArray[j]? = some (.int k xs[j]) := by simp [hjx]
    have hy : (ys.map (Value.int k)).toArray[j]? = some (.int k ys[j]) := by simp [hjy]
    have ih := run_eq_loop w d e k hue xs ys hl m (j + 1) (by omega)
    have dx : xs.drop j = xs[j] :: xs.drop (j + 1) := List.drop_eq_getElem_cons hjx
    have dy : ys.drop j = ys[j] :: ys.drop (j + 1) := List.drop_eq_getElem_cons hjy
    rw [List.range'_succ, List.forIn_cons]
    simp only [Sem.run_bind, Nat.mul_one, run_part_one hue rfl _ _ _ hx, run_part_one hue rfl _ _ _ hy, run_equalIn_int (P := P) w d e k k _ _ hue, Result.andThen_ok]
    by_cases hb : xs[j] = ys[j]
    · simp only [hb, beq_self_eq_true, Bool.not_true, Bool.false_eq_true, if_false, Sem.run_pure, Result.andThen_ok]
      simp only [Nat.mul_one] at ih
      have hiff : (xs.drop j = ys.drop j) = (xs.drop (j + 1) = ys.drop (j + 1)) := by
        rw [dx, dy, hb]; exact propext ⟨fun h => (List.cons.inj h).2, fun h => by rw [h]⟩
      rw [ih]; simp only [hiff]
    · have hb2 : (xs[j] == ys[j]) = false := by simpa using hb
      simp only [hb2, Bool.not_false, if_true, Sem.run_pure, Result.andThen_ok]
      have hne : ¬ xs.drop j = ys.drop j := by rw [dx, dy]; intro h; exact hb (List.cons.inj h).1
      rw [if_neg hne]
theorem run_equalIn_arr (w : World) (d : Nat) (t e : TypeId) (n : Nat) (k : IntKind) (hu : P.underlying t = some (.array n e)) (hue : P.underlying e = some (.int k)) (he : (P.info? e).map (fun i => i.size) = some 1)
    (xs ys : List Int) (hx : xs.length = n) (hy : ys.length = n) :
    (Op.equalIn (d + 2) t (.agg (xs.map (Value.int k)).toArray) (.agg (ys.map (Value.int k)).toArray)).run P w = .ok (decide (xs = ys)) w := by
  have h2 : (sizeOf e).run P w = .ok 1 w := by
    cases hq : P.info? e with
    | none => simp [hq] at he
    | some j => simp [hq] at he; simp [sizeOf, typeInfo, hq, he]
  rw [Op.equalIn]
  simp only [Sem.run_bind, run_underlying hu, Result.andThen_ok, h2]
  rw [Std.Legacy.Range.forIn_eq_forIn_range']
  have := run_eq_loop w d e k hue xs ys (by omega) n 0 (by omega)
  simp only [Std.Legacy.Range.size, Nat.sub_zero, Nat.add_sub_cancel, Nat.div_one] at this ⊢
  rw [this]
  simp only [List.drop_zero, Result.andThen_ok]
  by_cases h : xs = ys
  · simp [h, Sem.run_pure]
  · simp [h, Sem.run_pure]
/-- '==' between two arrays, as an operation yields it. -/
theorem run_eql_arr (w : World) (x y : Operand) (t e : TypeId) (n : Nat) (k : IntKind) (hu : P.underlying t = some (.array n e)) (hue : P.underlying e = some (.int k)) (he : (P.info? e).map (fun i => i.size) = some 1)
    (xs ys : List Int) (hx : xs.length = n) (hy : ys.length = n) :
    (do eqGuard .eql t x y (.agg (xs.map (Value.int k)).toArray) (.agg (ys.map (Value.int k)).toArray); binOp .eql t (.agg (xs.map (Value.int k)).toArray) (.agg (ys.map (Value.int k)).toArray) : Sem Value).run P w = .ok (.bool (decide (xs = ys))) w := by
  have hg : P.eqGuardType P.depth t = false := by
    unfold Program.depth
    simp [Program.eqGuardType, hu, hue]
  have hq : (Op.equal t (.agg (xs.map (Value.int k)).toArray) (.agg (ys.map (Value.int k)).toArray)).run P w = .ok (decide (xs = ys)) w :=
    run_equalIn_arr w 9998 t e n k hu hue he xs ys hx hy
  simp [eqGuard, binOp, hg, hq, Sem.run_pure]
theorem run_neq_arr (w : World) (x y : Operand) (t e : TypeId) (n : Nat) (k : IntKind) (hu : P.underlying t = some (.array n e)) (hue : P.underlying e = some (.int k)) (he : (P.info? e).map (fun i => i.size) = some 1)
    (xs ys : List Int) (hx : xs.length = n) (hy : ys.length = n) :
    (do eqGuard .neq t x y (.agg (xs.map (Value.int k)).toArray) (.agg (ys.map (Value.int k)).toArray); binOp .neq t (.agg (xs.map (Value.int k)).toArray) (.agg (ys.map (Value.int k)).toArray) : Sem Value).run P w = .ok (.bool (!decide (xs = ys))) w := by
  have hg : P.eqGuardType P.depth t = false := by
    unfold Program.depth
    simp [Program.eqGuardType, hu, hue]
  have hq : (Op.equal t (.agg (xs.map (Value.int k)).toArray) (.agg (ys.map (Value.int k)).toArray)).run P w = .ok (decide (xs = ys)) w :=
    run_equalIn_arr w 9998 t e n k hu hue he xs ys hx hy
  simp [eqGuard, binOp, hg, hq, Sem.run_pure]
section
variable {ops : Array Oper} {rest : List Oper} {o : Oper} {a : Act} {w : World} {Q : Exit → Act → World → Prop} {C : World → Prop} {K : Act → Prop}
theorem wp_eql_arr {K : Act → World → Prop} (t : TypeId) (x y : Operand) (r : TypeId) (ho : o.op = .binOp .eql t x y r) (e : TypeId) (n : Nat) (k : IntKind) (hu : P.underlying t = some (.array n e)) (hue : P.underlying e = some (.int k)) (he : (P.info? e).map (fun i => i.size) = some 1)
    (xs ys : List Int) (hx : a.eval x = .agg (xs.map (Value.int k)).toArray) (hy : a.eval y = .agg (ys.map (Value.int k)).toArray) (hxl : xs.length = n) (hyl : ys.length = n)
    (h : K (a.put o.dst (.bool (decide (xs = ys)))) w) : o.wp P a w K Q := by
  unfold Oper.wp execOp
  have hr := run_eql_arr (P := P) w x y t e n k hu hue he xs ys hxl hyl
  simp only [ho, hx, hy]
  rw [Sem.run_bind, hr]
  simp only [Result.andThen_ok, Sem.run_pure]
  exact h
end
end
section
set_option linter.unusedSimpArgs false
set_option linter.unusedVariables false
open Go.RowKit Sha
variable {P : Program}
open Fld (Itm)
/-- An item's cells: its bytes lie at q, with room for c. -/
def icells (x : Itm) (q : Option Addr) (c : Nat) : List Value := .int .i64 x.N :: .slice q x.B.length c :: x.D.map v8
theorem icells_0 (x : Itm) (q : Option Addr) (c : Nat) : (icells x q c)[0]? = some (.int .i64 x.N) := rfl
theorem icells_1 (x : Itm) (q : Option Addr) (c : Nat) : (icells x q c)[1]? = some (.slice q x.B.length c) := rfl
theorem icells_2 (x : Itm) (q : Option Addr) (c : Nat) (j : Nat) : (icells x q c)[2 + j]? = (x.D.map v8)[j]? := by
  unfold icells; rw [Nat.add_comm, List.getElem?_cons_succ, List.getElem?_cons_succ]
theorem icells_length {x : Itm} (h : x.ok) (q : Option Addr) (c : Nat) : (icells x q c).length = 34 := by
  unfold icells; simp [h.len]
theorem icells_one (x : Itm) (q : Option Addr) (c : Nat) : ∀ v ∈ icells x q c, v.oneCell' = true := by
  unfold icells
  intro v hv
  rcases List.mem_cons.1 hv with rfl | hv
  · simp [Value.oneCell']
  · rcases List.mem_cons.1 hv with rfl | hv
    · simp [Value.oneCell']
    · obtain ⟨n, _, rfl⟩ := List.mem_map.1 hv
      simp [Value.oneCell']
attribute [irreducible] icells
/-- An item, where its bytes lie, how much room they have. -/
abbrev Hdr := Itm × Option Addr × Nat
def cellsI (y : Hdr) : List Value := icells y.1 y.2.1 y.2.2
structure GoodI (w : World) (x : Itm) (q : Option Addr) (c : Nat) : Prop where
  ok : x.ok
  at_ : At w q (x.B.map v8)
  le : x.B.length ≤ c
  max : c ≤ 9223372036854775807
  nil : q = none → c = 0
theorem GoodI.below {w w' : World} {x : Itm} {q : Option Addr} {c : Nat} (h : GoodI w x q c) (hb : Below w.heap.size w w') : GoodI w' x q c := ⟨h.ok, h.at_.below hb, h.le, h.max, h.nil⟩
def ItemsAt (w : World) (p : Option Addr) (xs : List Itm) : Prop := ∃ ys : List Hdr, ys.map (·.1) = xs ∧ At w p (ys.flatMap cellsI) ∧ ∀ y ∈ ys, GoodI w y.1 y.2.1 y.2.2
theorem ItemsAt.below {w w' : World} {p : Option Addr} {xs : List Itm} (h : ItemsAt w p xs) (hb : Below w.heap.size w w') : ItemsAt w' p xs := by
  obtain ⟨ys, h1, h2, h3⟩ := h
  exact ⟨ys, h1, h2.below hb, fun y hy => (h3 y hy).below hb⟩
theorem ItemsAt.ok {w : World} {p : Option Addr} {xs : List Itm} (h : ItemsAt w p xs) : ∀ x ∈ xs, x.ok := by
  obtain ⟨ys, rfl, _, h3⟩ := h
  intro x hx
  obtain ⟨y, hy, rfl⟩ := List.mem_map.1 hx
  exact (h3 y hy).ok
theorem flat_length (ys : List Hdr) (h : ∀ y ∈ ys, y.1.ok) : (ys.flatMap cellsI).length = ys.length * 34 := by
  induction ys with
  | nil => rfl
  | cons y ys ih =>
    rw [List.flatMap_cons, List.length_append, ih (fun y hy => h y (List.mem_cons_of_mem _ hy)), List.length_cons]
    unfold cellsI
    rw [icells_length (h y (List.mem_cons_self ..))]
    omega
theorem flat_get (ys : List Hdr) (h : ∀ y ∈ ys, y.1.ok) (i : Nat) (hi : i < ys.length) (j : Nat) (v : Value) (hv : (cellsI ys[i])[j]? = some v) : (ys.flatMap cellsI)[i * 34 + j]? = some v := by
  induction ys generalizing i with
  | nil => simp at hi
  | cons y ys ih =>
    have hl : (cellsI y).length = 34 := icells_length (h y (List.mem_cons_self ..)) _ _
    rw [List.flatMap_cons]
    cases i with
    | zero =>
      simp at hv
      rw [Nat.zero_mul, Nat.zero_add, List.getElem?_append_left (List.getElem?_eq_some_iff.1 hv).1]
      exact hv
    | succ i =>
      simp at hv
      rw [List.getElem?_append_right (by omega), show (i + 1) * 34 + j - (cellsI y).length = i * 34 + j by rw [hl]; omega]
      exact ih (fun y hy => h y (List.mem_cons_of_mem _ hy)) i (by simpa using hi) hv
/-- The i-th item: where it lies, and its bytes. -/
theorem ItemsAt.get {w : World} {p : Option Addr} {xs : List Itm} (h : ItemsAt w p xs) (i : Nat) (hi : i < xs.length) :
    ∃ b off q c, p = some ⟨b, off, none⟩ ∧ w.rangeAt b (off + i * 34) (icells xs[i] q c) ∧ GoodI w xs[i] q c := by
  obtain ⟨ys, rfl, h2, h3⟩ := h
  rw [List.length_map] at hi
  have hok : ∀ y ∈ ys, y.1.ok := fun y hy => (h3 y hy).ok
  obtain ⟨b, off, rfl, hc⟩ := h2.addr (by rw [flat_length ys hok]; omega)
  refine ⟨b, off, (ys[i]).2.1, (ys[i]).2.2, rfl, fun j v hv => ?_, ?_⟩
  · rw [Nat.add_assoc]
    exact hc _ v (flat_get ys hok i hi j v (by simpa [cellsI] using hv))
  · simpa using h3 ys[i] (List.getElem_mem hi)
/-- What is left behind the first one: the address stays where the room is used up. -/
theorem ItemsAt.tail {w : World} {p : Option Addr} {x : Itm} {xs : List Itm} (h : ItemsAt w p (x :: xs)) (cap : Nat) (hc : xs.length + 1 ≤ cap) : ItemsAt w (if cap = 1 then p else p.map (·.add 34)) xs := by
  obtain ⟨ys, h1, h2, h3⟩ := h
  cases ys with
  | nil => simp at h1
  | cons y ys =>
    simp only [List.map_cons, List.cons.injEq] at h1
    obtain ⟨rfl, rfl⟩ := h1
    refine ⟨ys, rfl, ?_, fun z hz => h3 z (List.mem_cons_of_mem _ hz)⟩
    by_cases e : cap = 1
    · have : ys = [] := List.eq_nil_of_length_eq_zero (by simp at hc; omega)
      subst this
      exact At.nil _ _
    · rw [if_neg e]
      have hl : (cellsI y).length = 34 := icells_length (h3 y (List.mem_cons_self ..)).ok _ _
      obtain ⟨b, off, rfl, hcell⟩ := h2.addr (by rw [List.flatMap_cons, List.length_append, hl]; omega)
      have := At.back (w := w) (b := b) (off := off) (xs := cellsI y) (ys := ys.flatMap cellsI) (Or.inr ⟨b, off, rfl, by simpa [List.flatMap_cons] using hcell⟩)
      rw [hl] at this
      simpa [Addr.add_mid] using this
theorem rangeAt_id {w : World} {b o : Nat} {x : Itm} {q : Option Addr} {c : Nat} (h : w.rangeAt b o (icells x q c)) : w.rangeAt b (o + 2) (x.D.map v8) := fun j v hv => by
  rw [Nat.add_assoc]; exact h _ v (by rw [icells_2]; exact hv)
theorem Blk.rangeId {w : World} {g : Nat} {x : Itm} {q : Option Addr} {c : Nat} {t : TypeId} (h : Blk w g (icells x q c) t) : w.rangeAt g 2 (x.D.map v8) := by
  have := rangeAt_id (o := 0) h.range
  rwa [Nat.zero_add] at this
/-- Items that are told, or came in: a slice that reads as they are. -/
structure Told (w : World) (p : Option Addr) (n c : Nat) (l : List Itm) : Prop where
  len : n = l.length
  le : n ≤ c
  max : c ≤ 9223372036854775807
  nil : p = none → c = 0
  items : ItemsAt w p l
theorem setCells_heap (b : Nat) : ∀ (vs : List Value) (o : Nat) (w : World) (i : Nat), i ≠ b → (w.setCells b o vs).heap[i]? = w.heap[i]?
  | [], _, _, _, _ => rfl
  | v :: r, o, w, i, h => by
    rw [World.setCells, setCells_heap b r (o + 1) _ i h]
    exact Below.heap_setCell w ⟨b, o, none⟩ v i h
theorem setCells_below {B b : Nat} {a : World} (hb : B ≤ b) : ∀ (vs : List Value) (o : Nat) (w : World), Below B a w → Below B a (w.setCells b o vs)
  | [], _, _, h => h
  | v :: r, o, w, h => by rw [World.setCells]; exact setCells_below hb r (o + 1) _ (h.setCell hb v)
theorem Blk.setCells {g : Nat} {t : TypeId} : ∀ (vs : List Value) (o : Nat) (w : World) (pre mid post : List Value), Blk w g (pre ++ mid ++ post) t → pre.length = o → mid.length = vs.length → Blk (w.setCells g o vs) g (pre ++ vs ++ post) t
  | [], o, w, pre, mid, post, h, _, hm => by
    have : mid = [] := List.eq_nil_of_length_eq_zero hm
    subst this; exact h
  | v :: r, o, w, pre, mid, post, h, ho, hm => by
    cases mid with
    | nil => simp at hm
    | cons m mid =>
      rw [World.setCells]
      have h1 := h.set o v
      have e : (pre ++ (m :: mid) ++ post).set o v = (pre ++ [v]) ++ mid ++ post := by
        subst ho; simp
      rw [e] at h1
      have := Blk.setCells r (o + 1) _ (pre ++ [v]) mid post h1 (by simp [ho]) (by simpa using hm)
      simpa using this
theorem Blk.there {w : World} {g : Nat} {cs : List Value} {t : TypeId} (h : Blk w g cs t) (o n : Nat) (hn : o + n ≤ cs.length) : w.there g o n := fun j hj =>
  ⟨by rw [h.cell, List.getElem?_eq_getElem (by omega)]; rfl, h.free _⟩
theorem icells_set2 {x : Itm} (q : Option Addr) (c : Nat) (t : TypeId) {w : World} {g : Nat} (h : Blk w g (icells x q c) t) (D' : List Int) (hl : D'.length = x.D.length) : Blk (w.setCells g 2 (D'.map v8)) g (icells ⟨x.N, x.B, D'⟩ q c) t := by
  have e : ∀ (x : Itm), icells x q c = [.int .i64 x.N, .slice q x.B.length c] ++ x.D.map v8 ++ [] := fun x => by unfold icells; simp
  rw [e] at h ⊢
  exact Blk.setCells (D'.map v8) 2 w _ (x.D.map v8) [] h rfl (by simp [hl])
theorem icells_set1 (x : Itm) (q : Option Addr) (c : Nat) (B' : List Int) (q' : Option Addr) (c' : Nat) : (icells x q c).set 1 (.slice q' B'.length c') = icells ⟨x.N, B', x.D⟩ q' c' := by unfold icells; rfl
theorem icells_set0 (x : Itm) (q : Option Addr) (c : Nat) (n : Int) : (icells x q c).set 0 (.int .i64 n) = icells ⟨n, x.B, x.D⟩ q c := by unfold icells; rfl
section
variable {ops : Array Oper} {rest : List Oper} {o : Oper} {a : Act} {w : World} {Q : Exit → Act → World → Prop}
theorem wpList_box_new (hgd : o.guard = none) (ty : TypeId) (x : Operand) (ho : o.op = .box ty x) (cs : List Value) (hx : a.eval x = .agg cs.toArray)
    (h : ∀ w' g, Blk w' g cs ty → Below w.heap.size w w' → w.heap.size ≤ g → wpList P ops Q rest (a.put o.dst (.pointer (some ⟨g, 0, none⟩))) w') : wpList P ops Q (o :: rest) a w :=
  wpList_box_arr hgd ty x ho cs.toArray hx (h _ _ (by simpa using Blk.new w cs.toArray ty) ((Below.refl _ _).alloc (Nat.le_refl _) _) (Nat.le_refl _))
end
theorem wp_build' {o : Oper} {a : Act} {w : World} {K : Act → World → Prop} {Q : Exit → Act → World → Prop} (t : TypeId) (parts : Array (Nat × Operand)) (ho : o.op = .build t parts) (cs : Array Value)
    (hf : P.built t (parts.map fun (i, x) => (i, a.eval x)).toList = some cs) (h : K (a.put o.dst (.agg cs)) w) : o.wp P a w K Q :=
  wp_build t parts ho (by rw [hf]; rfl) (by rw [hf]; exact h)
theorem wpList_slice_run {ops : Array Oper} {rest : List Oper} {o : Oper} {a : Act} {w : World} {Q : Exit → Act → World → Prop} (hgd : o.guard = none) (t : TypeId) (x : Operand) (lo hi : Option Operand) (ho : o.op = .slice t x lo hi none) (V : Value)
    (hr : (Instr.sliceAt t (a.eval x) (lo.map a.eval) (hi.map a.eval) none).run P w = .ok V w) (h : wpList P ops Q rest (a.put o.dst V) w) : wpList P ops Q (o :: rest) a w := by
  refine wpList_plain hgd fun K hK => ?_
  unfold Oper.wp execOp
  simp only [ho, Option.map_none, Sem.run_bind, hr, Result.andThen_ok, Sem.run_pure]
  exact hK _ _ h
theorem size_of {e : TypeId} {s : Nat} (he : (P.info? e).map (fun i => i.size) = some s) (w : World) : (sizeOf e).run P w = .ok s w := by
  cases hq : P.info? e with
  | none => simp [hq] at he
  | some j => simp [hq] at he; simp [sizeOf, typeInfo, hq, he]
theorem run_cut1 {t e : TypeId} {s : Nat} (hu : P.underlying t = some (.slice e)) (he : (P.info? e).map (fun i => i.size) = some s) (p : Option Addr) (len cap : Nat) (h1 : 1 ≤ len) (w : World) :
    (Instr.sliceAt t (.slice p len cap) (some (.int .i64 1)) none none).run P w = .ok (.slice (if cap = 1 then p else p.map (·.add s)) (len - 1) (cap - 1)) w := by
  have hu' : P.underlying t = some (.slice (P.elem t)) := by rw [elem_of hu]; exact hu
  rw [run_sliceAt_slice w t _ _ _ _ hu', run_slice_l w t p len cap hu' .i64 1 (by omega) (by omega), elem_of hu, size_of he]
  simp [Result.andThen, sliced]
theorem item_info : (Tryz.prog.info? 118).map (fun i => i.zero) = some (some (.agg (icells ⟨0, [], Fld.zero32⟩ none 0).toArray)) := by unfold icells; kernel_rfl
theorem item_size : (Tryz.prog.info? 118).map (fun i => i.size) = some 34 := by kernel_rfl
theorem id_size : (Tryz.prog.info? 27).map (fun i => i.size) = some 32 := by kernel_rfl
theorem id_zero : Tryz.prog.built 27 [] = some (Fld.zero32.map v8).toArray := by kernel_rfl
theorem v8_one (l : List Int) : (l.map v8).toArray.all (·.oneCell') = true := by simp [Value.oneCell']
end
section
set_option linter.unusedSimpArgs false
set_option linter.unusedVariables false
open Go.RowKit Sha
variable {P : Program}
/-- A shape: how many cells; the bytes of its slice; the cells, where those lie at q with room for c. -/
structure Shp (V : Type) where
  n : Nat
  byt : V → List Int
  cells : V → Option Addr → Nat → List Value
  ok : V → Prop
  pos : 0 < n
  len : ∀ {x} q c, ok x → (cells x q c).length = n
  one : ∀ x q c, ∀ v ∈ cells x q c, v.oneCell' = true
  byte : ∀ {x}, ok x → ∀ m ∈ byt x, 0 ≤ m ∧ m ≤ 255
section
variable {V : Type} (S : Shp V)
abbrev Hd (V : Type) := V × Option Addr × Nat
def Shp.row (y : Hd V) : List Value := S.cells y.1 y.2.1 y.2.2
structure Shp.Good (w : World) (x : V) (q : Option Addr) (c : Nat) : Prop where
  ok : S.ok x
  at_ : At w q ((S.byt x).map v8)
  le : (S.byt x).length ≤ c
  max : c ≤ 9223372036854775807
  nil : q = none → c = 0
variable {S}
theorem Shp.Good.below {w w' : World} {x : V} {q : Option Addr} {c : Nat} (h : S.Good w x q c) (hb : Below w.heap.size w w') : S.Good w' x q c := ⟨h.ok, h.at_.below hb, h.le, h.max, h.nil⟩
variable (S)
def Shp.At (w : World) (p : Option Addr) (xs : List V) : Prop := ∃ ys : List (Hd V), ys.map (·.1) = xs ∧ Go.Proofs.YtbogjfmefkhglaaGreat.At w p (ys.flatMap S.row) ∧ ∀ y ∈ ys, S.Good w y.1 y.2.1 y.2.2
/-- A slice of them: what is told, or came in. -/
structure Shp.Told (w : World) (p : Option Addr) (n c : Nat) (l : List V) : Prop where
  len : n = l.length
  le : n ≤ c
  max : c ≤ 9223372036854775807
  nil : p = none → c = 0
  rows : S.At w p l
variable {S}
theorem Shp.At.below {w w' : World} {p : Option Addr} {xs : List V} (h : S.At w p xs) (hb : Below w.heap.size w w') : S.At w' p xs := by
  obtain ⟨ys, h1, h2, h3⟩ := h
  exact ⟨ys, h1, h2.below hb, fun y hy => (h3 y hy).below hb⟩
theorem Shp.At.none_ (w : World) (p : Option Addr) : S.At w p [] := ⟨[], rfl, Go.Proofs.YtbogjfmefkhglaaGreat.At.nil _ _, by simp⟩
theorem Shp.At.ok {w : World} {p : Option Addr} {xs : List V} (h : S.At w p xs) : ∀ x ∈ xs, S.ok x := by
  obtain ⟨ys, rfl, _, h3⟩ := h
  intro x hx
  obtain ⟨y, hy, rfl⟩ := List.mem_map.1 hx
  exact (h3 y hy).ok
theorem Shp.flat_length (ys : List (Hd V)) (h : ∀ y ∈ ys, S.ok y.1) : (ys.flatMap S.row).length = ys.length * S.n := by
  induction ys with
  | nil => simp
  | cons y ys ih =>
    rw [List.flatMap_cons, List.length_append, ih (fun y hy => h y (List.mem_cons_of_mem _ hy)), List.length_cons]
    unfold Shp.row
    rw [S.len _ _ (h y (List.mem_cons_self ..)), Nat.succ_mul]; omega
theorem Shp.flat_get (ys : List (Hd V)) (h : ∀ y ∈ ys, S.ok y.1) (i : Nat) (hi : i < ys.length) (j : Nat) (v : Value) (hv : (S.row ys[i])[j]? = some v) : (ys.flatMap S.row)[i * S.n + j]? = some v := by
  induction ys generalizing i with
  | nil => simp at hi
  | cons y ys ih =>
    have hl : (S.row y).length = S.n := S.len _ _ (h y (List.mem_cons_self ..))
    rw [List.flatMap_cons]
    cases i with
    | zero =>
      simp at hv
      rw [Nat.zero_mul, Nat.zero_add, List.getElem?_append_left (List.getElem?_eq_some_iff.1 hv).1]
      exact hv
    | succ i =>
      simp at hv
      rw [List.getElem?_append_right (by rw [hl, Nat.succ_mul]; omega), show (i + 1) * S.n + j - (S.row y).length = i * S.n + j by rw [hl, Nat.succ_mul]; omega]
      exact ih (fun y hy => h y (List.mem_cons_of_mem _ hy)) i (by simpa using hi) hv
theorem flat_mul {ys : List (Hd V)} (S : Shp V) (h : 0 < ys.length) : 0 < ys.length * S.n := Nat.mul_pos h S.pos
/-- The i-th one: where it lies, and its bytes. -/
theorem Shp.At.get {w : World} {p : Option Addr} {xs : List V} (h : S.At w p xs) (i : Nat) (hi : i < xs.length) :
    ∃ b off q c, p = some ⟨b, off, none⟩ ∧ w.rangeAt b (off + i * S.n) (S.cells xs[i] q c) ∧ S.Good w xs[i] q c := by
  obtain ⟨ys, rfl, h2, h3⟩ := h
  rw [List.length_map] at hi
  have hok : ∀ y ∈ ys, S.ok y.1 := fun y hy => (h3 y hy).ok
  obtain ⟨b, off, rfl, hc⟩ := h2.addr (by rw [Shp.flat_length ys hok]; exact flat_mul S (by omega))
  refine ⟨b, off, (ys[i]).2.1, (ys[i]).2.2, rfl, fun j v hv => ?_, ?_⟩
  · rw [Nat.add_assoc]
    exact hc _ v (Shp.flat_get ys hok i hi j v (by simpa [Shp.row] using hv))
  · simpa using h3 ys[i] (List.getElem_mem hi)
theorem Shp.Told.below {w w' : World} {p : Option Addr} {n c : Nat} {l : List V} (h : S.Told w p n c l) (hb : Below w.heap.size w w') : S.Told w' p n c l := ⟨h.len, h.le, h.max, h.nil, h.rows.below hb⟩
theorem Shp.Told.none_ (w : World) : S.Told w none 0 0 [] := ⟨rfl, by omega, by omega, fun _ => rfl, Shp.At.none_ w _⟩
variable (S)
variable {S}
theorem Shp.flat_one (ys : List (Hd V)) : ∀ v ∈ ys.flatMap S.row, v.oneCell' = true := by
  intro v hv
  obtain ⟨y, _, hv⟩ := List.mem_flatMap.1 hv
  exact S.one _ _ _ v hv
/-- What is told as a list of rows. -/
theorem Shp.Told.rows' {w : World} {p : Option Addr} {n c : Nat} {l : List V} (h : S.Told w p n c l) : ∃ ys : List (Hd V), ys.map (·.1) = l ∧ ys.length = n ∧ Go.Proofs.YtbogjfmefkhglaaGreat.At w p (ys.flatMap S.row) ∧ (∀ y ∈ ys, S.Good w y.1 y.2.1 y.2.2) ∧ (ys.flatMap S.row).length = n * S.n := by
  obtain ⟨ys, h1, h2, h3⟩ := h.rows
  have hl : ys.length = n := by rw [h.len, ← h1, List.length_map]
  exact ⟨ys, h1, hl, h2, h3, by rw [Shp.flat_length ys (fun y hy => (h3 y hy).ok), hl]⟩
end
end
section
set_option linter.unusedSimpArgs false
set_option linter.unusedVariables false
variable {P : Program}
theorem foldl_put : ∀ (vs : List Value) (pre mid post : List Value) (j : Nat) (off : Nat), pre.length = off + j → mid.length = vs.length →
    (vs.zipIdx j).foldl (fun (cs : Array Value) (x : Value × Nat) => cs.setIfInBounds (off + x.2) x.1) (pre ++ mid ++ post).toArray = (pre ++ vs ++ post).toArray
  | [], pre, mid, post, j, off, _, hm => by
    have : mid = [] := List.eq_nil_of_length_eq_zero hm
    subst this; simp
  | v :: vs, pre, mid, post, j, off, hp, hm => by
    cases mid with
    | nil => simp at hm
    | cons m mid =>
      rw [List.zipIdx_cons, List.foldl_cons]
      have e : (pre ++ (m :: mid) ++ post).toArray.setIfInBounds (off + j) v = ((pre ++ [v]) ++ mid ++ post).toArray := by
        rw [← hp, List.setIfInBounds_toArray]; simp
      rw [e, foldl_put vs (pre ++ [v]) mid post (j + 1) off (by simp; omega) (by simpa using hm)]
      simp
theorem put_cells (vs pre mid post : List Value) (off : Nat) (hp : pre.length = off) (hm : mid.length = vs.length) :
    (vs.toArray.zipIdx.foldl (fun (cs : Array Value) (x : Value × Nat) => cs.setIfInBounds (off + x.2) x.1) (pre ++ mid ++ post).toArray) = (pre ++ vs ++ post).toArray := by
  rw [← foldl_put vs pre mid post 0 off (by simpa using hp) hm, ← Array.foldl_toList]
  simp
/-- Parts one behind the other, all of one size, fill a row. -/
theorem fill_parts (s : Nat) : ∀ (css : List (List Value)) (i : Nat) (done rest : List Value), (∀ c ∈ css, c.length = s) → done.length = i * s → rest.length = css.length * s →
    Instr.fill (fun i => some (i * s, s)) (done ++ rest).toArray (css.zipIdx i |>.map fun c => (c.2, Value.agg c.1.toArray)) = some (done ++ css.flatten).toArray
  | [], i, done, rest, _, _, hr => by
    have : rest = [] := List.eq_nil_of_length_eq_zero (by simpa using hr)
    subst this; simp [Instr.fill]
  | c :: css, i, done, rest, hc, hd, hr => by
    have hl : c.length = s := hc c (List.mem_cons_self ..)
    have hr' : rest.length = css.length * s + s := by rw [hr, List.length_cons, Nat.succ_mul]
    rw [List.zipIdx_cons, List.map_cons, Instr.fill]
    dsimp only
    split
    · rename_i hne
      exfalso
      simp [Value.cells, hl, hd, hr'] at hne
      omega
    · show Instr.fill _ (Array.foldl _ (done ++ rest).toArray c.toArray.zipIdx) _ = _
      have e := put_cells c done (rest.take s) (rest.drop s) (i * s) hd (by rw [List.length_take, hl]; omega)
      rw [List.append_assoc, List.take_append_drop] at e
      rw [e, fill_parts s css (i + 1) (done ++ c) (rest.drop s) (fun c hc' => hc c (List.mem_cons_of_mem _ hc')) (by rw [List.length_append, hd, hl, Nat.succ_mul]) (by rw [List.length_drop]; omega)]
      simp
theorem run_build_items (w : World) (t e : TypeId) (s : Nat) (z : Value) (hs : 0 < s) (hu : P.underlying t = some (.slice e)) (he : (P.info? e).map (fun i => (i.zero, i.size)) = some (some z, s)) (css : List (List Value)) (hc : ∀ c ∈ css, c.length = s) (hk : css.length * s ≤ 16777216) :
    (Instr.buildSlice t css.length (css.zipIdx.map fun c => (c.2, Value.agg c.1.toArray)).toArray).run P w = .ok (.slice (some ⟨w.heap.size, 0, none⟩) css.length css.length) (w.alloc (.cells css.flatten.toArray e)) := by
  cases hq : P.info? e with
  | none => simp [hq] at he
  | some i =>
    simp [hq] at he
    obtain ⟨hz, hsz⟩ := he
    have h1 : (sizeOf e).run P w = .ok s w := by simp [sizeOf, typeInfo, hq, hsz]
    have h2 : (zeroValue e).run P w = .ok z w := by simp [zeroValue, typeInfo, hq, hz]
    have hf := fill_parts s css 0 [] ((Array.range (css.length * s)).map (fun x => z.cells[x % z.cells.size]!)).toList hc (by simp) (by simp)
    simp only [List.nil_append, Array.toArray_toList] at hf
    by_cases h0 : css.length * s = 0
    · have hn : css = [] := by
        cases css with
        | nil => rfl
        | cons c cs => rcases Nat.mul_eq_zero.1 h0 with h | h; simp at h; omega
      subst hn
      simp [go_sem, Instr.buildSlice, run_underlying hu, h1, Instr.fill]
    · have h16 : ¬ 16777216 < css.length * s := by omega
      simp [go_sem, Instr.buildSlice, run_underlying hu, h1, h2, h0, h16]
      unfold Value.cells at hf
      rw [hf]
      simp [go_sem]
end
section
set_option linter.unusedSimpArgs false
set_option linter.unusedVariables false
open Go.RowKit Sha
open Fld (Itm)
@[irreducible] def loadOp (t : TypeId) (v : Value) : Sem Next := do pure (.value (← Instr.loadAt t v))
@[irreducible] def buildOp (t : TypeId) (len : Nat) (parts : Array (Nat × Value)) : Sem Next := do pure (.value (← Instr.buildSlice t len parts))
theorem execOp_loadItem (ρ : Operand → Value) (dst : Option Tmp) (x : Operand) (ty : TypeId) (pos : String) (after : Array Edge) (guard : Option (Nat × Bool)) :
    execOp ρ { dst := dst, op := .load 118 x, type := ty, pos := pos, after := after, guard := guard } = loadOp 118 (ρ x) := by unfold loadOp; rfl
theorem execOp_buildItems (ρ : Operand → Value) (dst : Option Tmp) (len : Nat) (parts : Array (Nat × Operand)) (ty : TypeId) (pos : String) (after : Array Edge) (guard : Option (Nat × Bool)) :
    execOp ρ { dst := dst, op := .buildSlice 67 len parts, type := ty, pos := pos, after := after, guard := guard } = buildOp 67 len (parts.map fun (i, x) => (i, ρ x)) := by unfold buildOp; rfl
theorem execOp_loadId (ρ : Operand → Value) (dst : Option Tmp) (x : Operand) (ty : TypeId) (pos : String) (after : Array Edge) (guard : Option (Nat × Bool)) :
    execOp ρ { dst := dst, op := .load 27 x, type := ty, pos := pos, after := after, guard := guard } = loadOp 27 (ρ x) := by unfold loadOp; rfl
theorem run_loadOp {P : Program} {t : TypeId} {v u : Value} {w : World} (h : (Instr.loadAt t v).run P w = .ok u w) : (loadOp t v).run P w = .ok (.value u) w := by
  unfold loadOp; simp only [Sem.run_bind, h, Result.andThen_ok, Sem.run_pure]
theorem run_buildOp {P : Program} {t : TypeId} {len : Nat} {parts : Array (Nat × Value)} {u : Value} {w w' : World} (h : (Instr.buildSlice t len parts).run P w = .ok u w') : (buildOp t len parts).run P w = .ok (.value u) w' := by
  unfold buildOp; simp only [Sem.run_bind, h, Result.andThen_ok, Sem.run_pure]
theorem item_all : (Tryz.prog.info? 118).map (fun i => (i.zero, i.size)) = some (some (.agg (icells ⟨0, [], Fld.zero32⟩ none 0).toArray), 34) := by unfold icells; kernel_rfl
theorem item_all3 : (Tryz.prog.info? 118).map (fun i => (i.zero, i.size, i.bytes)) = some (some (.agg (icells ⟨0, [], Fld.zero32⟩ none 0).toArray), 34, 64) := by unfold icells; kernel_rfl
theorem build_item (w : World) {x : Itm} {q : Option Addr} {c : Nat} (hx : x.ok) : (buildOp 67 1 #[(0, .agg (icells x q c).toArray)]).run Tryz.prog w = .ok (.value (.slice (some ⟨w.heap.size, 0, none⟩) 1 1)) (w.alloc (.cells (icells x q c).toArray 118)) := by
  have := run_build_items (P := Tryz.prog) w 67 118 34 _ (by omega) Tryz.underlying67 item_all [icells x q c] (by intro c hc; simp at hc; subst hc; exact icells_length hx _ _) (by simp)
  exact run_buildOp (by simpa using this)
theorem load_id {w : World} {g o : Nat} {x : Itm} {q : Option Addr} {c : Nat} (hx : x.ok) (h : w.rangeAt g o (icells x q c)) : (loadOp 27 (.pointer (some ⟨g, o + 2, none⟩))).run Tryz.prog w = .ok (.value (.agg (x.D.map v8).toArray)) w :=
  run_loadOp (run_loadAt_mid w g (o + 2) 27 _ _ (rangeAt_id h) Tryz.underlying27 rfl (by rw [id_size, List.length_map, hx.len]))
theorem load_at {w : World} {g o : Nat} {x : Itm} {q : Option Addr} {c : Nat} (hx : x.ok) (h : w.rangeAt g o (icells x q c)) : (loadOp 118 (.pointer (some ⟨g, o, none⟩))).run Tryz.prog w = .ok (.value (.agg (icells x q c).toArray)) w :=
  run_loadOp (run_loadAt_mid w g o 118 _ _ h Tryz.underlying118 rfl (by rw [item_size, icells_length hx]))
end
section
set_option linter.unusedSimpArgs false
set_option linter.unusedVariables false
variable {P : Program} {ops : Array Oper} {o : Oper} {a : Act} {w : World} {Q : Exit → Act → World → Prop} {K : Act → World → Prop} {E : Prop}
/-- 'append(v, x...)': v the call's own, x whatever. -/
theorem step_app (hgd : o.guard = none) (s x : Operand) (t : TypeId) (ho : o.op = .call { callee := .builtin .append, args := #[s, x], argTypes := #[t, t] })
    (B : Nat) (e : TypeId) {z : Value} {by_ : Nat} (ht : P.underlying t = some (.slice e)) (hi : (P.info? e).map (fun i => (i.zero, i.size, i.bytes)) = some (some z, 1, by_)) (hz : z.cells.size = 1)
    (v : Value) (n : Nat) (xs : List Value) (hs : a.eval s = v) (hown : w.ownsRow B e 1 v n xs)
    (p : Option Addr) (m c : Nat) (news : List Value) (hx : a.eval x = .slice p m c) (hA : At w p news) (hl : news.length = m) (hn : p = none → c = 0) (hmc : m ≤ c) (h1 : ∀ u ∈ news, u.oneCell' = true)
    (hbytes : (n + m) * by_ ≤ 140737488355328) (hmax : n + m ≤ maxLen) (hB : B ≤ w.heap.size)
    (h : ∀ v' w', w'.ownsRow B e 1 v' (n + m) (xs ++ news) → w.grownBy w' v.ownBlock → RowKit.Below B w w' → B ≤ w'.heap.size → K (a.put o.dst v') w') :
    if Region.wanted o (yielded ops a.tmps) = true then Oper.wp P o a w K Q else E := by
  have hw : Region.wanted o (yielded ops a.tmps) = true := by simp [Region.wanted, hgd]
  rw [if_pos hw]
  obtain ⟨i, hi, hz0, hz1, hz2⟩ := info_parts hi
  have hblock : ∀ k, v.ownBlock = some k → B ≤ k := by
    intro k hk
    rcases hown.2 with ⟨hv, _⟩ | ⟨g, cap, cur, hv, hg, _⟩
    · rw [hv] at hk; cases hk
    · rw [hv] at hk; cases hk; exact hg
  cases p with
  | none =>
    have hc := hn rfl
    have hm : m = 0 := by omega
    subst hc hm
    have hnews : news = [] := List.eq_nil_of_length_eq_zero hl
    subst hnews
    have hrun := run_append_owned_none (P := P) (w := w) B t o.type e i 1 ht hi v n xs hown
    unfold Oper.wp
    simp [execOp, ho, resolve, invoke, builtin, hs, hx, hrun, Result.andThen]
    exact h v w (by simpa using hown) ⟨rfl, rfl, rfl, Nat.le_refl _, fun _ _ _ => rfl⟩ (RowKit.Below.refl _ _) hB
  | some ad =>
    refine wp_append_own w s x t ho B e i z 1 by_ ht hi hz0 hz1 hz2 hz (by decide) v n xs hs hown ad m c news hx (by omega) ?_ h1 hmax hbytes hB ?_
    · intro j u hj
      rcases hA with hA | ⟨b, off, hA, hc⟩
      · subst hA; simp at hj
      · cases hA; rw [Addr.add_mid]; exact hc j u hj
    · intro v' w' h1 h2 h3
      exact h v' w' h1 h2 ((RowKit.Below.refl B w).grown h2 hB hblock) (Nat.le_trans hB h2.size)
end
section
set_option linter.unusedSimpArgs false
set_option linter.unusedVariables false
/-- What lies in a slice's block are bytes, behind its length too. -/
def Ints8 (w : World) (v : Value) : Prop := ∀ g, v.ownBlock = some g → ∀ (j : Nat) u, w.cell? ⟨g, j, none⟩ = some u → ∃ n, u = .int .u8 n
structure Own8 (w : World) (B : Nat) (e : TypeId) (v : Value) (n : Nat) (xs : List Value) : Prop where
  row : w.ownsRow B e 1 v n xs
  ints : Ints8 w v
theorem Ints8.nil (w : World) : Ints8 w (.slice none 0 0) := fun g h => by cases h
theorem Own8.nil (w : World) (B : Nat) (e : TypeId) : Own8 w B e (.slice none 0 0) 0 [] := ⟨World.ownsRow_nil _ _ _ _, Ints8.nil _⟩
theorem Ints8.carry {w w' : World} {v : Value} (h : Ints8 w v) (hc : ∀ g, v.ownBlock = some g → w'.heap[g]? = w.heap[g]?) : Ints8 w' v := fun g hg j u hu => h g hg j u (by rw [← hu]; exact (World.cell?_of_block (hc g hg)).symm)
theorem Own8.alloc {w : World} {B n : Nat} {e : TypeId} {v : Value} {xs : List Value} (h : Own8 w B e v n xs) (o : Obj) : Own8 (w.alloc o) B e v n xs :=
  ⟨h.row.alloc o, h.ints.carry fun g hg => (World.grownBy_alloc w o none).block g (h.row.lt g hg).2 (by simp)⟩
theorem ints_block {w : World} {g n c : Nat} {cur : Array Value} {e : TypeId} {fr : Nat × Nat} (hh : w.heap[g]? = some (.cells cur e fr)) (h : ∀ u ∈ cur.toList, ∃ n, u = Value.int .u8 n) : Ints8 w (.slice (some ⟨g, 0, none⟩) n c) := by
  intro g' hg j u hu
  cases hg
  rw [cell_of_row w g j cur e fr hh] at hu
  exact h u (by rw [Array.mem_toList_iff]; exact Array.mem_of_getElem? hu)
theorem ints_zero (k : Nat) : ∀ u ∈ (Builtin.zeroCells (Value.cells (.int .u8 0)) k).toList, ∃ n, u = Value.int .u8 n := by
  intro u hu
  rw [Array.mem_toList_iff] at hu
  obtain ⟨i, hi, rfl⟩ := Array.mem_iff_getElem.1 hu
  have h0 : i % 1 = 0 := by omega
  exact ⟨0, by simp [Builtin.zeroCells, Value.cells, h0]⟩
theorem ints_row {w : World} {g : Nat} {cur : Array Value} {e : TypeId} {fr : Nat × Nat} {n c : Nat} (h : Ints8 w (.slice (some ⟨g, 0, none⟩) n c)) (hh : w.heap[g]? = some (.cells cur e fr)) : ∀ u ∈ cur.toList, ∃ n, u = Value.int .u8 n := by
  intro u hu
  rw [Array.mem_toList_iff] at hu
  obtain ⟨i, hi⟩ := Array.mem_iff_getElem?.1 hu
  exact h g rfl i u (by rw [cell_of_row w g i cur e fr hh]; exact hi)
section
variable {P : Program} {ops : Array Oper} {rest : List Oper} {o : Oper} {a : Act} {w : World} {Q : Exit → Act → World → Prop} {K : Act → World → Prop} {E : Prop}
theorem run_app8 (w : World) (B : Nat) (t ty e : TypeId) (i : TypeInfo) (by_ : Nat) (ht : P.underlying t = some (.slice e)) (hi : P.info? e = some i) (hz : i.zero = some (.int .u8 0)) (h1s : i.size = 1) (hby : i.bytes = by_)
    (v : Value) (n : Nat) (xs : List Value) (hown : Own8 w B e v n xs)
    (ad : Addr) (m c : Nat) (news : List Value) (hl : news.length = m) (hnews : ∀ j u, news[j]? = some u → w.cell? (ad.add j) = some u) (h1 : ∀ u ∈ news, ∃ n, u = Value.int .u8 n)
    (hmax : n + m ≤ maxLen) (hbytes : (n + m) * by_ ≤ 140737488355328) (hB : B ≤ w.heap.size) :
    ∃ v' w', (Builtin.append_ #[t, t] ty #[v, .slice (some ad) m c]).run P w = .ok v' w' ∧ Own8 w' B e v' (n + m) (xs ++ news) ∧ w.grownBy w' v.ownBlock := by
  have hone : ∀ u ∈ news, u.oneCell' = true := fun u hu => by obtain ⟨k, rfl⟩ := h1 u hu; rfl
  obtain ⟨v', w', hr, h2, h3, _⟩ := run_append_own (P := P) w B t ty e i (.int .u8 0) 1 by_ ht hi hz h1s hby rfl (by decide) v n xs hown.row ad m c news (by omega) hnews hone hmax hbytes hB
  refine ⟨v', w', hr, ⟨h2, ?_⟩, h3⟩
  have hsmall : n + m ≤ 9223372036854775807 := by simp only [maxLen] at hmax; omega
  subst hby
  rcases hown.row.2 with ⟨rfl, rfl⟩ | ⟨g, cap, cur, rfl, hbg, hg, hnc, hcm, hcs, htake⟩
  · by_cases hm : m = 0
    · subst hm
      have hn : news = [] := List.eq_nil_of_length_eq_zero hl
      subst hn
      have hr' : (Builtin.append_ #[t, t] ty #[.slice none 0 0, .slice (some ad) 0 c]).run P w = .ok (.slice none 0 0) w := by
        simp [Builtin.append_, run_underlying ht, sizeOf, typeInfo, hi, Builtin.lenOf, Builtin.firstCells, loadCells, loadCellsFrom]
      rw [hr'] at hr
      cases hr
      exact Ints8.nil _
    · have hr' := run_append_nil (P := P) w t ty e i (.int .u8 0) ht hi hz ad m c news (by rw [h1s]; omega) hnews (by omega) (by omega) (by have hb := hbytes; simp only [Nat.zero_add] at hb; omega)
      rw [hr'] at hr
      cases hr
      refine ints_block (heap_alloc_new w.drew _) fun u hu => ?_
      rw [Array.toList_append, List.mem_append] at hu
      rcases hu with hu | hu
      · exact h1 u (by simpa using hu)
      · exact ints_zero _ u hu
  · by_cases hroom : n + m ≤ cap
    · have hfit : n * i.size + news.length ≤ cur.size := by rw [h1s, hcs]; omega
      have hr' := run_append_room (P := P) w t ty e i ht hi g n cap cur hg ad m c news (by rw [h1s]; omega) hnews hone hroom hfit
      rw [hr'] at hr
      cases hr
      refine ints_block (setRow_heap w g cur _ e _ hg) fun u hu => ?_
      have hi := ints_row hown.ints hg
      simp only [List.mem_append] at hu
      rcases hu with (hu | hu) | hu
      · exact hi u (List.mem_of_mem_take hu)
      · exact h1 u hu
      · exact hi u (List.mem_of_mem_drop hu)
    · have holds : ∀ j u, xs[j]? = some u → w.cell? ((⟨g, 0, none⟩ : Addr).add j) = some u := hown.row.cells (g := g) rfl
      have hr' := run_append_grow (P := P) w t ty e i (.int .u8 0) ht hi hz ⟨g, 0, none⟩ n cap xs (by rw [h1s]; exact hown.row.1) holds ad m c news (by rw [h1s]; omega) hnews (by omega) (by omega) (growslice_fits (by omega) hbytes)
      rw [hr'] at hr
      cases hr
      refine ints_block (heap_alloc_new w.drew _) fun u hu => ?_
      rw [Array.toList_append, Array.toList_append, List.mem_append, List.mem_append] at hu
      have hi := ints_row hown.ints hg
      rcases hu with (hu | hu) | hu
      · exact hi u (by
          have : u ∈ xs := by simpa using hu
          rw [← htake] at this
          exact List.mem_of_mem_take this)
      · exact h1 u (by simpa using hu)
      · exact ints_zero _ u hu
theorem wp_app8 (s x : Operand) (t : TypeId) (ho : o.op = .call { callee := .builtin .append, args := #[s, x], argTypes := #[t, t] })
    (B : Nat) (e : TypeId) {by_ : Nat} (ht : P.underlying t = some (.slice e)) (hi : (P.info? e).map (fun i => (i.zero, i.size, i.bytes)) = some (some (.int .u8 0), 1, by_))
    (v : Value) (n : Nat) (xs : List Value) (hs : a.eval s = v) (hown : Own8 w B e v n xs)
    (p : Option Addr) (m c : Nat) (news : List Value) (hx : a.eval x = .slice p m c) (hA : At w p news) (hl : news.length = m) (hn : p = none → c = 0) (hmc : m ≤ c) (h1 : ∀ u ∈ news, ∃ n, u = Value.int .u8 n)
    (hbytes : (n + m) * by_ ≤ 140737488355328) (hmax : n + m ≤ maxLen) (hB : B ≤ w.heap.size)
    (h : ∀ v' w', Own8 w' B e v' (n + m) (xs ++ news) → w.grownBy w' v.ownBlock → RowKit.Below B w w' → B ≤ w'.heap.size → K (a.put o.dst v') w') : o.wp P a w K Q := by
  obtain ⟨i, hi, hz0, hz1, hz2⟩ := info_parts hi
  have hblock : ∀ k, v.ownBlock = some k → B ≤ k := fun k hk => (hown.row.lt k hk).1
  cases p with
  | none =>
    have hc := hn rfl
    have hm : m = 0 := by omega
    subst hc hm
    have hnews : news = [] := List.eq_nil_of_length_eq_zero hl
    subst hnews
    have hrun := run_append_owned_none (P := P) (w := w) B t o.type e i 1 ht hi v n xs hown.row
    unfold Oper.wp
    simp [execOp, ho, resolve, invoke, builtin, hs, hx, hrun, Result.andThen]
    exact h v w (by simpa using hown) ⟨rfl, rfl, rfl, Nat.le_refl _, fun _ _ _ => rfl⟩ (RowKit.Below.refl _ _) hB
  | some ad =>
    obtain ⟨v', w', hr, h2, h3⟩ := run_app8 (P := P) w B t o.type e i by_ ht hi hz0 hz1 hz2 v n xs hown ad m c news hl (by
      intro j u hj
      rcases hA with hA | ⟨b, off, hA, hc⟩
      · subst hA; simp at hj
      · cases hA; rw [Addr.add_mid]; exact hc j u hj) h1 hmax hbytes hB
    unfold Oper.wp
    simp [execOp, ho, resolve, invoke, builtin, hs, hx, hr, Result.andThen]
    exact h v' w' h2 h3 ((RowKit.Below.refl B w).grown h3 hB hblock) (Nat.le_trans hB h3.size)
theorem wpList_app8 (hgd : o.guard = none) (s x : Operand) (t : TypeId) (ho : o.op = .call { callee := .builtin .append, args := #[s, x], argTypes := #[t, t] })
    (B : Nat) (e : TypeId) {by_ : Nat} (ht : P.underlying t = some (.slice e)) (hi : (P.info? e).map (fun i => (i.zero, i.size, i.bytes)) = some (some (.int .u8 0), 1, by_))
    (v : Value) (n : Nat) (xs : List Value) (hs : a.eval s = v) (hown : Own8 w B e v n xs)
    (p : Option Addr) (m c : Nat) (news : List Value) (hx : a.eval x = .slice p m c) (hA : At w p news) (hl : news.length = m) (hn : p = none → c = 0) (hmc : m ≤ c) (h1 : ∀ u ∈ news, ∃ n, u = Value.int .u8 n)
    (hbytes : (n + m) * by_ ≤ 140737488355328) (hmax : n + m ≤ maxLen) (hB : B ≤ w.heap.size)
    (h : ∀ v' w', Own8 w' B e v' (n + m) (xs ++ news) → w.grownBy w' v.ownBlock → RowKit.Below B w w' → B ≤ w'.heap.size → wpList P ops Q rest (a.put o.dst v') w') : wpList P ops Q (o :: rest) a w :=
  wpList_plain hgd fun _ hK => wp_app8 s x t ho B e ht hi v n xs hs hown p m c news hx hA hl hn hmc h1 hbytes hmax hB fun v' w' h1 h2 h3 h4 => hK _ _ (h v' w' h1 h2 h3 h4)
theorem step_app8 (hgd : o.guard = none) (s x : Operand) (t : TypeId) (ho : o.op = .call { callee := .builtin .append, args := #[s, x], argTypes := #[t, t] })
    (B : Nat) (e : TypeId) {by_ : Nat} (ht : P.underlying t = some (.slice e)) (hi : (P.info? e).map (fun i => (i.zero, i.size, i.bytes)) = some (some (.int .u8 0), 1, by_))
    (v : Value) (n : Nat) (xs : List Value) (hs : a.eval s = v) (hown : Own8 w B e v n xs)
    (p : Option Addr) (m c : Nat) (news : List Value) (hx : a.eval x = .slice p m c) (hA : At w p news) (hl : news.length = m) (hn : p = none → c = 0) (hmc : m ≤ c) (h1 : ∀ u ∈ news, ∃ n, u = Value.int .u8 n)
    (hbytes : (n + m) * by_ ≤ 140737488355328) (hmax : n + m ≤ maxLen) (hB : B ≤ w.heap.size)
    (h : ∀ v' w', Own8 w' B e v' (n + m) (xs ++ news) → w.grownBy w' v.ownBlock → RowKit.Below B w w' → B ≤ w'.heap.size → K (a.put o.dst v') w') :
    if Region.wanted o (yielded ops a.tmps) = true then Oper.wp P o a w K Q else E := by
  have hw : Region.wanted o (yielded ops a.tmps) = true := by simp [Region.wanted, hgd]
  rw [if_pos hw]
  exact wp_app8 s x t ho B e ht hi v n xs hs hown p m c news hx hA hl hn hmc h1 hbytes hmax hB h
end
theorem ints_map (l : List Int) : ∀ u ∈ l.map (Value.int .u8), ∃ n, u = Value.int .u8 n := by
  intro u hu
  obtain ⟨n, _, rfl⟩ := List.mem_map.1 hu
  exact ⟨n, rfl⟩
end
end Go.Proofs.YtbogjfmefkhglaaGreat
