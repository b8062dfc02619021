/-
  The kit's CopyBytes and SameBytes; small laws on what lies in memory.
  Two arrays of integers compared with '==': alike just if all their elements are.
  Items in memory: 34 cells each (a number, a slice of bytes, an id). What lies from an address on; boxes and stores under a new name of the world.
-/
import Derived.Test.YteepaoklibflpaaRows
import Derived.Test.YteepaoklibflpaaR8
import Derived.Test.YteepaoklibflpaaR3
import Derived.Laws.BytesArg
import Derived.WalkSpells
import Derived.IntWalk
import Derived.WalkLawsBesides
import Derived.Laws.StructEq
import Derived.Test.YteepaoklibflpaaR1
import Derived.Deep.Upon
import Derived.Laws.CopyOwn
import Derived.Lib.OthersKept
import Derived.BigFrame
namespace Go.Proofs.Yteepaoklibflpaa
section
set_option linter.unusedSimpArgs false
set_option linter.unusedVariables false
open Go.RowKit Sha
theorem kbyte_info : (Try.prog.info? 5).map (fun i => (i.zero, i.size, i.bytes)) = some (some (.int .u8 0), 1, 1) := by kernel_rfl
theorem kslice1 : (Try.prog.info? 5).map (fun i => i.size) = some 1 := by kernel_rfl
theorem kone8 (l : List Int) : ∀ u ∈ l.map v8, u.oneCell' = true := by simp [Value.oneCell']
theorem at_made (w : World) (cs : List Value) (t : TypeId) : At (w.alloc (.cells cs.toArray t)) (some ⟨w.heap.size, 0, none⟩) cs := by
  refine Or.inr ⟨_, 0, rfl, fun i v hi => ?_⟩
  rw [Nat.zero_add, (Blk.new w cs.toArray t).cell]; exact hi
set_option maxHeartbeats 400000 in
theorem copy_any (zs : List Int) (n : Nat) (p : Option Addr) (cap : Nat) (w : World) (hn : zs.length = n) (hA : At w p (zs.map v8)) (hc : n ≤ cap) (hp : p = none → cap = 0) (hm : n ≤ 140737488355328) :
    Calls Try.prog 16 #[.slice p n cap] w fun e w' => ∃ v, e = .returned v ∧ w'.ownsRow w.heap.size 5 1 v n (zs.map v8) ∧ Below w.heap.size w w' := by
  have HA := Lib.hid hA
  have Hn := Lib.hid hn
  clear hA hn
  have hown0 := World.ownsRow_made (base := w.heap.size) (size := 1) (e := 5) w #[] 0 (Nat.le_refl _) (by decide) rfl
  have HO := Lib.hid hown0
  clear hown0
  go_enter Try.func16, Try.ntmps16
  go_wp2_with (at_builtin; refine wpList_app rfl (.tmp 3) (.tmp 4) 28 rfl w.heap.size 5 Try.underlying28 kbyte_info rfl _ 0 [] rfl HO.out p n cap (zs.map v8) rfl (HA.out.alloc _) (by simp [Hn.out]) hp hc (kone8 _) (by omega) (by unfold maxLen; omega) (by simp) ?_; intro v2 w2 hown2 _ hb2 hs2 _; simp only [Nat.zero_add, List.nil_append] at hown2)
  go_ret
  exact ⟨_, rfl, hown2, ((Below.refl w.heap.size w).alloc (Nat.le_refl _) _).trans hb2⟩
theorem run_conv_at {P : Program} (w : World) (src dst e : TypeId) (hs : P.underlying src = some (.slice e)) (he : P.underlying e = some (.int .u8)) (hd : P.underlying dst = some .string) (xs : List Int) (n : Nat) (p : Option Addr) (c : Nat) (hn : xs.length = n) (hA : At w p (xs.map v8)) :
    (convert src dst (.slice p n c)).run P w = .ok (.string (strOfNums xs)) w := by
  cases p with
  | none =>
    have h0 : xs = [] := by
      rcases hA with h | ⟨b, off, h, _⟩
      · simpa using h
      · cases h
    subst h0 hn
    exact run_convert_bytes_nil w src e hs he _ c dst hd
  | some a =>
    by_cases h0 : xs = []
    · subst h0 hn
      rw [run_convert_bytes_string w src dst e _ _ c hs he hd, run_bytesToString w _ _ c [] (by simpa using run_loadCells_list (P := P) w a [] (fun j v hj => by simp at hj))]
      rfl
    · obtain ⟨b, off, ha, hc⟩ := hA.addr (by rw [List.length_map]; exact List.length_pos_iff.2 h0)
      cases ha
      exact run_convert_bytes_arg w src e hs he b off n c xs hn (fun i hi => hc i _ (by rw [List.getElem?_map, List.getElem?_eq_getElem (by omega), List.getD_eq_getElem?_getD, List.getElem?_eq_getElem (by omega)]; rfl)) dst hd
theorem strOfNums_toList (xs : List Int) : (strOfNums xs).toList = xs.map fun n => UInt8.ofNat n.toNat := by
  rw [ByteArray.toList_eq, strOfNums_data]
theorem strOfNums_inj (xs ys : List Int) (hx : ∀ n ∈ xs, 0 ≤ n ∧ n ≤ 255) (hy : ∀ n ∈ ys, 0 ≤ n ∧ n ≤ 255) : ((strOfNums xs).toList == (strOfNums ys).toList) = decide (xs = ys) := by
  rw [Bool.eq_iff_iff, beq_iff_eq, decide_eq_true_iff, strOfNums_toList, strOfNums_toList]
  constructor
  · intro h
    apply List.ext_getElem
    · simpa using congrArg List.length h
    · intro i h1 h2
      have h3 := congrArg (·[i]?) h
      simp [h1, h2] at h3
      have h4 := congrArg UInt8.toNat h3
      have b1 := hx xs[i] (List.getElem_mem h1)
      have b2 := hy ys[i] (List.getElem_mem h2)
      simp at h4
      omega
  · intro h; rw [h]
set_option maxHeartbeats 400000 in
theorem same_any (xs ys : List Int) (n m : Nat) (p q : Option Addr) (c d : Nat) (w : World) (hn : xs.length = n) (hm : ys.length = m) (hx : At w p (xs.map v8)) (hy : At w q (ys.map v8)) (bx : ∀ n ∈ xs, 0 ≤ n ∧ n ≤ 255) (by_ : ∀ n ∈ ys, 0 ≤ n ∧ n ≤ 255) :
    Calls Try.prog 15 #[.slice p n c, .slice q m d] w fun e w' => e = .returned (.bool (decide (xs = ys))) ∧ w = w' := by
  have h1 := run_conv_at (P := Try.prog) w 28 9 5 Try.underlying28 Try.underlying5 Try.underlying9 xs n p c hn hx
  have h2 := run_conv_at (P := Try.prog) w 28 9 5 Try.underlying28 Try.underlying5 Try.underlying9 ys m q d hm hy
  have HI := Lib.hid (strOfNums_inj xs ys bx by_)
  clear hn hm hx hy bx by_
  go_enter Try.func15, Try.ntmps15
  go_wp2_with fail
  go_ret
  exact ⟨congrArg (fun b => Ending.returned (Value.bool b)) HI.out, rfl⟩
theorem own_at_g {w : World} {B n g c : Nat} {e : TypeId} {xs : List Value} (h : w.ownsRow B e 1 (.slice (some ⟨g, 0, none⟩) n c) n xs) : At w (some ⟨g, 0, none⟩) xs := by
  obtain ⟨p, cap, hv, _, _, hA, _⟩ := own_at h
  cases hv; exact hA
theorem At.front {w : World} {a : Option Addr} {xs ys : List Value} (h : At w a (xs ++ ys)) : At w a xs := by
  rcases h with h | ⟨b, off, ha, hc⟩
  · exact Or.inl (List.append_eq_nil_iff.1 h).1
  · exact Or.inr ⟨b, off, ha, fun i v hi => hc i v (by rw [List.getElem?_append_left (by by_cases hl : i < xs.length; exact hl; rw [List.getElem?_eq_none (by omega)] at hi; cases hi)]; exact hi)⟩
theorem At.back {w : World} {b off : Nat} {xs ys : List Value} (h : At w (some ⟨b, off, none⟩) (xs ++ ys)) : At w (some ⟨b, off + xs.length, none⟩) ys := by
  rcases h with h | ⟨b', off', ha, hc⟩
  · exact Or.inl (List.append_eq_nil_iff.1 h).2
  · cases ha
    exact Or.inr ⟨b, off + xs.length, rfl, fun i v hi => by rw [Nat.add_assoc]; exact hc _ v (by rw [List.getElem?_append_right (by omega), Nat.add_sub_cancel_left]; exact hi)⟩
theorem same_true (xs : List Int) (n m : Nat) (p q : Option Addr) (c d : Nat) (w : World) (hn : xs.length = n) (hm : xs.length = m) (hx : At w p (xs.map v8)) (hy : At w q (xs.map v8)) (bx : ∀ n ∈ xs, 0 ≤ n ∧ n ≤ 255) :
    Calls Try.prog 15 #[.slice p n c, .slice q m d] w fun e w' => e = .returned (.bool true) ∧ w = w' :=
  (same_any xs xs n m p q c d w hn hm hx hy bx bx).mono fun _ _ ⟨he, hw⟩ => ⟨by rw [he]; simp, hw⟩
end
section
set_option linter.unusedSimpArgs false
set_option linter.unusedVariables false
variable {P : Program}
theorem run_part_one {e : TypeId} {d : TypeDesc} (hue : P.underlying e = some d) (hna : (match d with | .struct _ | .array _ _ => true | _ => false) = false) (cs : Array Value) (i : Nat) (v : Value) (hv : cs[i]? = some v) (w : World) :
    (part e cs i).run P w = .ok v w := by
  have hagg : (isAgg e).run P w = .ok false w := by
    unfold isAgg
    rw [Sem.run_bind, run_underlying hue w]
    cases d <;> simp_all
  simp [part, hagg, hv]
/-- The loop over the elements from the j-th on. -/
theorem run_eq_loop (w : World) (d : Nat) (e : TypeId) (k : IntKind) (hue : P.underlying e = some (.int k)) (xs ys : List Int) (hl : xs.length = ys.length) :
    ∀ (m j : Nat), j + m = xs.length →
    (forIn (List.range' j m) ((none : Option Bool), ()) fun i __s => (do
            let a ← part e (xs.map (Value.int k)).toArray (i * 1)
            let b ← part e (ys.map (Value.int k)).toArray (i * 1)
            let r ← Op.equalIn (d + 1) e a b
            if (!r) = true then pure (ForInStep.done (some false, ())) else pure (ForInStep.yield (none, ())) : Sem (ForInStep (Option Bool × Unit)))).run P w
      = .ok (if xs.drop j = ys.drop j then ((none : Option Bool), ()) else (some false, ())) w
  | 0, j, h => by
    have h1 : xs.drop j = [] := by rw [List.drop_eq_nil_iff]; omega
    have h2 : ys.drop j = [] := by rw [List.drop_eq_nil_iff]; omega
    simp [h1, h2, Sem.run_pure]
  | m + 1, j, h => by
    have hjx : j < xs.length := by omega
    have hjy : j < ys.length := by omega
    have hx : (xs.map (Value.int k)).toArray[j]? = some (.int k xs[j]) := by simp [hjx]
    have hy : (ys.map (Value.int k)).toArray[j]? = some (.int k ys[j]) := by simp [hjy]
    have ih := run_eq_loop w d e k hue xs ys hl m (j + 1) (by omega)
    have dx : xs.drop j = xs[j] :: xs.drop (j + 1) := List.drop_eq_getElem_cons hjx
    have dy : ys.drop j = ys[j] :: ys.drop (j + 1) := List.drop_eq_getElem_cons hjy
    rw [List.range'_succ, List.forIn_cons]
    simp only [Sem.run_bind, Nat.mul_one, run_part_one hue rfl _ _ _ hx, run_part_one hue rfl _ _ _ hy, run_equalIn_int (P := P) w d e k k _ _ hue, Result.andThen_ok]
    by_cases hb : xs[j] = ys[j]
    · simp only [hb, beq_self_eq_true, Bool.not_true, Bool.false_eq_true, if_false, Sem.run_pure, Result.andThen_ok]
      simp only [Nat.mul_one] at ih
      have hiff : (xs.drop j = ys.drop j) = (xs.drop (j + 1) = ys.drop (j + 1)) := by
        rw [dx, dy, hb]; exact propext ⟨fun h => (List.cons.inj h).2, fun h => by rw [h]⟩
      rw [ih]; simp only [hiff]
    · have hb2 : (xs[j] == ys[j]) = false := by simpa using hb
      simp only [hb2, Bool.not_false, if_true, Sem.run_pure, Result.andThen_ok]
      have hne : ¬ xs.drop j = ys.drop j := by rw [dx, dy]; intro h; exact hb (List.cons.inj h).1
      rw [if_neg hne]
theorem run_equalIn_arr (w : World) (d : Nat) (t e : TypeId) (n : Nat) (k : IntKind) (hu : P.underlying t = some (.array n e)) (hue : P.underlying e = some (.int k)) (he : (P.info? e).map (fun i => i.size) = some 1)
    (xs ys : List Int) (hx : xs.length = n) (hy : ys.length = n) :
    (Op.equalIn (d + 2) t (.agg (xs.map (Value.int k)).toArray) (.agg (ys.map (Value.int k)).toArray)).run P w = .ok (decide (xs = ys)) w := by
  have h2 : (sizeOf e).run P w = .ok 1 w := by
    cases hq : P.info? e with
    | none => simp [hq] at he
    | some j => simp [hq] at he; simp [sizeOf, typeInfo, hq, he]
  rw [Op.equalIn]
  simp only [Sem.run_bind, run_underlying hu, Result.andThen_ok, h2]
  rw [Std.Legacy.Range.forIn_eq_forIn_range']
  have := run_eq_loop w d e k hue xs ys (by omega) n 0 (by omega)
  simp only [Std.Legacy.Range.size, Nat.sub_zero, Nat.add_sub_cancel, Nat.div_one] at this ⊢
  rw [this]
  simp only [List.drop_zero, Result.andThen_ok]
  by_cases h : xs = ys
  · simp [h, Sem.run_pure]
  · simp [h, Sem.run_pure]
/-- '==' between two arrays, as an operation yields it. -/
theorem run_eql_arr (w : World) (x y : Operand) (t e : TypeId) (n : Nat) (k : IntKind) (hu : P.underlying t = some (.array n e)) (hue : P.underlying e = some (.int k)) (he : (P.info? e).map (fun i => i.size) = some 1)
    (xs ys : List Int) (hx : xs.length = n) (hy : ys.length = n) :
    (do eqGuard .eql t x y (.agg (xs.map (Value.int k)).toArray) (.agg (ys.map (Value.int k)).toArray); binOp .eql t (.agg (xs.map (Value.int k)).toArray) (.agg (ys.map (Value.int k)).toArray) : Sem Value).run P w = .ok (.bool (decide (xs = ys))) w := by
  have hg : P.eqGuardType P.depth t = false := by
    unfold Program.depth
    simp [Program.eqGuardType, hu, hue]
  have hq : (Op.equal t (.agg (xs.map (Value.int k)).toArray) (.agg (ys.map (Value.int k)).toArray)).run P w = .ok (decide (xs = ys)) w :=
    run_equalIn_arr w 9998 t e n k hu hue he xs ys hx hy
  simp [eqGuard, binOp, hg, hq, Sem.run_pure]
theorem run_neq_arr (w : World) (x y : Operand) (t e : TypeId) (n : Nat) (k : IntKind) (hu : P.underlying t = some (.array n e)) (hue : P.underlying e = some (.int k)) (he : (P.info? e).map (fun i => i.size) = some 1)
    (xs ys : List Int) (hx : xs.length = n) (hy : ys.length = n) :
    (do eqGuard .neq t x y (.agg (xs.map (Value.int k)).toArray) (.agg (ys.map (Value.int k)).toArray); binOp .neq t (.agg (xs.map (Value.int k)).toArray) (.agg (ys.map (Value.int k)).toArray) : Sem Value).run P w = .ok (.bool (!decide (xs = ys))) w := by
  have hg : P.eqGuardType P.depth t = false := by
    unfold Program.depth
    simp [Program.eqGuardType, hu, hue]
  have hq : (Op.equal t (.agg (xs.map (Value.int k)).toArray) (.agg (ys.map (Value.int k)).toArray)).run P w = .ok (decide (xs = ys)) w :=
    run_equalIn_arr w 9998 t e n k hu hue he xs ys hx hy
  simp [eqGuard, binOp, hg, hq, Sem.run_pure]
section
variable {ops : Array Oper} {rest : List Oper} {o : Oper} {a : Act} {w : World} {Q : Exit → Act → World → Prop} {C : World → Prop} {K : Act → Prop}
theorem wpList_eql_arr (hgd : o.guard = none) (t : TypeId) (x y : Operand) (r : TypeId) (ho : o.op = .binOp .eql t x y r) (e : TypeId) (n : Nat) (k : IntKind) (hu : P.underlying t = some (.array n e)) (hue : P.underlying e = some (.int k)) (he : (P.info? e).map (fun i => i.size) = some 1)
    (xs ys : List Int) (hx : a.eval x = .agg (xs.map (Value.int k)).toArray) (hy : a.eval y = .agg (ys.map (Value.int k)).toArray) (hxl : xs.length = n) (hyl : ys.length = n)
    (h : wpList P ops Q rest (a.put o.dst (.bool (decide (xs = ys)))) w) : wpList P ops Q (o :: rest) a w := by
  refine wpList_plain hgd fun K hK => ?_
  unfold Oper.wp execOp
  have hr := run_eql_arr (P := P) w x y t e n k hu hue he xs ys hxl hyl
  simp only [ho, hx, hy]
  rw [Sem.run_bind, hr]
  simp only [Result.andThen_ok, Sem.run_pure]
  exact hK _ _ h
theorem quiet_eql_arr (t : TypeId) (x y : Operand) (r : TypeId) (ho : o.op = .binOp .eql t x y r) (e : TypeId) (n : Nat) (k : IntKind) (hu : P.underlying t = some (.array n e)) (hue : P.underlying e = some (.int k)) (he : (P.info? e).map (fun i => i.size) = some 1)
    (xs ys : List Int) (hx : a.eval x = .agg (xs.map (Value.int k)).toArray) (hy : a.eval y = .agg (ys.map (Value.int k)).toArray) (hxl : xs.length = n) (hyl : ys.length = n)
    (h : K (a.put o.dst (.bool (decide (xs = ys))))) : o.quiet P a C K :=
  ⟨_, fun w _ => by
    have hr := run_eql_arr (P := P) w x y t e n k hu hue he xs ys hxl hyl
    unfold Oper.quietAt execOp
    simp only [ho, hx, hy]
    rw [Sem.run_bind, hr]
    simp only [Result.andThen_ok, Sem.run_pure]
    exact ⟨rfl, rfl⟩, h⟩
theorem wp_eql_arr {K : Act → World → Prop} (t : TypeId) (x y : Operand) (r : TypeId) (ho : o.op = .binOp .eql t x y r) (e : TypeId) (n : Nat) (k : IntKind) (hu : P.underlying t = some (.array n e)) (hue : P.underlying e = some (.int k)) (he : (P.info? e).map (fun i => i.size) = some 1)
    (xs ys : List Int) (hx : a.eval x = .agg (xs.map (Value.int k)).toArray) (hy : a.eval y = .agg (ys.map (Value.int k)).toArray) (hxl : xs.length = n) (hyl : ys.length = n)
    (h : K (a.put o.dst (.bool (decide (xs = ys)))) w) : o.wp P a w K Q := by
  unfold Oper.wp execOp
  have hr := run_eql_arr (P := P) w x y t e n k hu hue he xs ys hxl hyl
  simp only [ho, hx, hy]
  rw [Sem.run_bind, hr]
  simp only [Result.andThen_ok, Sem.run_pure]
  exact h
theorem wp_neq_arr {K : Act → World → Prop} (t : TypeId) (x y : Operand) (r : TypeId) (ho : o.op = .binOp .neq t x y r) (e : TypeId) (n : Nat) (k : IntKind) (hu : P.underlying t = some (.array n e)) (hue : P.underlying e = some (.int k)) (he : (P.info? e).map (fun i => i.size) = some 1)
    (xs ys : List Int) (hx : a.eval x = .agg (xs.map (Value.int k)).toArray) (hy : a.eval y = .agg (ys.map (Value.int k)).toArray) (hxl : xs.length = n) (hyl : ys.length = n)
    (h : K (a.put o.dst (.bool (!decide (xs = ys)))) w) : o.wp P a w K Q := by
  unfold Oper.wp execOp
  have hr := run_neq_arr (P := P) w x y t e n k hu hue he xs ys hxl hyl
  simp only [ho, hx, hy]
  rw [Sem.run_bind, hr]
  simp only [Result.andThen_ok, Sem.run_pure]
  exact h
end
end
section
set_option linter.unusedSimpArgs false
set_option linter.unusedVariables false
open Go.RowKit Sha
variable {P : Program}
open Fld (Itm)
/-- An item's cells: its bytes lie at q, with room for c. -/
def icells (x : Itm) (q : Option Addr) (c : Nat) : List Value := .int .i64 x.N :: .slice q x.B.length c :: x.D.map v8
theorem icells_0 (x : Itm) (q : Option Addr) (c : Nat) : (icells x q c)[0]? = some (.int .i64 x.N) := rfl
theorem icells_1 (x : Itm) (q : Option Addr) (c : Nat) : (icells x q c)[1]? = some (.slice q x.B.length c) := rfl
theorem icells_2 (x : Itm) (q : Option Addr) (c : Nat) (j : Nat) : (icells x q c)[2 + j]? = (x.D.map v8)[j]? := by
  unfold icells; rw [Nat.add_comm, List.getElem?_cons_succ, List.getElem?_cons_succ]
theorem icells_length {x : Itm} (h : x.ok) (q : Option Addr) (c : Nat) : (icells x q c).length = 34 := by
  unfold icells; simp [h.len]
theorem icells_one (x : Itm) (q : Option Addr) (c : Nat) : ∀ v ∈ icells x q c, v.oneCell' = true := by
  unfold icells
  intro v hv
  rcases List.mem_cons.1 hv with rfl | hv
  · simp [Value.oneCell']
  · rcases List.mem_cons.1 hv with rfl | hv
    · simp [Value.oneCell']
    · obtain ⟨n, _, rfl⟩ := List.mem_map.1 hv
      simp [Value.oneCell']
attribute [irreducible] icells
/-- An item, where its bytes lie, how much room they have. -/
abbrev Hdr := Itm × Option Addr × Nat
def cellsI (y : Hdr) : List Value := icells y.1 y.2.1 y.2.2
structure GoodI (w : World) (x : Itm) (q : Option Addr) (c : Nat) : Prop where
  ok : x.ok
  at_ : At w q (x.B.map v8)
  le : x.B.length ≤ c
  max : c ≤ 9223372036854775807
  nil : q = none → c = 0
theorem GoodI.carry {w w' : World} {x : Itm} {q : Option Addr} {c : Nat} (h : GoodI w x q c) (hc : ∀ p v, w.cell? p = some v → w'.cell? p = some v) : GoodI w' x q c := ⟨h.ok, h.at_.carry hc, h.le, h.max, h.nil⟩
theorem GoodI.below {w w' : World} {x : Itm} {q : Option Addr} {c : Nat} (h : GoodI w x q c) (hb : Below w.heap.size w w') : GoodI w' x q c := ⟨h.ok, h.at_.below hb, h.le, h.max, h.nil⟩
def ItemsAt (w : World) (p : Option Addr) (xs : List Itm) : Prop := ∃ ys : List Hdr, ys.map (·.1) = xs ∧ At w p (ys.flatMap cellsI) ∧ ∀ y ∈ ys, GoodI w y.1 y.2.1 y.2.2
theorem ItemsAt.below {w w' : World} {p : Option Addr} {xs : List Itm} (h : ItemsAt w p xs) (hb : Below w.heap.size w w') : ItemsAt w' p xs := by
  obtain ⟨ys, h1, h2, h3⟩ := h
  exact ⟨ys, h1, h2.below hb, fun y hy => (h3 y hy).below hb⟩
theorem ItemsAt.drewN {w : World} {p : Option Addr} {xs : List Itm} (h : ItemsAt w p xs) (n : Nat) : ItemsAt (w.drewN n) p xs := h.below (below_drewN (Below.refl _ _) n)
theorem ItemsAt.nil (w : World) (p : Option Addr) : ItemsAt w p [] := ⟨[], rfl, At.nil _ _, by simp⟩
theorem ItemsAt.ok {w : World} {p : Option Addr} {xs : List Itm} (h : ItemsAt w p xs) : ∀ x ∈ xs, x.ok := by
  obtain ⟨ys, rfl, _, h3⟩ := h
  intro x hx
  obtain ⟨y, hy, rfl⟩ := List.mem_map.1 hx
  exact (h3 y hy).ok
theorem flat_length (ys : List Hdr) (h : ∀ y ∈ ys, y.1.ok) : (ys.flatMap cellsI).length = ys.length * 34 := by
  induction ys with
  | nil => rfl
  | cons y ys ih =>
    rw [List.flatMap_cons, List.length_append, ih (fun y hy => h y (List.mem_cons_of_mem _ hy)), List.length_cons]
    unfold cellsI
    rw [icells_length (h y (List.mem_cons_self ..))]
    omega
theorem flat_get (ys : List Hdr) (h : ∀ y ∈ ys, y.1.ok) (i : Nat) (hi : i < ys.length) (j : Nat) (v : Value) (hv : (cellsI ys[i])[j]? = some v) : (ys.flatMap cellsI)[i * 34 + j]? = some v := by
  induction ys generalizing i with
  | nil => simp at hi
  | cons y ys ih =>
    have hl : (cellsI y).length = 34 := icells_length (h y (List.mem_cons_self ..)) _ _
    rw [List.flatMap_cons]
    cases i with
    | zero =>
      simp at hv
      rw [Nat.zero_mul, Nat.zero_add, List.getElem?_append_left (List.getElem?_eq_some_iff.1 hv).1]
      exact hv
    | succ i =>
      simp at hv
      rw [List.getElem?_append_right (by omega), show (i + 1) * 34 + j - (cellsI y).length = i * 34 + j by rw [hl]; omega]
      exact ih (fun y hy => h y (List.mem_cons_of_mem _ hy)) i (by simpa using hi) hv
/-- The i-th item: where it lies, and its bytes. -/
theorem ItemsAt.get {w : World} {p : Option Addr} {xs : List Itm} (h : ItemsAt w p xs) (i : Nat) (hi : i < xs.length) :
    ∃ b off q c, p = some ⟨b, off, none⟩ ∧ w.rangeAt b (off + i * 34) (icells xs[i] q c) ∧ GoodI w xs[i] q c := by
  obtain ⟨ys, rfl, h2, h3⟩ := h
  rw [List.length_map] at hi
  have hok : ∀ y ∈ ys, y.1.ok := fun y hy => (h3 y hy).ok
  obtain ⟨b, off, rfl, hc⟩ := h2.addr (by rw [flat_length ys hok]; omega)
  refine ⟨b, off, (ys[i]).2.1, (ys[i]).2.2, rfl, fun j v hv => ?_, ?_⟩
  · rw [Nat.add_assoc]
    exact hc _ v (flat_get ys hok i hi j v (by simpa [cellsI] using hv))
  · simpa using h3 ys[i] (List.getElem_mem hi)
/-- What is left behind the first one: the address stays where the room is used up. -/
theorem ItemsAt.tail {w : World} {p : Option Addr} {x : Itm} {xs : List Itm} (h : ItemsAt w p (x :: xs)) (cap : Nat) (hc : xs.length + 1 ≤ cap) : ItemsAt w (if cap = 1 then p else p.map (·.add 34)) xs := by
  obtain ⟨ys, h1, h2, h3⟩ := h
  cases ys with
  | nil => simp at h1
  | cons y ys =>
    simp only [List.map_cons, List.cons.injEq] at h1
    obtain ⟨rfl, rfl⟩ := h1
    refine ⟨ys, rfl, ?_, fun z hz => h3 z (List.mem_cons_of_mem _ hz)⟩
    by_cases e : cap = 1
    · have : ys = [] := List.eq_nil_of_length_eq_zero (by simp at hc; omega)
      subst this
      exact At.nil _ _
    · rw [if_neg e]
      have hl : (cellsI y).length = 34 := icells_length (h3 y (List.mem_cons_self ..)).ok _ _
      obtain ⟨b, off, rfl, hcell⟩ := h2.addr (by rw [List.flatMap_cons, List.length_append, hl]; omega)
      have := At.back (w := w) (b := b) (off := off) (xs := cellsI y) (ys := ys.flatMap cellsI) (Or.inr ⟨b, off, rfl, by simpa [List.flatMap_cons] using hcell⟩)
      rw [hl] at this
      simpa [Addr.add_mid] using this
/-- A new item behind others in a row of the call's own. -/
theorem rangeAt_cell {w : World} {b o : Nat} {cs : List Value} (h : w.rangeAt b o cs) {j : Nat} {v : Value} (hv : cs[j]? = some v) : w.cell? ⟨b, o + j, none⟩ = some v := h j v hv
theorem rangeAt_id {w : World} {b o : Nat} {x : Itm} {q : Option Addr} {c : Nat} (h : w.rangeAt b o (icells x q c)) : w.rangeAt b (o + 2) (x.D.map v8) := fun j v hv => by
  rw [Nat.add_assoc]; exact h _ v (by rw [icells_2]; exact hv)
theorem Blk.rangeId {w : World} {g : Nat} {x : Itm} {q : Option Addr} {c : Nat} {t : TypeId} (h : Blk w g (icells x q c) t) : w.rangeAt g 2 (x.D.map v8) := by
  have := rangeAt_id (o := 0) h.range
  rwa [Nat.zero_add] at this
/-- Items that are told, or came in: a slice that reads as they are. -/
structure Told (w : World) (p : Option Addr) (n c : Nat) (l : List Itm) : Prop where
  len : n = l.length
  le : n ≤ c
  max : c ≤ 9223372036854775807
  nil : p = none → c = 0
  items : ItemsAt w p l
theorem Told.below {w w' : World} {p : Option Addr} {n c : Nat} {l : List Itm} (h : Told w p n c l) (hb : Below w.heap.size w w') : Told w' p n c l := ⟨h.len, h.le, h.max, h.nil, h.items.below hb⟩
theorem Told.none_ (w : World) : Told w none 0 0 [] := ⟨rfl, by omega, by omega, fun _ => rfl, ItemsAt.nil _ _⟩
/-! ### Boxes, stores of several cells, under a new name of the world -/
theorem setCells_heap (b : Nat) : ∀ (vs : List Value) (o : Nat) (w : World) (i : Nat), i ≠ b → (w.setCells b o vs).heap[i]? = w.heap[i]?
  | [], _, _, _, _ => rfl
  | v :: r, o, w, i, h => by
    rw [World.setCells, setCells_heap b r (o + 1) _ i h]
    exact Below.heap_setCell w ⟨b, o, none⟩ v i h
theorem setCells_below {B b : Nat} {a : World} (hb : B ≤ b) : ∀ (vs : List Value) (o : Nat) (w : World), Below B a w → Below B a (w.setCells b o vs)
  | [], _, _, h => h
  | v :: r, o, w, h => by rw [World.setCells]; exact setCells_below hb r (o + 1) _ (h.setCell hb v)
theorem Blk.setCells {g : Nat} {t : TypeId} : ∀ (vs : List Value) (o : Nat) (w : World) (pre mid post : List Value), Blk w g (pre ++ mid ++ post) t → pre.length = o → mid.length = vs.length → Blk (w.setCells g o vs) g (pre ++ vs ++ post) t
  | [], o, w, pre, mid, post, h, _, hm => by
    have : mid = [] := List.eq_nil_of_length_eq_zero hm
    subst this; exact h
  | v :: r, o, w, pre, mid, post, h, ho, hm => by
    cases mid with
    | nil => simp at hm
    | cons m mid =>
      rw [World.setCells]
      have h1 := h.set o v
      have e : (pre ++ (m :: mid) ++ post).set o v = (pre ++ [v]) ++ mid ++ post := by
        subst ho; simp
      rw [e] at h1
      have := Blk.setCells r (o + 1) _ (pre ++ [v]) mid post h1 (by simp [ho]) (by simpa using hm)
      simpa using this
theorem Blk.there {w : World} {g : Nat} {cs : List Value} {t : TypeId} (h : Blk w g cs t) (o n : Nat) (hn : o + n ≤ cs.length) : w.there g o n := fun j hj =>
  ⟨by rw [h.cell, List.getElem?_eq_getElem (by omega)]; rfl, h.free _⟩
theorem icells_set2 {x : Itm} (q : Option Addr) (c : Nat) (t : TypeId) {w : World} {g : Nat} (h : Blk w g (icells x q c) t) (D' : List Int) (hl : D'.length = x.D.length) : Blk (w.setCells g 2 (D'.map v8)) g (icells ⟨x.N, x.B, D'⟩ q c) t := by
  have e : ∀ (x : Itm), icells x q c = [.int .i64 x.N, .slice q x.B.length c] ++ x.D.map v8 ++ [] := fun x => by unfold icells; simp
  rw [e] at h ⊢
  exact Blk.setCells (D'.map v8) 2 w _ (x.D.map v8) [] h rfl (by simp [hl])
theorem icells_set1 (x : Itm) (q : Option Addr) (c : Nat) (B' : List Int) (q' : Option Addr) (c' : Nat) : (icells x q c).set 1 (.slice q' B'.length c') = icells ⟨x.N, B', x.D⟩ q' c' := by unfold icells; rfl
theorem icells_set0 (x : Itm) (q : Option Addr) (c : Nat) (n : Int) : (icells x q c).set 0 (.int .i64 n) = icells ⟨n, x.B, x.D⟩ q c := by unfold icells; rfl
section
variable {ops : Array Oper} {rest : List Oper} {o : Oper} {a : Act} {w : World} {Q : Exit → Act → World → Prop}
theorem wpList_box_new (hgd : o.guard = none) (ty : TypeId) (x : Operand) (ho : o.op = .box ty x) (cs : List Value) (hx : a.eval x = .agg cs.toArray)
    (h : ∀ w' g, Blk w' g cs ty → Below w.heap.size w w' → w.heap.size ≤ g → wpList P ops Q rest (a.put o.dst (.pointer (some ⟨g, 0, none⟩))) w') : wpList P ops Q (o :: rest) a w :=
  wpList_box_arr hgd ty x ho cs.toArray hx (h _ _ (by simpa using Blk.new w cs.toArray ty) ((Below.refl _ _).alloc (Nat.le_refl _) _) (Nat.le_refl _))
theorem wpList_alloc_new (hgd : o.guard = none) (ty : TypeId) (ho : o.op = .alloc ty) (cs : List Value) (hz : (P.info? ty).map (fun i => i.zero) = some (some (.agg cs.toArray)))
    (h : ∀ w' g, Blk w' g cs ty → w' = w.alloc (.cells cs.toArray ty) → g = w.heap.size → wpList P ops Q rest (a.put o.dst (.pointer (some ⟨g, 0, none⟩))) w') : wpList P ops Q (o :: rest) a w :=
  wpList_alloc_arr hgd ty ho cs.toArray hz (h _ _ (by simpa using Blk.new w cs.toArray ty) rfl rfl)
end
theorem wp_build' {o : Oper} {a : Act} {w : World} {K : Act → World → Prop} {Q : Exit → Act → World → Prop} (t : TypeId) (parts : Array (Nat × Operand)) (ho : o.op = .build t parts) (cs : Array Value)
    (hf : P.built t (parts.map fun (i, x) => (i, a.eval x)).toList = some cs) (h : K (a.put o.dst (.agg cs)) w) : o.wp P a w K Q :=
  wp_build t parts ho (by rw [hf]; rfl) (by rw [hf]; exact h)
theorem wpList_slice_run {ops : Array Oper} {rest : List Oper} {o : Oper} {a : Act} {w : World} {Q : Exit → Act → World → Prop} (hgd : o.guard = none) (t : TypeId) (x : Operand) (lo hi : Option Operand) (ho : o.op = .slice t x lo hi none) (V : Value)
    (hr : (Instr.sliceAt t (a.eval x) (lo.map a.eval) (hi.map a.eval) none).run P w = .ok V w) (h : wpList P ops Q rest (a.put o.dst V) w) : wpList P ops Q (o :: rest) a w := by
  refine wpList_plain hgd fun K hK => ?_
  unfold Oper.wp execOp
  simp only [ho, Option.map_none, Sem.run_bind, hr, Result.andThen_ok, Sem.run_pure]
  exact hK _ _ h
theorem size_of {e : TypeId} {s : Nat} (he : (P.info? e).map (fun i => i.size) = some s) (w : World) : (sizeOf e).run P w = .ok s w := by
  cases hq : P.info? e with
  | none => simp [hq] at he
  | some j => simp [hq] at he; simp [sizeOf, typeInfo, hq, he]
theorem run_cut1 {t e : TypeId} {s : Nat} (hu : P.underlying t = some (.slice e)) (he : (P.info? e).map (fun i => i.size) = some s) (p : Option Addr) (len cap : Nat) (h1 : 1 ≤ len) (w : World) :
    (Instr.sliceAt t (.slice p len cap) (some (.int .i64 1)) none none).run P w = .ok (.slice (if cap = 1 then p else p.map (·.add s)) (len - 1) (cap - 1)) w := by
  have hu' : P.underlying t = some (.slice (P.elem t)) := by rw [elem_of hu]; exact hu
  rw [run_sliceAt_slice w t _ _ _ _ hu', run_slice_l w t p len cap hu' .i64 1 (by omega) (by omega), elem_of hu, size_of he]
  simp [Result.andThen, sliced]
theorem item_info : (Try.prog.info? 98).map (fun i => i.zero) = some (some (.agg (icells ⟨0, [], Fld.zero32⟩ none 0).toArray)) := by unfold icells; kernel_rfl
theorem item_size : (Try.prog.info? 98).map (fun i => i.size) = some 34 := by kernel_rfl
theorem id_size : (Try.prog.info? 27).map (fun i => i.size) = some 32 := by kernel_rfl
theorem id_zero : Try.prog.built 27 [] = some (Fld.zero32.map v8).toArray := by kernel_rfl
theorem v8_one (l : List Int) : (l.map v8).toArray.all (·.oneCell') = true := by simp [Value.oneCell']
end
end Go.Proofs.Yteepaoklibflpaa
