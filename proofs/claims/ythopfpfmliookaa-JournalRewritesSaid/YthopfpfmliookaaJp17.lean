/-
  Whole arrays in a walk inside a fence (XArr's and the library's laws, turned): a new variable, a load, a store, a load out of the middle. No program is named here.
  Two arrays of integers compared with '==': alike just if all their elements are.
  Heads loaded and compared, as one operation each: names that the walk does not open.
-/
import Derived.Test.YthopfpfmliookaaJp5
import Derived.OwnWalkIn
import Derived.TacticsInMore
import Derived.Laws.StructEq
import Derived.Test.YthopfpfmliookaaJp16
namespace Go.Proofs.Ythopfpfmliookaa
section
set_option linter.unusedSimpArgs false
set_option linter.unusedVariables false
variable {F : Fence} {m : Nat} {P : Program} {ops : Array Oper} {Q : Exit → Act → World → Prop} {a : Act} {w : World} {rest : List Oper} {o : Oper} {K : Act → World → Prop}
theorem wpIn_value {v : Value} {w' : World} (hab : o.about P w a.eval = none) (hnd : ∀ c, o.op ≠ .defer c) (hr : (execOp a.eval o).run P w = .ok (.value v) w') (h : K (a.put o.dst v) w') : o.wpIn F m P a w K Q := by
  unfold Oper.wpIn
  refine ⟨(fun f e => by rw [hab] at e; cases e), ?_⟩
  rw [Oper.semAt_plain F _ _ hnd, hr]; exact h
theorem wpIn_skip {w' : World} (hab : o.about P w a.eval = none) (hnd : ∀ c, o.op ≠ .defer c) (hr : (execOp a.eval o).run P w = .ok .skip w') (h : K (a.put o.dst undef) w') : o.wpIn F m P a w K Q := by
  unfold Oper.wpIn
  refine ⟨(fun f e => by rw [hab] at e; cases e), ?_⟩
  rw [Oper.semAt_plain F _ _ hnd, hr]; exact h
theorem wpListIn_alloc_arr (hgd : o.guard = none) (ty : TypeId) (ho : o.op = .alloc ty) (cs : Array Value) (hz : (P.info? ty).map (fun i => i.zero) = some (some (.agg cs)))
    (h : wpListIn F m P ops Q rest (a.put o.dst (.pointer (some ⟨w.heap.size, 0, none⟩))) (w.alloc (.cells cs ty))) : wpListIn F m P ops Q (o :: rest) a w := by
  have hz' : (zeroValue ty).run P w = .ok (.agg cs) w := by
    cases hq : P.info? ty with
    | none => simp [hq] at hz
    | some i => simp [hq] at hz; simp [zeroValue, typeInfo, hq, hz]
  exact wpListIn_plain hgd fun K hK => wpIn_value (by simp [Oper.about, ho]) (by rw [ho]; intro c hc; cases hc) (by unfold execOp; simp only [ho, Instr.alloc, Sem.run_bind, hz', Result.andThen_ok, Sem.run_pure]; rfl) (hK _ _ h)
theorem wpListIn_load_row (hgd : o.guard = none) (ty : TypeId) (x : Operand) (ho : o.op = .load ty x)
    (g : Nat) (hx : a.eval x = .pointer (some ⟨g, 0, none⟩)) (t : TypeId) (cs : Array Value) (fr : Nat × Nat) (d : TypeDesc) (hg : w.heap[g]? = some (.cells cs t fr))
    (hu : P.underlying ty = some d) (hd : (match d with | .struct _ | .array _ _ => true | _ => false) = true) (hi : (P.info? ty).map (·.size) = some cs.size)
    (h : wpListIn F m P ops Q rest (a.put o.dst (.agg cs)) w) : wpListIn F m P ops Q (o :: rest) a w :=
  wpListIn_plain hgd fun K hK => wpIn_value (by simp [Oper.about, ho]) (by rw [ho]; intro c hc; cases hc) (by unfold execOp; simp only [ho, hx, Instr.loadAt, Instr.sureAddr, Sem.run_bind, Sem.run_pure, Result.andThen_ok, run_loadVar_row w g t ty cs fr d hg hu hd hi]) (hK _ _ h)
theorem wpListIn_load_mid (hgd : o.guard = none) (ty : TypeId) (x : Operand) (ho : o.op = .load ty x) (b off : Nat) (hx : a.eval x = .pointer (some ⟨b, off, none⟩)) (cs : List Value) (d : TypeDesc) (hC : w.rangeAt b off cs)
    (hu : P.underlying ty = some d) (hd : d.isRow = true) (hi : (P.info? ty).map (·.size) = some cs.length) (h : wpListIn F m P ops Q rest (a.put o.dst (.agg cs.toArray)) w) : wpListIn F m P ops Q (o :: rest) a w :=
  wpListIn_plain hgd fun K hK => wpIn_value (by simp [Oper.about, ho]) (by rw [ho]; intro c hc; cases hc) (by unfold execOp; simp only [ho, hx, Instr.loadAt, Instr.sureAddr, Sem.run_bind, Sem.run_pure, Result.andThen_ok, run_loadVar_mid w b off ty cs d hC hu hd hi]) (hK _ _ h)
theorem wpListIn_store_row (hgd : o.guard = none) (ty : TypeId) (x y : Operand) (ho : o.op = .store ty x y)
    (g : Nat) (cells : Array Value) (hx : a.eval x = .pointer (some ⟨g, 0, none⟩)) (hy : a.eval y = .agg cells)
    (t : TypeId) (old : Array Value) (hg : w.heap[g]? = some (.cells old t (0, 0))) (hi : (P.info? ty).map (·.size) = some cells.size)
    (hold : old.size = cells.size) (h1 : cells.all (·.oneCell') = true)
    (h : wpListIn F m P ops Q rest (a.put o.dst undef) (w.setRow g cells)) : wpListIn F m P ops Q (o :: rest) a w :=
  wpListIn_plain hgd fun K hK => wpIn_skip (by simp [Oper.about, ho]) (by rw [ho]; intro c hc; cases hc) (by unfold execOp; simp only [ho, hx, hy, Instr.storeAt, Instr.sureAddr, Sem.run_bind, Sem.run_pure, Result.andThen_ok, run_storeVar_row w g t ty old cells hg hi hold h1]) (hK _ _ h)
theorem wpListIn_array (hgd : o.guard = none) (t : TypeId) (x : Operand) (ho : o.op = .sliceToArrayPointer t x) (e : TypeId) (n : Nat) (p : Option Addr) (len cap : Nat) (hu : P.underlying t = some (.array n e)) (hn : n ≤ len)
    (hx : a.eval x = .slice p len cap) (h : wpListIn F m P ops Q rest (a.put o.dst (.pointer p)) w) : wpListIn F m P ops Q (o :: rest) a w :=
  wpListIn_plain hgd fun K hK => wpIn_value (by simp [Oper.about, ho]) (by rw [ho]; intro c hc; cases hc) (by unfold execOp; simp only [ho, hx, Sem.run_bind, run_arrayAt w t e n p len cap hu hn, Result.andThen_ok, Sem.run_pure]) (hK _ _ h)
end
section
set_option linter.unusedSimpArgs false
set_option linter.unusedVariables false
variable {P : Program}
theorem run_part_one {e : TypeId} {d : TypeDesc} (hue : P.underlying e = some d) (hna : (match d with | .struct _ | .array _ _ => true | _ => false) = false) (cs : Array Value) (i : Nat) (v : Value) (hv : cs[i]? = some v) (w : World) :
    (part e cs i).run P w = .ok v w := by
  have hagg : (isAgg e).run P w = .ok false w := by
    unfold isAgg
    rw [Sem.run_bind, run_underlying hue w]
    cases d <;> simp_all
  simp [part, hagg, hv]
/-- The loop over the elements from the j-th on. -/
theorem run_eq_loop (w : World) (d : Nat) (e : TypeId) (k : IntKind) (hue : P.underlying e = some (.int k)) (xs ys : List Int) (hl : xs.length = ys.length) :
    ∀ (m j : Nat), j + m = xs.length →
    (forIn (List.range' j m) ((none : Option Bool), ()) fun i __s => (do
            let a ← part e (xs.map (Value.int k)).toArray (i * 1)
            let b ← part e (ys.map (Value.int k)).toArray (i * 1)
            let r ← Op.equalIn (d + 1) e a b
            if (!r) = true then pure (ForInStep.done (some false, ())) else pure (ForInStep.yield (none, ())) : Sem (ForInStep (Option Bool × Unit)))).run P w
      = .ok (if xs.drop j = ys.drop j then ((none : Option Bool), ()) else (some false, ())) w
  | 0, j, h => by
    have h1 : xs.drop j = [] := by rw [List.drop_eq_nil_iff]; omega
    have h2 : ys.drop j = [] := by rw [List.drop_eq_nil_iff]; omega
    simp [h1, h2, Sem.run_pure]
  | m + 1, j, h => by
    have hjx : j < xs.length := by omega
    have hjy : j < ys.length := by omega
    have hx : (xs.map (Value.int k)).toArray[j]? = some (.int k xs[j]) := by simp [hjx]
    have hy : (ys.map (Value.int k)).toArray[j]? = some (.int k ys[j]) := by simp [hjy]
    have ih := run_eq_loop w d e k hue xs ys hl m (j + 1) (by omega)
    have dx : xs.drop j = xs[j] :: xs.drop (j + 1) := List.drop_eq_getElem_cons hjx
    have dy : ys.drop j = ys[j] :: ys.drop (j + 1) := List.drop_eq_getElem_cons hjy
    rw [List.range'_succ, List.forIn_cons]
    simp only [Sem.run_bind, Nat.mul_one, run_part_one hue rfl _ _ _ hx, run_part_one hue rfl _ _ _ hy, run_equalIn_int (P := P) w d e k k _ _ hue, Result.andThen_ok]
    by_cases hb : xs[j] = ys[j]
    · simp only [hb, beq_self_eq_true, Bool.not_true, Bool.false_eq_true, if_false, Sem.run_pure, Result.andThen_ok]
      simp only [Nat.mul_one] at ih
      have hiff : (xs.drop j = ys.drop j) = (xs.drop (j + 1) = ys.drop (j + 1)) := by
        rw [dx, dy, hb]; exact propext ⟨fun h => (List.cons.inj h).2, fun h => by rw [h]⟩
      rw [ih]; simp only [hiff]
    · have hb2 : (xs[j] == ys[j]) = false := by simpa using hb
      simp only [hb2, Bool.not_false, if_true, Sem.run_pure, Result.andThen_ok]
      have hne : ¬ xs.drop j = ys.drop j := by rw [dx, dy]; intro h; exact hb (List.cons.inj h).1
      rw [if_neg hne]
theorem run_equalIn_arr (w : World) (d : Nat) (t e : TypeId) (n : Nat) (k : IntKind) (hu : P.underlying t = some (.array n e)) (hue : P.underlying e = some (.int k)) (he : (P.info? e).map (fun i => i.size) = some 1)
    (xs ys : List Int) (hx : xs.length = n) (hy : ys.length = n) :
    (Op.equalIn (d + 2) t (.agg (xs.map (Value.int k)).toArray) (.agg (ys.map (Value.int k)).toArray)).run P w = .ok (decide (xs = ys)) w := by
  have h2 : (sizeOf e).run P w = .ok 1 w := by
    cases hq : P.info? e with
    | none => simp [hq] at he
    | some j => simp [hq] at he; simp [sizeOf, typeInfo, hq, he]
  rw [Op.equalIn]
  simp only [Sem.run_bind, run_underlying hu, Result.andThen_ok, h2]
  rw [Std.Legacy.Range.forIn_eq_forIn_range']
  have := run_eq_loop w d e k hue xs ys (by omega) n 0 (by omega)
  simp only [Std.Legacy.Range.size, Nat.sub_zero, Nat.add_sub_cancel, Nat.div_one] at this ⊢
  rw [this]
  simp only [List.drop_zero, Result.andThen_ok]
  by_cases h : xs = ys
  · simp [h, Sem.run_pure]
  · simp [h, Sem.run_pure]
/-- '==' between two arrays, as an operation yields it. -/
theorem run_eql_arr (w : World) (x y : Operand) (t e : TypeId) (n : Nat) (k : IntKind) (hu : P.underlying t = some (.array n e)) (hue : P.underlying e = some (.int k)) (he : (P.info? e).map (fun i => i.size) = some 1)
    (xs ys : List Int) (hx : xs.length = n) (hy : ys.length = n) :
    (do eqGuard .eql t x y (.agg (xs.map (Value.int k)).toArray) (.agg (ys.map (Value.int k)).toArray); binOp .eql t (.agg (xs.map (Value.int k)).toArray) (.agg (ys.map (Value.int k)).toArray) : Sem Value).run P w = .ok (.bool (decide (xs = ys))) w := by
  have hg : P.eqGuardType P.depth t = false := by
    unfold Program.depth
    simp [Program.eqGuardType, hu, hue]
  have hq : (Op.equal t (.agg (xs.map (Value.int k)).toArray) (.agg (ys.map (Value.int k)).toArray)).run P w = .ok (decide (xs = ys)) w :=
    run_equalIn_arr w 9998 t e n k hu hue he xs ys hx hy
  simp [eqGuard, binOp, hg, hq, Sem.run_pure]
theorem run_neq_arr (w : World) (x y : Operand) (t e : TypeId) (n : Nat) (k : IntKind) (hu : P.underlying t = some (.array n e)) (hue : P.underlying e = some (.int k)) (he : (P.info? e).map (fun i => i.size) = some 1)
    (xs ys : List Int) (hx : xs.length = n) (hy : ys.length = n) :
    (do eqGuard .neq t x y (.agg (xs.map (Value.int k)).toArray) (.agg (ys.map (Value.int k)).toArray); binOp .neq t (.agg (xs.map (Value.int k)).toArray) (.agg (ys.map (Value.int k)).toArray) : Sem Value).run P w = .ok (.bool (!decide (xs = ys))) w := by
  have hg : P.eqGuardType P.depth t = false := by
    unfold Program.depth
    simp [Program.eqGuardType, hu, hue]
  have hq : (Op.equal t (.agg (xs.map (Value.int k)).toArray) (.agg (ys.map (Value.int k)).toArray)).run P w = .ok (decide (xs = ys)) w :=
    run_equalIn_arr w 9998 t e n k hu hue he xs ys hx hy
  simp [eqGuard, binOp, hg, hq, Sem.run_pure]
section
variable {ops : Array Oper} {rest : List Oper} {o : Oper} {a : Act} {w : World} {Q : Exit → Act → World → Prop} {C : World → Prop} {K : Act → Prop}
theorem wpList_eql_arr (hgd : o.guard = none) (t : TypeId) (x y : Operand) (r : TypeId) (ho : o.op = .binOp .eql t x y r) (e : TypeId) (n : Nat) (k : IntKind) (hu : P.underlying t = some (.array n e)) (hue : P.underlying e = some (.int k)) (he : (P.info? e).map (fun i => i.size) = some 1)
    (xs ys : List Int) (hx : a.eval x = .agg (xs.map (Value.int k)).toArray) (hy : a.eval y = .agg (ys.map (Value.int k)).toArray) (hxl : xs.length = n) (hyl : ys.length = n)
    (h : wpList P ops Q rest (a.put o.dst (.bool (decide (xs = ys)))) w) : wpList P ops Q (o :: rest) a w := by
  refine wpList_plain hgd fun K hK => ?_
  unfold Oper.wp execOp
  have hr := run_eql_arr (P := P) w x y t e n k hu hue he xs ys hxl hyl
  simp only [ho, hx, hy]
  rw [Sem.run_bind, hr]
  simp only [Result.andThen_ok, Sem.run_pure]
  exact hK _ _ h
theorem quiet_eql_arr (t : TypeId) (x y : Operand) (r : TypeId) (ho : o.op = .binOp .eql t x y r) (e : TypeId) (n : Nat) (k : IntKind) (hu : P.underlying t = some (.array n e)) (hue : P.underlying e = some (.int k)) (he : (P.info? e).map (fun i => i.size) = some 1)
    (xs ys : List Int) (hx : a.eval x = .agg (xs.map (Value.int k)).toArray) (hy : a.eval y = .agg (ys.map (Value.int k)).toArray) (hxl : xs.length = n) (hyl : ys.length = n)
    (h : K (a.put o.dst (.bool (decide (xs = ys))))) : o.quiet P a C K :=
  ⟨_, fun w _ => by
    have hr := run_eql_arr (P := P) w x y t e n k hu hue he xs ys hxl hyl
    unfold Oper.quietAt execOp
    simp only [ho, hx, hy]
    rw [Sem.run_bind, hr]
    simp only [Result.andThen_ok, Sem.run_pure]
    exact ⟨rfl, rfl⟩, h⟩
theorem wp_eql_arr {K : Act → World → Prop} (t : TypeId) (x y : Operand) (r : TypeId) (ho : o.op = .binOp .eql t x y r) (e : TypeId) (n : Nat) (k : IntKind) (hu : P.underlying t = some (.array n e)) (hue : P.underlying e = some (.int k)) (he : (P.info? e).map (fun i => i.size) = some 1)
    (xs ys : List Int) (hx : a.eval x = .agg (xs.map (Value.int k)).toArray) (hy : a.eval y = .agg (ys.map (Value.int k)).toArray) (hxl : xs.length = n) (hyl : ys.length = n)
    (h : K (a.put o.dst (.bool (decide (xs = ys)))) w) : o.wp P a w K Q := by
  unfold Oper.wp execOp
  have hr := run_eql_arr (P := P) w x y t e n k hu hue he xs ys hxl hyl
  simp only [ho, hx, hy]
  rw [Sem.run_bind, hr]
  simp only [Result.andThen_ok, Sem.run_pure]
  exact h
theorem wp_neq_arr {K : Act → World → Prop} (t : TypeId) (x y : Operand) (r : TypeId) (ho : o.op = .binOp .neq t x y r) (e : TypeId) (n : Nat) (k : IntKind) (hu : P.underlying t = some (.array n e)) (hue : P.underlying e = some (.int k)) (he : (P.info? e).map (fun i => i.size) = some 1)
    (xs ys : List Int) (hx : a.eval x = .agg (xs.map (Value.int k)).toArray) (hy : a.eval y = .agg (ys.map (Value.int k)).toArray) (hxl : xs.length = n) (hyl : ys.length = n)
    (h : K (a.put o.dst (.bool (!decide (xs = ys)))) w) : o.wp P a w K Q := by
  unfold Oper.wp execOp
  have hr := run_neq_arr (P := P) w x y t e n k hu hue he xs ys hxl hyl
  simp only [ho, hx, hy]
  rw [Sem.run_bind, hr]
  simp only [Result.andThen_ok, Sem.run_pure]
  exact h
end
end
section
set_option linter.unusedSimpArgs false
set_option linter.unusedVariables false
open Go.RowKit Sha
@[irreducible] def hloadOp (t : TypeId) (v : Value) : Sem Next := do pure (.value (← Instr.loadAt t v))
@[irreducible] def hneqOp (t : TypeId) (x y : Operand) (u v : Value) : Sem Next := do pure (.value (← (do eqGuard .neq t x y u v; binOp .neq t u v)))
theorem execOp_loadHead (ρ : Operand → Value) (dst : Option Tmp) (x : Operand) (ty : TypeId) (pos : String) (after : Array Edge) (guard : Option (Nat × Bool)) :
    execOp ρ { dst := dst, op := .load 86 x, type := ty, pos := pos, after := after, guard := guard } = hloadOp 86 (ρ x) := by unfold hloadOp; rfl
theorem execOp_neqHead (ρ : Operand → Value) (dst : Option Tmp) (x y : Operand) (ty r : TypeId) (pos : String) (after : Array Edge) (guard : Option (Nat × Bool)) :
    execOp ρ { dst := dst, op := .binOp .neq 86 x y r, type := ty, pos := pos, after := after, guard := guard } = hneqOp 86 x y (ρ x) (ρ y) := by unfold hneqOp; rfl
theorem run_neqHead (x y : Operand) (xs ys : List Int) (hx : xs.length = 8) (hy : ys.length = 8) (w : World) : (hneqOp 86 x y (.agg (xs.map v8).toArray) (.agg (ys.map v8).toArray)).run Try.prog w = .ok (.value (.bool (!decide (xs = ys)))) w := by
  have h := run_neq_arr (P := Try.prog) w x y 86 5 8 .u8 Try.underlying86 Try.underlying5 kslice1 xs ys hx hy
  unfold hneqOp
  rw [Sem.run_bind, h]
  simp only [Result.andThen_ok, Sem.run_pure]
theorem load_head {w : World} {g : Nat} {z : List Int} {t : TypeId} (hz : z.length = 8) (h : Blk w g (z.map v8) t) : (hloadOp 86 (.pointer (some ⟨g, 0, none⟩))).run Try.prog w = .ok (.value (.agg (z.map v8).toArray)) w := by
  unfold hloadOp
  simp only [Instr.loadAt, Instr.sureAddr, Sem.run_bind, Sem.run_pure, Result.andThen_ok, run_loadVar_row w g t 86 _ (0, 0) _ h Try.underlying86 rfl (by rw [sizeHead]; simp [hz])]
end
end Go.Proofs.Ythopfpfmliookaa
