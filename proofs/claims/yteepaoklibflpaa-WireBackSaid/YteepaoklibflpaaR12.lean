/-
  The kit's SameIDs and SameMembers over ids and words in memory.
  Structs laid, boxed, stored, built: one operation each, that the walk does not open. General: no function is named here.
  Notes in a block: what is loaded of them; notes boxed, compared part by part.
-/
import Derived.Test.YteepaoklibflpaaR11
import Derived.BigQuiet
import Derived.Test.YteepaoklibflpaaR10
import Derived.Test.YteepaoklibflpaaR9
import Derived.Deep.WholeRow
namespace Go.Proofs.Yteepaoklibflpaa
section
set_option linter.unusedSimpArgs false
set_option linter.unusedVariables false
open Go.RowKit Sha Nte
@[irreducible] def eqO (t : TypeId) (x y : Operand) (u v : Value) : Sem Next := do pure (.value (← (do eqGuard .eql t x y u v; binOp .eql t u v)))
@[irreducible] def neO (t : TypeId) (x y : Operand) (u v : Value) : Sem Next := do pure (.value (← (do eqGuard .neq t x y u v; binOp .neq t u v)))
theorem execOp_eqId (ρ : Operand → Value) (dst : Option Tmp) (x y : Operand) (r : TypeId) (ty : TypeId) (pos : String) (after : Array Edge) (guard : Option (Nat × Bool)) :
    execOp ρ { dst := dst, op := .binOp .eql 27 x y r, type := ty, pos := pos, after := after, guard := guard } = eqO 27 x y (ρ x) (ρ y) := by unfold eqO; rfl
theorem execOp_neWord (ρ : Operand → Value) (dst : Option Tmp) (x y : Operand) (r : TypeId) (ty : TypeId) (pos : String) (after : Array Edge) (guard : Option (Nat × Bool)) :
    execOp ρ { dst := dst, op := .binOp .neq 67 x y r, type := ty, pos := pos, after := after, guard := guard } = neO 67 x y (ρ x) (ρ y) := by unfold neO; rfl
theorem run_eqId (x y : Operand) (xs ys : List Int) (hx : xs.length = 32) (hy : ys.length = 32) (b : Bool) (hb : b = decide (xs = ys)) (w : World) : (eqO 27 x y (.agg (xs.map v8).toArray) (.agg (ys.map v8).toArray)).run Try.prog w = .ok (.value (.bool b)) w := by
  have hr := run_eql_arr (P := Try.prog) w x y 27 5 32 .u8 Try.underlying27 Try.underlying5 kslice1 xs ys hx hy
  subst hb
  unfold eqO
  simp only [Sem.run_bind, Sem.run_pure, Result.andThen_ok] at hr ⊢
  rw [hr]
  rfl
theorem run_neWord (a b : Mb) (e : Bool) (he : e = decide (a ≠ b)) (x y : Operand) (w : World) : (neO 67 x y (.agg (nmc a).toArray) (.agg (nmc b).toArray)).run Try.prog w = .ok (.value (.bool e)) w := by
  subst he
  have hd : decide (a ≠ b) = !(a.I == b.I && a.S == b.S && a.N == b.N) := by
    rw [Bool.eq_iff_iff]; simp [Mb.eq_iff, and_assoc]; omega
  rw [hd]
  unfold neO nmc
  by_cases h : a.I = b.I <;> by_cases h2 : a.S = b.S <;> by_cases h3 : a.N = b.N <;> simp [go_sem, h, h2, h3]
theorem rangeN_on {w w' : World} {g o : Nat} {cs : List Value} (h : w.rangeAt g o cs) (hb : Below w.heap.size w w') : w'.rangeAt g o cs := fun j v hv => by
  have := h j v hv
  exact (hb.cell (World.block_lt_of_cell? w _ this)).trans this
theorem take_next {α : Type} (l l' : List α) (k : Nat) (h1 : k < l.length) (h2 : k < l'.length) (h : l.take k = l'.take k) : (l.take (k + 1) = l'.take (k + 1)) ↔ l[k] = l'[k] := by
  rw [List.take_succ_eq_append_getElem h1, List.take_succ_eq_append_getElem h2, h]
  exact ⟨fun e => by simpa using List.append_cancel_left e, fun e => by rw [e]⟩
section
attribute [local go_sem ↓] execOp_loadId execOp_loadWord execOp_eqId execOp_neWord
set_option maxRecDepth 100000 in
set_option maxHeartbeats 2000000 in
theorem sameIds_any (l l' : List (List Int)) (n m : Nat) (q p : Option Addr) (c d : Nat) (w : World) (hl : sI.Told w q n c l) (hl' : sI.Told w p m d l') :
    Calls Try.prog 24 #[.slice q n c, .slice p m d] w fun e w' => e = .returned (.bool (decide (l = l'))) ∧ Below w.heap.size w w' := by
  have HL := Lib.hid hl
  have HR := Lib.hid hl'
  have HN := Lib.hid hl.len
  have HM := Lib.hid hl'.len
  have b1 := hl.le
  have b2 := hl.max
  have b3 := hl'.le
  have b4 := hl'.max
  obtain ⟨z, hz⟩ : ∃ z, z = ((n : Int) == (m : Int)) := ⟨_, rfl⟩
  have HZ := Lib.hid (show (z = true → n = m) ∧ (z = false → l ≠ l') from by
    rw [hz]
    refine ⟨fun h => ?_, fun h e => ?_⟩
    · have := of_decide_eq_true h; omega
    · have h1 := hl.len
      have h2 := hl'.len
      rw [e] at h1
      have := of_decide_eq_false h
      omega)
  have tz := hz.symm
  clear hl hl' hz
  go_enter Try.func24, Try.ntmps24
  go_wp2_with fail
  clear tz
  go_loopw [5, 6] (fun s i wr => ∃ (b : Bool) (k : Nat), s = .bool b ∧ i = .int .i64 k ∧ k ≤ n ∧ Hid ((b = true → n = m ∧ l.take k = l'.take k) ∧ (b = false → l ≠ l')) ∧ Hid (Below w.heap.size w wr)) (fun _ i _ => n - (intOf i).toNat)
  case atStart => exact ⟨z, 0, rfl, rfl, by omega, Lib.hid ⟨fun h => ⟨HZ.out.1 h, rfl⟩, HZ.out.2⟩, Lib.hid (Below.refl _ _)⟩
  case round =>
    obtain ⟨b, k, rfl, rfl, hk, HT, HB⟩ := hrel
    cases b with
    | false =>
      have HV := Lib.hid (show decide (l = l') = false from decide_eq_false (HT.out.2 rfl))
      clear HT HZ
      go_wp2_with fail
      go_ret
      exact ⟨by rw [HV.out]; rfl, HB.out⟩
    | true =>
      obtain ⟨hnm, ht⟩ := HT.out.1 rfl
      subst hnm
      clear HT HZ
      by_cases hlt : k < n
      · have hk1 : k < l.length := by rw [← HN.out]; exact hlt
        have hk2 : k < l'.length := by rw [← HM.out]; exact hlt
        obtain ⟨b, off, q1, c1, rfl, hr, hg⟩ := HL.out.rows.get k hk1
        obtain ⟨b', off', q2, c2, rfl, hr', hg'⟩ := HR.out.rows.get k hk2
        have hr : w.rangeAt b (off + k * 32) (l[k].map v8) := hr
        have hr' : w.rangeAt b' (off' + k * 32) (l'[k].map v8) := hr'
        have jk : (0 : Int) ≤ (k : Int) ∧ (k : Int) < (n : Int) := by omega
        have m1 := load_idr hg.ok.2 (rangeN_on hr HB.out.drew)
        have m2 := load_idr hg'.ok.2 (rangeN_on hr' HB.out.drew)
        have HS := Lib.hid (take_next l l' k hk1 hk2 ht)
        have HNE := Lib.hid (show l[k] ≠ l'[k] → l ≠ l' from fun h e => h (by simp [e]))
        have e1 := hg.ok.2
        have e2 := hg'.ok.2
        generalize l[k] = x at *
        generalize l'[k] = y at *
        obtain ⟨v, hv⟩ : ∃ v, v = decide (x = y) := ⟨_, rfl⟩
        have HQ := fun o1 o2 => run_eqId o1 o2 x y e1 e2 v hv
        have HP := Lib.hid (show (v = true → n = n ∧ l.take (k + 1) = l'.take (k + 1)) ∧ (v = false → l ≠ l') from by
          rw [hv]
          exact ⟨fun h => ⟨rfl, HS.out.2 (of_decide_eq_true h)⟩, fun h => HNE.out (of_decide_eq_false h)⟩)
        have B2 := Lib.hid HB.out.drew
        clear hr hr' hk1 hk2 hg hg' e1 e2 hv HS HNE ht
        go_wp2_with fail
        refine region_tail 9 (by kernel_rfl) (by kernel_rfl) ?_
        simp only [List.take_succ_cons, List.take_zero, List.drop_succ_cons, List.drop_zero]
        generalize wr.drew = wv at *
        repeat go_big_quiet_step (fail)
        refine wpQuiet_nil ?_
        clear m1 m2 HQ
        go_wp2_with fail
        go_roundw
        case rel => exact ⟨v, k + 1, rfl, by go_num, by omega, HP, B2⟩
        case measure => simp [intOf]; omega
      · obtain rfl : n = k := by omega
        have HV := Lib.hid (show decide (l = l') = true from decide_eq_true (by
          rwa [List.take_of_length_le (by rw [← HN.out]; exact Nat.le_refl _), List.take_of_length_le (by rw [← HM.out]; exact Nat.le_refl _)] at ht))
        clear ht
        go_wp2_with fail
        go_ret
        exact ⟨by rw [HV.out]; rfl, HB.out⟩
set_option maxRecDepth 100000 in
set_option maxHeartbeats 2000000 in
theorem sameWords_any (l l' : List Mb) (n m : Nat) (q p : Option Addr) (c d : Nat) (w : World) (hl : sW.Told w q n c l) (hl' : sW.Told w p m d l') :
    Calls Try.prog 25 #[.slice q n c, .slice p m d] w fun e w' => e = .returned (.bool (decide (l = l'))) ∧ Below w.heap.size w w' := by
  have HL := Lib.hid hl
  have HR := Lib.hid hl'
  have HN := Lib.hid hl.len
  have HM := Lib.hid hl'.len
  have b1 := hl.le
  have b2 := hl.max
  have b3 := hl'.le
  have b4 := hl'.max
  clear hl hl'
  by_cases hnm : n = m
  · subst hnm
    have t0 : ((n : Int) != (n : Int)) = false := by simp
    go_enter Try.func25, Try.ntmps25
    go_wp2_with fail
    go_loopw [5] (fun i wr => ∃ k : Nat, i = .int .i64 k ∧ k ≤ n ∧ Hid (l.take k = l'.take k) ∧ Hid (Below w.heap.size w wr)) (fun i _ => n - (intOf i).toNat)
    case atStart => exact ⟨0, rfl, by omega, Lib.hid rfl, Lib.hid (Below.refl _ _)⟩
    case round =>
      obtain ⟨k, rfl, hk, HT, HB⟩ := hrel
      by_cases hlt : k < n
      · have hk1 : k < l.length := by rw [← HN.out]; exact hlt
        have hk2 : k < l'.length := by rw [← HM.out]; exact hlt
        obtain ⟨b, off, q1, c1, rfl, hr, hg⟩ := HL.out.rows.get k hk1
        obtain ⟨b', off', q2, c2, rfl, hr', hg'⟩ := HR.out.rows.get k hk2
        have hr : w.rangeAt b (off + k * 3) (nmc l[k]) := hr
        have hr' : w.rangeAt b' (off' + k * 3) (nmc l'[k]) := hr'
        have jk : (0 : Int) ≤ (k : Int) ∧ (k : Int) < (n : Int) := by omega
        obtain ⟨I, W, hC⟩ := cls_of wr
        have hne : Nonempty I := hC.ne
        have m1 := fun i => load_word (rangeN_on hr (HB.out.trans ((hC.back i).mono HB.out.size)))
        have m2 := fun i => load_word (rangeN_on hr' (HB.out.trans ((hC.back i).mono HB.out.size)))
        have HC := Lib.hid hC
        have HS := Lib.hid (take_next l l' k hk1 hk2 HT.out)
        have HNE := Lib.hid (show l[k] ≠ l'[k] → l ≠ l' from fun h e => h (by simp [e]))
        generalize l[k] = x at *
        generalize l'[k] = y at *
        clear hC hr hr' hk1 hk2 HT hg hg'
        by_cases hxy : x = y
        · have HT2 := Lib.hid (HS.out.2 hxy)
          have HQ := run_neWord x y false (by simp [hxy])
          clear hxy HS HNE
          go_wp2_with fail
          refine wp_region_cls W (by kernel_rfl) (by kernel_rfl) HC.out.one ?_
          repeat go_big_quiet_step (fail)
          refine wpQuiet_nil ?_
          rintro _ ⟨mm, rfl⟩
          have B2 := Lib.hid (HB.out.trans ((HC.out.back mm).mono HB.out.size))
          clear m1 m2 HQ HC
          generalize W mm = wv at *
          go_wp2_with fail
          go_roundw
          case rel => exact ⟨k + 1, by go_num, by omega, HT2, B2⟩
          case measure => simp [intOf]; omega
        · have HV := Lib.hid (decide_eq_false (HNE.out hxy))
          have HQ := run_neWord x y true (by simp [hxy])
          clear hxy HS HNE
          go_wp2_with fail
          refine wp_region_cls W (by kernel_rfl) (by kernel_rfl) HC.out.one ?_
          repeat go_big_quiet_step (fail)
          refine wpQuiet_nil ?_
          rintro _ ⟨mm, rfl⟩
          have B2 := Lib.hid (HB.out.trans ((HC.out.back mm).mono HB.out.size))
          clear m1 m2 HQ HC
          generalize W mm = wv at *
          go_wp2_with fail
          try rw [Exit.noGoto_ret]
          go_ret
          exact ⟨by rw [HV.out]; rfl, B2.out⟩
      · obtain rfl : n = k := by omega
        have HV := Lib.hid (show decide (l = l') = true from decide_eq_true (by
          have := HT.out
          rwa [List.take_of_length_le (by rw [← HN.out]; exact Nat.le_refl _), List.take_of_length_le (by rw [← HM.out]; exact Nat.le_refl _)] at this))
        clear HT
        go_wp2_with fail
        go_ret
        exact ⟨by rw [HV.out]; rfl, HB.out⟩
  · have t0 : ((n : Int) != (m : Int)) = true := by simpa using (show (n : Int) ≠ (m : Int) by omega)
    have HV := Lib.hid (show decide (l = l') = false from decide_eq_false (fun e => hnm (by rw [HN.out, HM.out, e])))
    clear hnm
    go_enter Try.func25, Try.ntmps25
    go_wp2_with fail
    go_ret
    exact ⟨by rw [HV.out]; rfl, Below.refl _ _⟩
end
end
section
set_option linter.unusedSimpArgs false
set_option linter.unusedVariables false
open Go.RowKit Sha
@[irreducible] def allocOp (t : TypeId) : Sem Next := do pure (.value (← Instr.alloc t true (.tuple #[])))
@[irreducible] def storeOp (t : TypeId) (x v : Value) : Sem Next := do Instr.storeAt t x v; pure .skip
@[irreducible] def boxOp (t : TypeId) (x : Value) : Sem Next := do pure (.value (← Instr.box t x))
@[irreducible] def makeOp (t : TypeId) (parts : Array (Nat × Value)) : Sem Next := do pure (.value (← Instr.build t parts))
section
variable {P : Program} {t : TypeId} {w : World} {cs old : Array Value}
theorem run_allocOp (w : World) (hz : (P.info? t).map (fun i => i.zero) = some (some (.agg cs))) : (allocOp t).run P w = .ok (.value (.pointer (some ⟨w.heap.size, 0, none⟩))) (w.alloc (.cells cs t)) := by
  have hz' : (zeroValue t).run P w = .ok (.agg cs) w := by
    cases hq : P.info? t with
    | none => simp [hq] at hz
    | some i => simp [hq] at hz; simp [zeroValue, typeInfo, hq, hz]
  unfold allocOp
  simp only [Instr.alloc, Sem.run_bind, hz', Result.andThen_ok, Sem.run_pure]
  rfl
theorem run_boxOp (w : World) : (boxOp t (.agg cs)).run P w = .ok (.value (.pointer (some ⟨w.heap.size, 0, none⟩))) (w.alloc (.cells cs t)) := by
  unfold boxOp
  simp only [Instr.box, Sem.run_bind, Result.andThen_ok, Sem.run_pure]
  rfl
theorem run_storeOp {g : Nat} {te : TypeId} (hg : w.heap[g]? = some (.cells old te (0, 0))) (hi : (P.info? t).map (fun i => i.size) = some cs.size) (ho : old.size = cs.size) (h1 : cs.all (·.oneCell') = true) : (storeOp t (.pointer (some ⟨g, 0, none⟩)) (.agg cs)).run P w = .ok .skip (w.setRow g cs) := by
  unfold storeOp
  simp only [Instr.storeAt, Instr.sureAddr, Sem.run_bind, Sem.run_pure, Result.andThen_ok, run_storeVar_row w g te t old cs hg hi ho h1]
theorem run_storeNew (w : World) (hi : (P.info? t).map (fun i => i.size) = some cs.size) (ho : old.size = cs.size) (h1 : cs.all (·.oneCell') = true) : (storeOp t (.pointer (some ⟨w.heap.size, 0, none⟩)) (.agg cs)).run P (w.alloc (.cells old t)) = .ok .skip (w.alloc (.cells cs t)) := by
  rw [run_storeOp (heap_alloc_new w _) hi ho h1, World.setRow_alloc_new]
theorem World.setRow_alloc_old (w : World) (c c' : Array Value) (t : TypeId) (o : Obj) : ((w.alloc (.cells c t)).alloc o).setRow w.heap.size c' = (w.alloc (.cells c' t)).alloc o := by
  simp only [World.setRow, World.alloc]
  congr 1
  apply Array.ext_getElem?
  intro i
  rw [Array.getElem?_modify, Array.getElem?_push, Array.getElem?_push, Array.getElem?_push, Array.getElem?_push]
  simp only [Array.size_push]
  by_cases h : w.heap.size = i
  · subst h; simp
  · simp [h, show ¬ i = w.heap.size from fun e => h e.symm]
theorem run_storeNew2 (w : World) (o : Obj) (hi : (P.info? t).map (fun i => i.size) = some cs.size) (ho : old.size = cs.size) (h1 : cs.all (·.oneCell') = true) : (storeOp t (.pointer (some ⟨w.heap.size, 0, none⟩)) (.agg cs)).run P ((w.alloc (.cells old t)).alloc o) = .ok .skip ((w.alloc (.cells cs t)).alloc o) := by
  rw [run_storeOp (old := old) (te := t) ((Blk.new w old t).old o) hi ho h1, World.setRow_alloc_old]
theorem run_loadRow {g : Nat} {te : TypeId} {d : TypeDesc} (hg : w.heap[g]? = some (.cells cs te (0, 0))) (hu : P.underlying t = some d) (hd : (match d with | .struct _ | .array _ _ => true | _ => false) = true) (hi : (P.info? t).map (fun i => i.size) = some cs.size) : (loadOp t (.pointer (some ⟨g, 0, none⟩))).run P w = .ok (.value (.agg cs)) w := by
  refine run_loadOp ?_
  simp only [Instr.loadAt, Instr.sureAddr, Sem.run_bind, Sem.run_pure, Result.andThen_ok, run_loadVar_row w g te t cs (0, 0) d hg hu hd hi]
theorem run_makeOp {parts : Array (Nat × Value)} (w : World) (h : P.built t parts.toList = some cs) : (makeOp t parts).run P w = .ok (.value (.agg cs)) w := by
  unfold makeOp; simp only [Sem.run_bind, run_build w t _ cs h, Result.andThen_ok, Sem.run_pure]
end
end
section
set_option linter.unusedSimpArgs false
set_option linter.unusedVariables false
open Go.RowKit Sha Nte
theorem execOp_eqCall (ρ : Operand → Value) (dst : Option Tmp) (x y : Operand) (r : TypeId) (ty : TypeId) (pos : String) (after : Array Edge) (guard : Option (Nat × Bool)) :
    execOp ρ { dst := dst, op := .binOp .eql 23 x y r, type := ty, pos := pos, after := after, guard := guard } = eqO 23 x y (ρ x) (ρ y) := by unfold eqO; rfl
theorem execOp_eqBall (ρ : Operand → Value) (dst : Option Tmp) (x y : Operand) (r : TypeId) (ty : TypeId) (pos : String) (after : Array Edge) (guard : Option (Nat × Bool)) :
    execOp ρ { dst := dst, op := .binOp .eql 25 x y r, type := ty, pos := pos, after := after, guard := guard } = eqO 25 x y (ρ x) (ρ y) := by unfold eqO; rfl
theorem run_eqCall (a b c a' b' c' : Int) (e : Bool) (he : e = decide (a = a' ∧ b = b' ∧ c = c')) (x y : Operand) (w : World) : (eqO 23 x y (.agg #[nic a, nic b, nic c]) (.agg #[nic a', nic b', nic c'])).run Try.prog w = .ok (.value (.bool e)) w := by
  subst he
  have hd : decide (a = a' ∧ b = b' ∧ c = c') = (a == a' && b == b' && c == c') := by
    rw [Bool.eq_iff_iff]; simp [and_assoc]
  rw [hd]
  unfold eqO
  by_cases h : a = a' <;> by_cases h2 : b = b' <;> by_cases h3 : c = c' <;> simp [go_sem, h, h2, h3]
theorem run_eqBall (a b a' b' : Int) (e : Bool) (he : e = decide (a = a' ∧ b = b')) (x y : Operand) (w : World) : (eqO 25 x y (.agg #[nic a, nic b]) (.agg #[nic a', nic b'])).run Try.prog w = .ok (.value (.bool e)) w := by
  subst he
  have hd : decide (a = a' ∧ b = b') = (a == a' && b == b') := by
    rw [Bool.eq_iff_iff]; simp
  rw [hd]
  unfold eqO
  by_cases h : a = a' <;> by_cases h2 : b = b' <;> simp [go_sem, h, h2]
theorem not_ext (x y : Not) : decide (x = y) = ((x.K == y.K) && (x.F == y.F) && (x.T == y.T) && decide (x.C1 = y.C1 ∧ x.C2 = y.C2 ∧ x.C3 = y.C3) && (x.S == y.S) && (x.H == y.H) && decide (x.B1 = y.B1 ∧ x.B2 = y.B2) && decide (x.O1 = y.O1 ∧ x.O2 = y.O2) && (x.Y == y.Y) && decide (x.D = y.D) && decide (x.X = y.X) && decide (x.I = y.I) && decide (x.W = y.W)) := by
  cases x; cases y
  rw [Bool.eq_iff_iff]
  simp [and_assoc]
section
variable (ρ : Operand → Value) (dst : Option Tmp) (x : Operand) (ty : TypeId) (pos : String) (after : Array Edge) (guard : Option (Nat × Bool))
theorem execOp_loadInt : execOp ρ { dst := dst, op := .load 3 x, type := ty, pos := pos, after := after, guard := guard } = loadOp 3 (ρ x) := by unfold loadOp; rfl
theorem execOp_loadBool : execOp ρ { dst := dst, op := .load 4 x, type := ty, pos := pos, after := after, guard := guard } = loadOp 4 (ρ x) := by unfold loadOp; rfl
theorem execOp_loadBytes : execOp ρ { dst := dst, op := .load 28 x, type := ty, pos := pos, after := after, guard := guard } = loadOp 28 (ρ x) := by unfold loadOp; rfl
theorem execOp_loadIds : execOp ρ { dst := dst, op := .load 29 x, type := ty, pos := pos, after := after, guard := guard } = loadOp 29 (ρ x) := by unfold loadOp; rfl
theorem execOp_loadWords : execOp ρ { dst := dst, op := .load 30 x, type := ty, pos := pos, after := after, guard := guard } = loadOp 30 (ρ x) := by unfold loadOp; rfl
end
theorem load_int {w : World} {g o : Nat} {n : Int} (h : w.cell? ⟨g, o, none⟩ = some (nic n)) : (loadOp 3 (.pointer (some ⟨g, o, none⟩))).run Try.prog w = .ok (.value (nic n)) w := by unfold loadOp; simp [go_sem, h]
theorem load_bool {w : World} {g o : Nat} {n : Bool} (h : w.cell? ⟨g, o, none⟩ = some (.bool n)) : (loadOp 4 (.pointer (some ⟨g, o, none⟩))).run Try.prog w = .ok (.value (.bool n)) w := by unfold loadOp; simp [go_sem, h]
theorem load_bytes {w : World} {g o : Nat} {v : Value} (h : w.cell? ⟨g, o, none⟩ = some v) : (loadOp 28 (.pointer (some ⟨g, o, none⟩))).run Try.prog w = .ok (.value v) w := by unfold loadOp; simp [go_sem, h]
theorem load_ids {w : World} {g o : Nat} {v : Value} (h : w.cell? ⟨g, o, none⟩ = some v) : (loadOp 29 (.pointer (some ⟨g, o, none⟩))).run Try.prog w = .ok (.value v) w := by unfold loadOp; simp [go_sem, h]
theorem load_words {w : World} {g o : Nat} {v : Value} (h : w.cell? ⟨g, o, none⟩ = some v) : (loadOp 30 (.pointer (some ⟨g, o, none⟩))).run Try.prog w = .ok (.value v) w := by unfold loadOp; simp [go_sem, h]
/-- A note in a block: what is loaded of it. -/
structure NBlk (w : World) (g : Nat) (x : Not) (h : NHd) : Prop where
  c0 : (loadOp 3 (.pointer (some ⟨g, 0, none⟩))).run Try.prog w = .ok (.value (nic x.K)) w
  c1 : (loadOp 3 (.pointer (some ⟨g, 1, none⟩))).run Try.prog w = .ok (.value (nic x.F)) w
  c2 : (loadOp 3 (.pointer (some ⟨g, 2, none⟩))).run Try.prog w = .ok (.value (nic x.T)) w
  c3 : (loadOp 23 (.pointer (some ⟨g, 3, none⟩))).run Try.prog w = .ok (.value (.agg #[nic x.C1, nic x.C2, nic x.C3])) w
  c6 : (loadOp 3 (.pointer (some ⟨g, 6, none⟩))).run Try.prog w = .ok (.value (nic x.S)) w
  c7 : (loadOp 3 (.pointer (some ⟨g, 7, none⟩))).run Try.prog w = .ok (.value (nic x.H)) w
  c8 : (loadOp 25 (.pointer (some ⟨g, 8, none⟩))).run Try.prog w = .ok (.value (.agg #[nic x.B1, nic x.B2])) w
  c10 : (loadOp 25 (.pointer (some ⟨g, 10, none⟩))).run Try.prog w = .ok (.value (.agg #[nic x.O1, nic x.O2])) w
  c12 : (loadOp 4 (.pointer (some ⟨g, 12, none⟩))).run Try.prog w = .ok (.value (.bool x.Y)) w
  c13 : (loadOp 27 (.pointer (some ⟨g, 13, none⟩))).run Try.prog w = .ok (.value (.agg (x.D.map v8).toArray)) w
  c45 : (loadOp 28 (.pointer (some ⟨g, 45, none⟩))).run Try.prog w = .ok (.value (.slice h.q x.X.length h.c)) w
  c46 : (loadOp 29 (.pointer (some ⟨g, 46, none⟩))).run Try.prog w = .ok (.value (.slice h.r x.I.length h.d)) w
  c47 : (loadOp 30 (.pointer (some ⟨g, 47, none⟩))).run Try.prog w = .ok (.value (.slice h.s x.W.length h.e)) w
theorem nblk_cells {w : World} {g : Nat} {x : Not} {h : NHd} (hr : w.rangeAt g 0 (ncells x h)) (i : Nat) {v : Value} (hv : (ncells x h)[i]? = some v) : w.cell? ⟨g, i, none⟩ = some v := by
  have := hr i v hv
  rwa [Nat.zero_add] at this
theorem nblk_of {w : World} {g : Nat} {x : Not} {h : NHd} (hr : w.rangeAt g 0 (ncells x h)) (hx : x.D.length = 32) : NBlk w g x h :=
  ⟨load_int (nblk_cells hr 0 (ncells_0 x h)), load_int (nblk_cells hr 1 (ncells_1 x h)), load_int (nblk_cells hr 2 (ncells_2 x h)), load_ncall (o := 0) hr, load_int (nblk_cells hr 6 (ncells_6 x h)), load_int (nblk_cells hr 7 (ncells_7 x h)), load_nball (o := 0) hr, load_noth (o := 0) hr,
   load_bool (nblk_cells hr 12 (ncells_12 x h)), load_nid (o := 0) hx hr, load_bytes (nblk_cells hr 45 (ncells_X hx h)), load_ids (nblk_cells hr 46 (ncells_I hx h)), load_words (nblk_cells hr 47 (ncells_W hx h))⟩
theorem nblk {w : World} {g : Nat} {x : Not} {h : NHd} (k : Blk w g (ncells x h) 32) (hx : x.D.length = 32) : NBlk w g x h := nblk_of k.range hx
theorem execOp_boxNote (ρ : Operand → Value) (dst : Option Tmp) (x : Operand) (ty : TypeId) (pos : String) (after : Array Edge) (guard : Option (Nat × Bool)) :
    execOp ρ { dst := dst, op := .box 32 x, type := ty, pos := pos, after := after, guard := guard } = boxOp 32 (ρ x) := by unfold boxOp; rfl
/-- A note boxed. -/
theorem box_note (w : World) (x : Not) (h : NHd) : ∃ (g : Nat) (w1 : World), (boxOp 32 (.agg (ncells x h).toArray)).run Try.prog w = .ok (.value (.pointer (some ⟨g, 0, none⟩))) w1 ∧ g = w.heap.size ∧ g < w1.heap.size ∧ Blk w1 g (ncells x h) 32 ∧ Below w.heap.size w w1 :=
  ⟨w.heap.size, w.alloc (.cells (ncells x h).toArray 32), run_boxOp w, rfl, by simp, Blk.new w (ncells x h).toArray 32, (Below.refl _ w).alloc (Nat.le_refl _) _⟩
section
variable (ρ : Operand → Value) (dst : Option Tmp) (ty : TypeId) (pos : String) (after : Array Edge) (guard : Option (Nat × Bool)) (x y : Operand) (parts : Array (Nat × Operand)) (len : Nat)
theorem execOp_allocNote : execOp ρ { dst := dst, op := .alloc 32, type := ty, pos := pos, after := after, guard := guard } = allocOp 32 := by unfold allocOp; rfl
theorem execOp_storeNote : execOp ρ { dst := dst, op := .store 32 x y, type := ty, pos := pos, after := after, guard := guard } = storeOp 32 (ρ x) (ρ y) := by unfold storeOp; rfl
theorem execOp_makeNote : execOp ρ { dst := dst, op := .build 32 parts, type := ty, pos := pos, after := after, guard := guard } = makeOp 32 (parts.map fun (i, x) => (i, ρ x)) := by unfold makeOp; rfl
end
theorem nz_len : none_.D.length = 32 := Fld.zero32_length
theorem note_zero : (Try.prog.info? 32).map (fun i => i.zero) = some (some (.agg (ncells none_ NHd.none_).toArray)) := by unfold ncells; kernel_rfl
theorem note_sizeA {x : Not} (hx : x.D.length = 32) (h : NHd) : (Try.prog.info? 32).map (fun i => i.size) = some (ncells x h).toArray.size := by
  rw [note_size, List.size_toArray, ncells_length hx]
theorem note_sizeE {x y : Not} (hx : x.D.length = 32) (hy : y.D.length = 32) (h k : NHd) : (ncells x h).toArray.size = (ncells y k).toArray.size := by
  rw [List.size_toArray, List.size_toArray, ncells_length hx, ncells_length hy]
theorem note_all1 (x : Not) (h : NHd) : (ncells x h).toArray.all (·.oneCell') = true := by
  rw [Array.all_eq_true]
  intro i hi
  simp only [List.getElem_toArray]
  exact ncells_one x h _ (List.getElem_mem _)
theorem alloc_note (w : World) : (allocOp 32).run Try.prog w = .ok (.value (.pointer (some ⟨w.heap.size, 0, none⟩))) (w.alloc (.cells (ncells none_ NHd.none_).toArray 32)) := run_allocOp w note_zero
theorem store_note {x y : Not} {h k : NHd} {w : World} {g : Nat} (hb : Blk w g (ncells y k) 32) (hy : y.D.length = 32) (hx : x.D.length = 32) : (storeOp 32 (.pointer (some ⟨g, 0, none⟩)) (.agg (ncells x h).toArray)).run Try.prog w = .ok .skip (w.setRow g (ncells x h).toArray) :=
  run_storeOp hb (note_sizeA hx h) (note_sizeE hy hx ..) (note_all1 ..)
theorem store_note1 (w : World) {x : Not} {h : NHd} (hx : x.D.length = 32) : (storeOp 32 (.pointer (some ⟨w.heap.size, 0, none⟩)) (.agg (ncells x h).toArray)).run Try.prog (w.alloc (.cells (ncells none_ NHd.none_).toArray 32)) = .ok .skip (w.alloc (.cells (ncells x h).toArray 32)) :=
  run_storeNew w (note_sizeA hx h) (note_sizeE nz_len hx ..) (note_all1 ..)
/-- What a function tells of a note: where its parts lie, and the note. -/
def NTold (x : Not) (w : World) (e : Ending) (w' : World) : Prop := ∃ h, e = .returned (.agg (ncells x h).toArray) ∧ NGood w' x h ∧ Below w.heap.size w w'
end
end Go.Proofs.Yteepaoklibflpaa
