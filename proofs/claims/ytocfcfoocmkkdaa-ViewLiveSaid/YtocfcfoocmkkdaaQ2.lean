/-
  The program's words: what a status is, which words may be.
  Slices of one-cell elements in a walk: what a slice reads as, whatever its address; cut; an element; a part as an array.
  A region that draws its order, all of whose operations answer the same in every world behind one: read, and call what only adds to memory. General: no program is named here.
  A region that draws its order: a head that reads and calls quietly (its callees may draw), a tail whose order is forced; outside a round and inside one. No program is named here.
  A region that draws its order: a head all of whose operations answer the same in every world behind one (they read, and call what only adds to memory), and a tail whose order is forced. General: no program is named here.
-/
import Derived.Test.YtocfcfoocmkkdaaRows
import Derived.Test.YtocfcfoocmkkdaaChecked
import Derived.WalkKit
import Derived.WalkSpells
import Derived.WalkLawsBesides
import Derived.IntWalk
import Derived.Lib.Hide
import Derived.Test.YtocfcfoocmkkdaaQ1
import Derived.Deep.MidRow
import Derived.Laws.Cover3
import Derived.Deep.Quiet
import Derived.StillTail
import Derived.OrdersIn
import Derived.RangeFuncCalls
import Derived.OwnWalkIn
namespace Go.Proofs.Ytocfcfoocmkkdaa
section
set_option linter.unusedSimpArgs false
set_option linter.unusedVariables false
open Go.RowKit Sha
abbrev mv (m : Mb) : Value := .agg #[.int .i64 m.I, .int .i64 m.S, .int .i64 m.N]
theorem statusOf_any (m : Mb) (w : World) : Calls Try.prog 45 #[mv m] w fun e w' => e = .returned (.int .i64 m.S) ∧ w' = w.alloc (.cells #[.int .i64 m.I, .int .i64 m.S, .int .i64 m.N] 29) := by
  go_enter Try.func45, Try.ntmps45
  go_wp2_with fail
  go_ret
  exact ⟨rfl, rfl⟩
theorem known_s (s : Int) (w : World) : Calls Try.prog 47 #[.int .i64 s] w fun e w' => e = .returned (.bool (decide (1 ≤ s ∧ s ≤ 4))) ∧ w' = w := by
  by_cases h1 : 1 ≤ s
  · have t1 : decide (1 ≤ s) = true := by simpa using h1
    have HV := Lib.hid (show decide (1 ≤ s ∧ s ≤ 4) = decide (s ≤ 4) from by simp [h1])
    clear h1
    go_enter Try.func47, Try.ntmps47
    go_wp2_with fail
    go_ret
    exact ⟨by rw [HV.out]; rfl, rfl⟩
  · have t1 : decide (1 ≤ s) = false := by simpa using h1
    have HV := Lib.hid (show decide (1 ≤ s ∧ s ≤ 4) = false from by simp [h1])
    clear h1
    go_enter Try.func47, Try.ntmps47
    go_wp2_with fail
    go_ret
    exact ⟨by rw [HV.out]; rfl, rfl⟩
theorem live_s (s : Int) (w : World) : Calls Try.prog 46 #[.int .i64 s] w fun e w' => e = .returned (.bool (decide (s = 1 ∨ s = 2))) ∧ w' = w := by
  by_cases h1 : s = 1
  · subst h1
    go_enter Try.func46, Try.ntmps46
    go_wp2_with fail
    go_ret
    exact ⟨rfl, rfl⟩
  · have t1 : (s == 1) = false := by simpa using h1
    have HV := Lib.hid (show decide (s = 1 ∨ s = 2) = (s == 2) from by simp [h1]; rfl)
    clear h1
    go_enter Try.func46, Try.ntmps46
    go_wp2_with fail
    go_ret
    exact ⟨by rw [HV.out]; rfl, rfl⟩
theorem live_any (m : Mb) (w : World) : Calls Try.prog 29 #[mv m] w fun e w' => e = .returned (.bool m.live) ∧ Below w.heap.size w w' := by
  have HV := Lib.hid (show m.live = decide (m.S = 1 ∨ m.S = 2) from rfl)
  have HL := Lib.hid (live_s m.S)
  rw [← HV.out] at HL
  clear HV
  generalize m.live = b at *
  go_enter Try.func29, Try.ntmps29
  go_wp2_with ((first | (go_at_call 45; refine (statusOf_any m _).mono ?_; rintro e w' ⟨rfl, rfl⟩) | (go_at_call 46; refine (HL.out _).mono ?_; rintro e w' ⟨rfl, rfl⟩)))
  go_ret
  exact ⟨rfl, ((Below.refl _ _).alloc (Nat.le_refl _) _).alloc (by simp) _⟩
set_option maxHeartbeats 1000000 in
theorem check_any (m : Mb) (w : World) : Calls Try.prog 31 #[mv m] w fun e w' => e = .returned (.int .i64 m.err) ∧ Below w.heap.size w w' := by
  by_cases h1 : m.I < 1
  · have HV := Lib.hid (show m.err = 2 from if_neg (by unfold Mb.May; omega))
    have t1 : decide (m.I < 1) = true := by exact decide_eq_true (by omega)
    clear h1
    go_enter Try.func31, Try.ntmps31
    go_wp2_with fail
    go_ret
    exact ⟨by rw [HV.out]; rfl, (Below.refl _ _).alloc (Nat.le_refl _) _⟩
  · skip
    by_cases h2 : 64 < m.I
    · have HV := Lib.hid (show m.err = 2 from if_neg (by unfold Mb.May; omega))
      have t1 : decide (m.I < 1) = false := by exact decide_eq_false (by omega)
      have t2 : decide (64 < m.I) = true := by exact decide_eq_true (by omega)
      clear h1 h2
      go_enter Try.func31, Try.ntmps31
      go_wp2_with fail
      go_ret
      exact ⟨by rw [HV.out]; rfl, (Below.refl _ _).alloc (Nat.le_refl _) _⟩
    · skip
      by_cases h3 : ¬ (1 ≤ m.S ∧ m.S ≤ 4)
      · have HV := Lib.hid (show m.err = 2 from if_neg (by unfold Mb.May; omega))
        have t1 : decide (m.I < 1) = false := by exact decide_eq_false (by omega)
        have t2 : decide (64 < m.I) = false := by exact decide_eq_false (by omega)
        have t3 : decide (1 ≤ m.S ∧ m.S ≤ 4) = false := by exact decide_eq_false (by omega)
        clear h1 h2 h3
        go_enter Try.func31, Try.ntmps31
        go_wp2_with ((first | (go_at_call 45; refine (statusOf_any m _).mono ?_; rintro e w' ⟨rfl, rfl⟩) | (go_at_call 47; refine (known_s _ _).mono ?_; rintro e w' ⟨rfl, rfl⟩; rw [t3])))
        go_ret
        exact ⟨by rw [HV.out]; rfl, ((Below.refl _ _).alloc (Nat.le_refl _) _).alloc (by simp) _⟩
      · skip
        by_cases h4 : m.N < 0
        · have HV := Lib.hid (show m.err = 2 from if_neg (by unfold Mb.May; omega))
          have t1 : decide (m.I < 1) = false := by exact decide_eq_false (by omega)
          have t2 : decide (64 < m.I) = false := by exact decide_eq_false (by omega)
          have t3 : decide (1 ≤ m.S ∧ m.S ≤ 4) = true := by exact decide_eq_true (by omega)
          have t4 : decide (m.N < 0) = true := by exact decide_eq_true (by omega)
          clear h1 h2 h3 h4
          go_enter Try.func31, Try.ntmps31
          go_wp2_with ((first | (go_at_call 45; refine (statusOf_any m _).mono ?_; rintro e w' ⟨rfl, rfl⟩) | (go_at_call 47; refine (known_s _ _).mono ?_; rintro e w' ⟨rfl, rfl⟩; rw [t3])))
          go_ret
          exact ⟨by rw [HV.out]; rfl, ((Below.refl _ _).alloc (Nat.le_refl _) _).alloc (by simp) _⟩
        · skip
          by_cases h5 : 2147483647 < m.N
          · have HV := Lib.hid (show m.err = 2 from if_neg (by unfold Mb.May; omega))
            have t1 : decide (m.I < 1) = false := by exact decide_eq_false (by omega)
            have t2 : decide (64 < m.I) = false := by exact decide_eq_false (by omega)
            have t3 : decide (1 ≤ m.S ∧ m.S ≤ 4) = true := by exact decide_eq_true (by omega)
            have t4 : decide (m.N < 0) = false := by exact decide_eq_false (by omega)
            have t5 : decide (2147483647 < m.N) = true := by exact decide_eq_true (by omega)
            clear h1 h2 h3 h4 h5
            go_enter Try.func31, Try.ntmps31
            go_wp2_with ((first | (go_at_call 45; refine (statusOf_any m _).mono ?_; rintro e w' ⟨rfl, rfl⟩) | (go_at_call 47; refine (known_s _ _).mono ?_; rintro e w' ⟨rfl, rfl⟩; rw [t3])))
            go_ret
            exact ⟨by rw [HV.out]; rfl, ((Below.refl _ _).alloc (Nat.le_refl _) _).alloc (by simp) _⟩
          · have HV := Lib.hid (show m.err = 0 from if_pos (by unfold Mb.May; omega))
            have t1 : decide (m.I < 1) = false := by exact decide_eq_false (by omega)
            have t2 : decide (64 < m.I) = false := by exact decide_eq_false (by omega)
            have t3 : decide (1 ≤ m.S ∧ m.S ≤ 4) = true := by exact decide_eq_true (by omega)
            have t4 : decide (m.N < 0) = false := by exact decide_eq_false (by omega)
            have t5 : decide (2147483647 < m.N) = false := by exact decide_eq_false (by omega)
            clear h1 h2 h3 h4 h5
            go_enter Try.func31, Try.ntmps31
            go_wp2_with ((first | (go_at_call 45; refine (statusOf_any m _).mono ?_; rintro e w' ⟨rfl, rfl⟩) | (go_at_call 47; refine (known_s _ _).mono ?_; rintro e w' ⟨rfl, rfl⟩; rw [t3])))
            go_ret
            exact ⟨by rw [HV.out]; rfl, ((Below.refl _ _).alloc (Nat.le_refl _) _).alloc (by simp) _⟩
end
section
set_option linter.unusedSimpArgs false
set_option linter.unusedVariables false
variable {P : Program}
/-- From address a on the cells cs lie. (An empty list lies anywhere.) -/
def At (w : World) (a : Option Addr) (cs : List Value) : Prop := cs = [] ∨ ∃ b off, a = some ⟨b, off, none⟩ ∧ ∀ i v, cs[i]? = some v → w.cell? ⟨b, off + i, none⟩ = some v
theorem At.nil (w : World) (a : Option Addr) : At w a [] := Or.inl rfl
theorem At.carry {w w' : World} {a : Option Addr} {cs : List Value} (h : At w a cs) (hc : ∀ p v, w.cell? p = some v → w'.cell? p = some v) : At w' a cs := by
  rcases h with h | ⟨b, off, ha, hc'⟩
  · exact Or.inl h
  · exact Or.inr ⟨b, off, ha, fun i v hi => hc _ _ (hc' i v hi)⟩
theorem At.below {w w' : World} {a : Option Addr} {cs : List Value} (h : At w a cs) (hb : RowKit.Below w.heap.size w w') : At w' a cs :=
  h.carry fun p v hv => by rw [hb.cell (World.block_lt_of_cell? w p hv)]; exact hv
theorem At.drew {w : World} {a : Option Addr} {cs : List Value} (h : At w a cs) : At w.drew a cs := h
theorem At.drewN {w : World} {a : Option Addr} {cs : List Value} (h : At w a cs) (n : Nat) : At (w.drewN n) a cs := h
theorem At.alloc {w : World} {a : Option Addr} {cs : List Value} (h : At w a cs) (o : Obj) : At (w.alloc o) a cs :=
  h.below (RowKit.Below.alloc (RowKit.Below.refl _ _) (Nat.le_refl _) o)
theorem At.addr {w : World} {a : Option Addr} {cs : List Value} (h : At w a cs) (hn : 0 < cs.length) : ∃ b off, a = some ⟨b, off, none⟩ ∧ ∀ i v, cs[i]? = some v → w.cell? ⟨b, off + i, none⟩ = some v := by
  rcases h with h | h
  · subst h; simp at hn
  · exact h
theorem At.sub {w : World} {a : Option Addr} {cs : List Value} (h : At w a cs) (lo hi cap : Nat) (hc : cs.length ≤ cap) : At w (if cap = lo then a else a.map (·.add lo)) ((cs.take hi).drop lo) := by
  by_cases e : cap = lo
  · left; simp; omega
  rw [if_neg e]
  rcases h with h | ⟨b, off, ha, hc'⟩
  · left; simp [h]
  · refine Or.inr ⟨b, off + lo, by rw [ha]; simp [Addr.add_mid], fun i v hi' => ?_⟩
    rw [List.getElem?_drop, List.getElem?_take] at hi'
    split at hi'
    · have := hc' (lo + i) v hi'
      rwa [← Nat.add_assoc] at this
    · cases hi'
theorem At.range {w : World} {b off : Nat} {cs : List Value} (h : At w (some ⟨b, off, none⟩) cs) : w.rangeAt b off cs := by
  rcases h with h | ⟨b', off', ha, hc'⟩
  · subst h; intro j v hv; simp at hv
  · cases ha; exact hc'
/-- A cut: where the capacity is used up the address stays. -/
def cutV (p : Option Addr) (l h cap : Nat) : Value := .slice (if cap = l then p else p.map (·.add l)) (h - l) (cap - l)
theorem size_one {e : TypeId} (he : (P.info? e).map (fun i => i.size) = some 1) (w : World) : (sizeOf e).run P w = .ok 1 w := by
  cases hq : P.info? e with
  | none => simp [hq] at he
  | some j => simp [hq] at he; simp [sizeOf, typeInfo, hq, he]
theorem elem_of {t e : TypeId} (hu : P.underlying t = some (.slice e)) : P.elem t = e := by simp [Program.elem, hu]
section
variable (t e : TypeId) (p : Option Addr) (len cap : Nat) (hu : P.underlying t = some (.slice e)) (he : (P.info? e).map (fun i => i.size) = some 1)
include hu he
theorem run_cut_lh (kl kh : IntKind) (l h : Int) (h0 : 0 ≤ l) (h1 : l ≤ h) (h2 : h ≤ cap) (w : World) :
    (Instr.sliceAt t (.slice p len cap) (some (.int kl l)) (some (.int kh h)) none).run P w = .ok (cutV p l.toNat h.toNat cap) w := by
  have hu' : P.underlying t = some (.slice (P.elem t)) := by rw [elem_of hu]; exact hu
  rw [run_sliceAt_slice w t _ _ _ _ hu', run_slice_lh w t p len cap hu' kl kh l h h0 h1 h2, elem_of hu, size_one he]
  simp [Result.andThen, sliced, cutV]
theorem run_cut_h (kh : IntKind) (h : Int) (h0 : 0 ≤ h) (h2 : h ≤ cap) (w : World) :
    (Instr.sliceAt t (.slice p len cap) none (some (.int kh h)) none).run P w = .ok (cutV p 0 h.toNat cap) w := by
  have hu' : P.underlying t = some (.slice (P.elem t)) := by rw [elem_of hu]; exact hu
  rw [run_sliceAt_slice w t _ _ _ _ hu', run_slice_h w t p len cap hu' kh h h0 h2, elem_of hu, size_one he]
  simp [Result.andThen, sliced, cutV]
theorem run_cut_l (kl : IntKind) (l : Int) (h0 : 0 ≤ l) (h1 : l ≤ len) (w : World) :
    (Instr.sliceAt t (.slice p len cap) (some (.int kl l)) none none).run P w = .ok (cutV p l.toNat len cap) w := by
  have hu' : P.underlying t = some (.slice (P.elem t)) := by rw [elem_of hu]; exact hu
  rw [run_sliceAt_slice w t _ _ _ _ hu', run_slice_l w t p len cap hu' kl l h0 h1, elem_of hu, size_one he]
  simp [Result.andThen, sliced, cutV]
end
section
variable {ops : Array Oper} {rest : List Oper} {o : Oper} {a : Act} {w : World} {Q : Exit → Act → World → Prop} {C : World → Prop} {K : Act → Prop}
theorem quiet_cut (t : TypeId) (x : Operand) (lo hi : Option Operand) (ho : o.op = .slice t x lo hi none) (p : Option Addr) (l h cap : Nat)
    (hr : ∀ w, (Instr.sliceAt t (a.eval x) (lo.map a.eval) (hi.map a.eval) none).run P w = .ok (cutV p l h cap) w) (w0 : World) (cs : List Value) (hA : At w0 p cs) (hc : cs.length ≤ cap)
    (hn : ∀ p', At w0 p' ((cs.take h).drop l) → K (a.put o.dst (.slice p' (h - l) (cap - l)))) : o.quiet P a C K :=
  ⟨cutV p l h cap, fun w _ => by
    unfold Oper.quietAt execOp
    simp only [ho, Option.map_none, Sem.run_bind, hr, Result.andThen_ok, Sem.run_pure]
    exact ⟨rfl, rfl⟩, hn _ (hA.sub l h cap hc)⟩
theorem quiet_array (t : TypeId) (x : Operand) (ho : o.op = .sliceToArrayPointer t x) (e : TypeId) (n : Nat) (p : Option Addr) (len cap : Nat) (hu : P.underlying t = some (.array n e)) (hn : n ≤ len)
    (hx : a.eval x = .slice p len cap) (h : K (a.put o.dst (.pointer p))) : o.quiet P a C K :=
  ⟨.pointer p, fun w _ => by
    unfold Oper.quietAt execOp
    simp only [ho, hx, Sem.run_bind, run_arrayAt w t e n p len cap hu hn, Result.andThen_ok, Sem.run_pure]
    exact ⟨rfl, rfl⟩, h⟩
theorem quiet_load_mid (ty : TypeId) (x : Operand) (ho : o.op = .load ty x) (b off : Nat) (hx : a.eval x = .pointer (some ⟨b, off, none⟩)) (cs : List Value) (d : TypeDesc) (hC : ∀ w, C w → w.rangeAt b off cs)
    (hu : P.underlying ty = some d) (hd : d.isRow = true) (hi : (P.info? ty).map (·.size) = some cs.length) (h : K (a.put o.dst (.agg cs.toArray))) : o.quiet P a C K :=
  ⟨.agg cs.toArray, fun w hw => by
    unfold Oper.quietAt execOp
    simp only [ho, hx, Instr.loadAt, Instr.sureAddr, Sem.run_bind, Sem.run_pure, Result.andThen_ok, run_loadVar_mid w b off ty cs d (hC w hw) hu hd hi]
    exact ⟨rfl, rfl⟩, h⟩
theorem Blk.range {w : World} {g : Nat} {cs : List Value} {t : TypeId} (h : Blk w g cs t) : w.rangeAt g 0 cs := fun j v hv => by rw [Nat.zero_add, h.cell]; exact hv
theorem yields_move {ops : Array Oper} (hw : Region.wanted o (yielded ops a.tmps) = true) (x : Operand) (ho : o.op = .move x) (V : Value) (hx : a.eval x = V) : Yields P ops o V a :=
  .inl ⟨hw, fun w => by
    unfold execOp
    simp only [ho, hx, Sem.run_pure]⟩
theorem yields_cut {ops : Array Oper} (hw : Region.wanted o (yielded ops a.tmps) = true) (t : TypeId) (x : Operand) (lo hi : Option Operand) (ho : o.op = .slice t x lo hi none) (V : Value)
    (hr : ∀ w, (Instr.sliceAt t (a.eval x) (lo.map a.eval) (hi.map a.eval) none).run P w = .ok V w) : Yields P ops o V a :=
  .inl ⟨hw, fun w => by
    unfold execOp
    simp only [ho, Option.map_none, Sem.run_bind, hr, Result.andThen_ok, Sem.run_pure]⟩
/-- The same at the list of a plain region. -/
theorem wpList_cut (hgd : o.guard = none) (t : TypeId) (x : Operand) (lo hi : Option Operand) (ho : o.op = .slice t x lo hi none) (p : Option Addr) (l h cap : Nat)
    (hr : ∀ w, (Instr.sliceAt t (a.eval x) (lo.map a.eval) (hi.map a.eval) none).run P w = .ok (cutV p l h cap) w) (cs : List Value) (hA : At w p cs) (hc : cs.length ≤ cap)
    (hn : ∀ p', At w p' ((cs.take h).drop l) → wpList P ops Q rest (a.put o.dst (.slice p' (h - l) (cap - l))) w) : wpList P ops Q (o :: rest) a w := by
  refine wpList_plain hgd fun K hK => ?_
  unfold Oper.wp execOp
  simp only [ho, Option.map_none, Sem.run_bind, hr, Result.andThen_ok, Sem.run_pure]
  exact hK _ _ (hn _ (hA.sub l h cap hc))
end
end
section
set_option linter.unusedSimpArgs false
set_option linter.unusedVariables false
open Go.RowKit
variable {P : Program}
theorem wp_region_cls {I : Type} (W : I → World) {id : Nat} {Q : Exit → Act → World → Prop} {a : Act} {w : World} {l : List Oper} (hm : P.follows .mixedOrders = true) (hB : Region.lexB .any l.toArray = true) (h0 : ∃ n, w.drew = W n)
    (h : wpQuiet P l.toArray (fun w' => ∃ n, w' = W n) (fun a' => ∀ w', (∃ n, w' = W n) → Q .normal a' w') l a) : (Code.region id l.toArray true).wp P Q a w :=
  wp_region_quiet (C := fun w' => ∃ n, w' = W n) hm hB h0 (by simpa using h)
/-- The worlds behind one, by number. -/
structure Cls (w : World) (I : Type) (W : I → World) : Prop where
  back : ∀ n, Below w.heap.size w (W n)
  all : ∀ w', Below w.heap.size w w' → ∃ n, w' = W n
theorem cls_of (w : World) : ∃ (I : Type) (W : I → World), Cls w I W := ⟨{w' : World // Below w.heap.size w w'}, Subtype.val, fun n => n.2, fun w' h => ⟨⟨w', h⟩, rfl⟩⟩
section
variable {w : World} {I : Type} {W : I → World}
theorem Cls.ne (h : Cls w I W) : Nonempty I := by
  obtain ⟨n, _⟩ := h.all w (Below.refl _ _)
  exact ⟨n⟩
theorem Cls.one (h : Cls w I W) : ∃ n, w.drew = W n := h.all _ (Below.refl _ _).drew
theorem Cls.cell (h : Cls w I W) {p : Addr} {v : Value} (hc : w.cell? p = some v) : ∀ n, (W n).cell? p = some v := fun n => ((h.back n).cell (World.block_lt_of_cell? w p hc)).trans hc
theorem Cls.call (h : Cls w I W) {f : Nat} {args : Array Value} {v : Value} (hc : ∀ w', Below w.heap.size w w' → Calls P f args w' fun e w'' => e = .returned v ∧ Below w'.heap.size w' w'') : ∀ n, Calls P f args (W n) fun e w'' => e = .returned v ∧ ∃ m, w'' = W m := fun n =>
  (hc _ (h.back n)).mono fun e w'' ⟨he, hb⟩ => ⟨he, h.all _ ((h.back n).trans (hb.mono (h.back n).size))⟩
end
end
section
set_option linter.unusedSimpArgs false
set_option linter.unusedVariables false
section
variable {P : Program} {ops : Array Oper} {md : Region.Mode} {C : World → Prop}
/-- The head: as long as it is not through, what may come up is of it, and quiet. -/
def wpHead (P : Program) (md : Region.Mode) (ops : Array Oper) (C : World → Prop) (n : Nat) (L : Array Bool → Act → Prop) : Nat → Array Bool → Act → Prop
  | 0, listed, a => L listed a
  | f + 1, listed, a => Region.ready md ops listed ≠ [] ∧ ∀ i ∈ Region.ready md ops listed, i < n ∧ qOp P ops C i (wpHead P md ops C n L f (listed.setIfInBounds i true)) a
theorem wpHead_first {n i : Nat} {oi : Oper} {v : Value} {L : Array Bool → Act → Prop} (hi : ops[i]? = some oi) (hsel : ∀ (j : Nat) (o : Oper) cs b, ops[j]? = some o → o.op ≠ .select cs b)
    (hs : Region.sinkB md ops n = true) (hc : Region.chainB md ops n = true) (hn : n < ops.size) (hin : i < n) (hdone : ∀ listed a, L listed a → ∀ j ∈ Region.ready md ops listed, n ≤ j) (f : Nat) :
    ∀ (listed : Array Bool) (a : Act), HeadInv md ops n listed →
      (∀ j oj, ops[j]? = some oj → j ≠ i → listed.getD j true = false → (∀ e ∈ oj.after, Region.binds md e = true → e.on ≠ i) → oi.apart ops oj = true) →
      i ∈ Region.ready md ops listed → YieldsIn P ops C oi v a → wpHead P md ops C n L f (listed.setIfInBounds i true) (a.put oi.dst v) → wpHead P md ops C n L (f + 1) listed a := by
  induction f with
  | zero =>
    intro listed a inv _ hr hy H
    have hun := (mem_ready.1 hr).1
    refine ⟨List.ne_nil_of_mem hr, fun j hj => ?_⟩
    have hjn : j < n := Nat.lt_of_not_le fun h => tail_waits hs hc hn inv _ i rfl hin hun j h hj
    by_cases hji : j = i
    · subst hji; exact ⟨hjn, hy.qOp hi H⟩
    · have := hdone _ _ H j (ready_mono hj hji); omega
  | succ f ih =>
    intro listed a inv hfree hr hy H
    have hun := (mem_ready.1 hr).1
    refine ⟨List.ne_nil_of_mem hr, fun j hj => ?_⟩
    have hjn : j < n := Nat.lt_of_not_le fun h => tail_waits hs hc hn inv _ i rfl hin hun j h hj
    by_cases hji : j = i
    · subst hji; exact ⟨hjn, hy.qOp hi H⟩
    · refine ⟨hjn, ?_⟩
      obtain ⟨hjun, oj, hoj, hall⟩ := mem_ready.1 hj
      have hnot : ∀ e ∈ oj.after, Region.binds md e = true → e.on ≠ i := fun e he hb heq => by
        have h1 := hall e he hb
        rw [heq, getD_both hun] at h1; cases h1
      refine qOp_mono (fun a' h3 => ih _ a' (inv.set hj hjn) (fun k ok hk hki hku hno => hfree k ok hk hki ?_ hno) (ready_mono hr (Ne.symm hji)) h3.1 ?_)
        (qOp_put hoj (hfree j oj hoj hji hjun hnot) (fun cs b => hsel i oi cs b hi) (fun cs b => hsel j oj cs b hoj) hy (H.2 j (ready_mono hj hji)).2)
      · by_cases hjk : j = k
        · subst hjk; exact hjun
        · rwa [getD_set_ne true hjk] at hku
      · rw [Array.setIfInBounds_comm _ _ hji]; exact h3.2
theorem wpHead_lex {n g : Nat} {Lq : Act → Prop} (hsel : Region.noSelect ops = true) (hs : Region.sinkB md ops n = true) (hc : Region.chainB md ops n = true) (hn : n < ops.size) :
    ∀ (l : List Oper) (k : Nat) (listed : Array Bool) (a : Act), (∀ j, j < l.length → l[j]? = ops[k + j]?) → k + l.length = n → HeadInv md ops n listed →
      Region.lexHead md ops g l.length k listed = true → wpQuiet P ops C Lq l a → wpHead P md ops C n (fun listed' a' => Region.seqB md ops g n listed' = true ∧ Lq a') l.length listed a := by
  intro l
  induction l with
  | nil =>
    intro k listed a _ hk _ hB h
    simp only [List.length_nil, Nat.add_zero] at hk
    subst hk
    exact ⟨hB, h⟩
  | cons o l ih =>
    intro k listed a hl hk inv hB h
    have h0 : ops[k]? = some o := (hl 0 (by simp)).symm
    simp only [List.length_cons, Region.lexHead, Bool.and_eq_true] at hB hk
    have hr : k ∈ Region.ready md ops listed := by simpa using hB.1.1
    obtain ⟨v, hy, hK⟩ := yieldsIn_of_qOp (C := C) (P := P) (K := wpQuiet P ops C Lq l) h0 (by unfold qOp; simp only [h0]; exact h)
    exact wpHead_first h0 (Region.noSelect_spec hsel) hs hc hn (by omega) (fun _ _ hL => seqB_ready hL.1) l.length listed a inv (Region.free_spec h0 hB.1.2) hr hy
      (ih (k + 1) _ _ (fun j hj => by have h1 := hl (j + 1) (by simp; omega); rw [List.getElem?_cons_succ] at h1; rw [h1, show k + (j + 1) = k + 1 + j by omega]) (by omega) (inv.set hr (by omega)) hB.2 hK)
variable {Q : Exit → Act → World → Prop}
theorem any_of_head {n g : Nat} {L : Array Bool → Act → Prop} (hL : ∀ listed a w, C w → L listed a → wpAny P md ops Q g listed a w) (f : Nat) :
    ∀ (listed : Array Bool) (a : Act) (w : World), C w → wpHead P md ops C n L f listed a → wpAny P md ops Q (f + g) listed a w := by
  induction f with
  | zero => intro listed a w hC h; rw [Nat.zero_add]; exact hL _ _ _ hC h
  | succ f ih =>
    intro listed a w hC h
    rw [show f + 1 + g = f + g + 1 by omega]
    exact ⟨fun h0 => absurd h0 h.1, fun i hi => wpOp_of_qOp hC (fun a' w' hw' h' => ih _ a' w' hw' h') (h.2 i hi).2⟩
/-- What a lexical head comes to. -/
theorem head_of_lex {l : List Oper} {a : Act} {Lq : Act → Prop} (n : Nat) (hB : Region.lexTailB .any l.toArray n = true) (h : wpQuiet P l.toArray C Lq (l.take n) a) :
    n < l.length ∧ wpHead P .any l.toArray C n (fun listed' a' => Region.seqB .any l.toArray (l.length - n) n listed' = true ∧ Lq a') n (Array.replicate l.length false) a := by
  simp only [Region.lexTailB, Bool.and_eq_true, decide_eq_true_eq] at hB
  obtain ⟨⟨⟨⟨hsel, hn⟩, hs⟩, hc⟩, hlex⟩ := hB
  have hn' : n < l.length := by simpa using hn
  have htl : (l.take n).length = n := by rw [List.length_take]; omega
  have inv : HeadInv .any l.toArray n (Array.replicate l.toArray.size false) :=
    ⟨by simp, fun j oj _ hl => (by rw [getD_replicate_false] at hl; cases hl), fun t _ ht => getD_in (by simpa using ht) (getD_replicate_false _ _)⟩
  have H := wpHead_lex (P := P) (C := C) (Lq := Lq) (md := .any) (g := l.toArray.size - n) hsel hs hc hn (l.take n) 0 _ a (fun j hj => by rw [List.getElem?_take_of_lt (by omega)]; simp) (by omega) inv (by rw [htl]; exact hlex) h
  rw [htl] at H
  exact ⟨hn', by simpa using H⟩
theorem region_quiet_tail {id : Nat} {a : Act} {w : World} {l : List Oper} (n : Nat) (hm : P.follows .mixedOrders = true) (hB : Region.lexTailB .any l.toArray n = true)
    (h : wpQuiet P l.toArray (fun w' => ∃ k, w' = w.drewN k) (fun a' => ∀ w', (∃ k, w' = w.drewN k) → wpList P l.toArray Q (l.drop n) a' w') (l.take n) a) : (Code.region id l.toArray true).wp P Q a w := by
  obtain ⟨hn, H⟩ := head_of_lex n hB h
  refine wp_region_any hm ?_
  have hA := any_of_head (Q := Q) (g := l.length - n) (C := fun w' => ∃ k, w' = w.drewN k) (fun listed a' w' hw' hL => by
    have h1 := wpAny_of_seq (md := .any) (Q' := Q) (l.drop n) n listed a' w' (fun j => by simp [List.getElem?_drop]) (by rw [List.length_drop]; exact hL.1) (hL.2 w' hw')
    rwa [List.length_drop] at h1) n _ a w.drew ⟨1, rfl⟩ H
  rw [show n + (l.length - n) = l.length by omega] at hA
  simpa using hA
/-! Inside a fence (a round too). -/
variable {F : Fence} {m : Nat}
theorem wpIn_of_quiet {o : Oper} {a : Act} {K : Act → Prop} {K' : Act → World → Prop} {w : World} (hF : ∀ f, F.fn f) (hd : F.depth = none) (hc : ∀ f args w R, Calls P f args w R → CallsIn F (m - 1) P f args w R) (hnd : ∀ c, o.op ≠ .defer c)
    (hw : C w) (h : ∀ a w', C w' → K a → K' a w') (hh : o.quiet P a C K) : o.wpIn F m P a w K' Q := by
  obtain ⟨v, h1, h2⟩ := hh
  have h3 := h1 w hw
  unfold Oper.quietAt at h3
  unfold Oper.wpIn
  refine ⟨fun f _ => hF f, ?_⟩
  rw [Oper.semAt_plain F _ _ hnd]
  generalize (execOp a.eval o).run P w = r at *
  cases r with
  | ok x w' =>
    cases x <;> simp only [Oper.quietUpon] at h3 <;> simp only [Oper.uponIn]
    case value u => obtain ⟨e1, e2⟩ := h3; rw [e1, e2]; exact h _ _ hw h2
    case skip => obtain ⟨e1, e2⟩ := h3; rw [e1, ← e2]; exact h _ _ hw h2
    case enter f args =>
      obtain ⟨e1, hcc⟩ := h3
      rw [e1]
      exact ⟨fun e => (by rw [hd] at e; cases e), CallsIn.mono (hc _ _ _ _ hcc) (fun e w'' ⟨he, hw''⟩ => by subst he; exact h _ _ hw'' h2)⟩
  | halt x w' => simp only [Oper.quietUpon] at h3
theorem anyIn_of_head {n g : Nat} {L : Array Bool → Act → Prop} (hF : ∀ f, F.fn f) (hd : F.depth = none) (hc : ∀ f args w R, Calls P f args w R → CallsIn F (m - 1) P f args w R) (hnd : ∀ (j : Nat) (o : Oper), ops[j]? = some o → ∀ c, o.op ≠ .defer c)
    (hL : ∀ listed a w, C w → L listed a → wpAnyIn F m P md ops Q g listed a w) (f : Nat) :
    ∀ (listed : Array Bool) (a : Act) (w : World), C w → wpHead P md ops C n L f listed a → wpAnyIn F m P md ops Q (f + g) listed a w := by
  induction f with
  | zero => intro listed a w hC h; rw [Nat.zero_add]; exact hL _ _ _ hC h
  | succ f ih =>
    intro listed a w hC h
    rw [show f + 1 + g = f + g + 1 by omega]
    refine ⟨fun h0 => absurd h0 h.1, fun i hi => ?_⟩
    have hq := (h.2 i hi).2
    unfold qOp at hq
    unfold wpOpIn
    split
    · rename_i ho; simp only [ho] at hq; exact ih _ _ _ hC hq
    · rename_i o ho
      simp only [ho] at hq
      split
      · rename_i hw; simp only [hw, if_true] at hq; exact wpIn_of_quiet hF hd hc (hnd i o ho) hC (fun a' w' hw' h' => ih _ a' w' hw' h') hq
      · rename_i hw; simp only [hw] at hq; exact ⟨fun f _ => hF f, ih _ _ _ hC hq⟩
theorem anyIn_of_seq : ∀ (l : List Oper) (k : Nat) (listed : Array Bool) (a : Act) (w : World), (∀ j, l[j]? = ops[k + j]?) →
    Region.seqB md ops l.length k listed = true → wpListIn F m P ops Q l a w → wpAnyIn F m P md ops Q l.length listed a w := by
  intro l
  induction l with
  | nil => intro k listed a w _ hB h; exact ⟨by simpa [Region.seqB] using hB, h⟩
  | cons o l ih =>
    intro k listed a w hl hB h
    have h0 : ops[k]? = some o := (hl 0).symm
    simp only [List.length_cons, Region.seqB, Bool.and_eq_true, decide_eq_true_eq] at hB
    refine ⟨fun h1 => (by rw [hB.1] at h1; cases h1), fun i hi => ?_⟩
    obtain rfl : i = k := by rw [hB.1] at hi; simpa using hi
    have hw : wpOpIn F m P ops Q i (wpListIn F m P ops Q l) a w := by unfold wpOpIn; simp only [h0]; exact h
    exact wpOpIn_mono (fun a' w' h' => ih (i + 1) _ a' w' (fun j => by have h1 := hl (j + 1); rw [List.getElem?_cons_succ] at h1; rw [h1, show i + (j + 1) = i + 1 + j by omega]) hB.2 h') hw
theorem regionIn_quiet_tail {id : Nat} {a : Act} {w : World} {l : List Oper} (n : Nat) (hF : ∀ f, F.fn f) (hd : F.depth = none) (hc : ∀ f args w R, Calls P f args w R → CallsIn F (m - 1) P f args w R)
    (hm : P.follows .mixedOrders = true) (hB : Region.lexTailB .any l.toArray n = true) (hnd : ∀ (o : Oper), o ∈ l → ∀ c, o.op ≠ .defer c)
    (h : wpQuiet P l.toArray (fun w' => ∃ k, w' = w.drewN k) (fun a' => ∀ w', (∃ k, w' = w.drewN k) → wpListIn F m P l.toArray Q (l.drop n) a' w') (l.take n) a) : (Code.region id l.toArray true).wpIn F m P Q a w := by
  obtain ⟨hn, H⟩ := head_of_lex n hB h
  refine wpIn_region_any hm ?_
  have hA := anyIn_of_head (Q := Q) (g := l.length - n) (C := fun w' => ∃ k, w' = w.drewN k) hF hd hc (fun j o ho => hnd o (List.mem_of_getElem? (by simpa using ho))) (fun listed a' w' hw' hL => by
    have h1 := anyIn_of_seq (md := .any) (Q := Q) (l.drop n) n listed a' w' (fun j => by simp [List.getElem?_drop]) (by rw [List.length_drop]; exact hL.1) (hL.2 w' hw')
    rwa [List.length_drop] at h1) n _ a w.drew ⟨1, rfl⟩ H
  rw [show n + (l.length - n) = l.length by omega] at hA
  simpa using hA
/-- In a round of the wide fence. -/
theorem round_quiet_tail {id lp : Nat} {a : Act} {w : World} {l : List Oper} (n : Nat) (hm : P.follows .mixedOrders = true) (hB : Region.lexTailB .any l.toArray n = true) (hnd : ∀ (o : Oper), o ∈ l → ∀ c, o.op ≠ .defer c)
    (h : wpQuiet P l.toArray (fun w' => ∃ k, w' = w.drewN k) (fun a' => ∀ w', (∃ k, w' = w.drewN k) → wpListIn (Fence.wide.inRound lp) m P l.toArray Q (l.drop n) a' w') (l.take n) a) : (Code.region id l.toArray true).wpIn (Fence.wide.inRound lp) m P Q a w :=
  regionIn_quiet_tail n (fun _ => trivial) rfl (fun _ _ _ _ hC => CallsIn.inRound lp (callsIn_wide.2 hC)) hm hB hnd h
/-- In the wide fence, outside a round. -/
theorem wide_quiet_tail {id : Nat} {a : Act} {w : World} {l : List Oper} (n : Nat) (hm : P.follows .mixedOrders = true) (hB : Region.lexTailB .any l.toArray n = true) (hnd : ∀ (o : Oper), o ∈ l → ∀ c, o.op ≠ .defer c)
    (h : wpQuiet P l.toArray (fun w' => ∃ k, w' = w.drewN k) (fun a' => ∀ w', (∃ k, w' = w.drewN k) → wpListIn Fence.wide m P l.toArray Q (l.drop n) a' w') (l.take n) a) : (Code.region id l.toArray true).wpIn Fence.wide m P Q a w :=
  regionIn_quiet_tail n (fun _ => trivial) rfl (fun _ _ _ _ hC => callsIn_wide.2 hC) hm hB hnd h
end
end
section
set_option linter.unusedSimpArgs false
set_option linter.unusedVariables false
open Go.RowKit
theorem region_cls_tail {P : Program} {Q : Exit → Act → World → Prop} {I : Type} (W : I → World) {id : Nat} {a : Act} {w : World} {l : List Oper} (n : Nat) (hm : P.follows .mixedOrders = true) (hB : Region.lexTailB .any l.toArray n = true) (h0 : ∃ k, w.drew = W k)
    (h : wpQuiet P l.toArray (fun w' => ∃ k, w' = W k) (fun a' => ∀ w', (∃ k, w' = W k) → wpList P l.toArray Q (l.drop n) a' w') (l.take n) a) : (Code.region id l.toArray true).wp P Q a w := by
  obtain ⟨hn, H⟩ := head_of_lex n hB h
  refine wp_region_any hm ?_
  have hA := any_of_head (Q := Q) (g := l.length - n) (C := fun w' => ∃ k, w' = W k) (fun listed a' w' hw' hL => by
    have h1 := wpAny_of_seq (md := .any) (Q' := Q) (l.drop n) n listed a' w' (fun j => by simp [List.getElem?_drop]) (by rw [List.length_drop]; exact hL.1) (hL.2 w' hw')
    rwa [List.length_drop] at h1) n _ a w.drew h0 H
  rw [show n + (l.length - n) = l.length by omega] at hA
  simpa using hA
end
end Go.Proofs.Ytocfcfoocmkkdaa
