/-
  The wire package's builder: head, ids, words (written by mknwi15.py).
-/
import Derived.Test.YtbogjfmefkhglaaGreatP20
import Derived.BigQuiet
namespace Go.Proofs.YtbogjfmefkhglaaGreat
section
set_option linter.unusedSimpArgs false
set_option linter.unusedVariables false
open Go.RowKit Sha Nte
open Fld (Itm)
section
variable (ρ : Operand → Value) (dst : Option Tmp) (ty : TypeId) (pos : String) (after : Array Edge) (guard : Option (Nat × Bool)) (len : Nat) (parts : Array (Nat × Operand))
theorem execOp_buildIds15 : execOp ρ { dst := dst, op := .buildSlice 29 len parts, type := ty, pos := pos, after := after, guard := guard } = buildOp 29 len (parts.map fun (i, x) => (i, ρ x)) := by unfold buildOp; rfl
theorem execOp_buildWords15 : execOp ρ { dst := dst, op := .buildSlice 30 len parts, type := ty, pos := pos, after := after, guard := guard } = buildOp 30 len (parts.map fun (i, x) => (i, ρ x)) := by unfold buildOp; rfl
theorem execOp_makeWord15 : execOp ρ { dst := dst, op := .build 57 parts, type := ty, pos := pos, after := after, guard := guard } = makeOp 57 (parts.map fun (i, x) => (i, ρ x)) := by unfold makeOp; rfl
end
theorem id_all15 : (Tryz.prog.info? 27).map (fun i => (i.zero, i.size)) = some (some (.agg (Fld.zero32.map v8).toArray), 32) := by kernel_rfl
theorem id_all3 : (Tryz.prog.info? 27).map (fun i => (i.zero, i.size, i.bytes)) = some (some (.agg (Fld.zero32.map v8).toArray), 32, 32) := by kernel_rfl
theorem id_zsize15 : (Value.agg (Fld.zero32.map v8).toArray).cells.size = 32 := by kernel_rfl
theorem word_all15 : (Tryz.prog.info? 57).map (fun i => (i.zero, i.size)) = some (some (.agg (nmc ⟨0, 0, 0⟩).toArray), 3) := by kernel_rfl
theorem word_all3 : (Tryz.prog.info? 57).map (fun i => (i.zero, i.size, i.bytes)) = some (some (.agg (nmc ⟨0, 0, 0⟩).toArray), 3, 24) := by kernel_rfl
theorem word_zsize15 : (Value.agg (nmc ⟨0, 0, 0⟩).toArray).cells.size = 3 := by kernel_rfl
theorem build_id15 (w : World) {d : List Int} (hd : d.length = 32) : (buildOp 29 1 #[(0, .agg (d.map v8).toArray)]).run Tryz.prog w = .ok (.value (.slice (some ⟨w.heap.size, 0, none⟩) 1 1)) (w.alloc (.cells (d.map v8).toArray 27)) := by
  have := run_build_items (P := Tryz.prog) w 29 27 32 _ (by omega) Tryz.underlying29 id_all15 [d.map v8] (by intro c hc; simp at hc; subst hc; simp [hd]) (by simp)
  exact run_buildOp (by simpa using this)
theorem build_word15 (w : World) (m : Mb) : (buildOp 30 1 #[(0, .agg (nmc m).toArray)]).run Tryz.prog w = .ok (.value (.slice (some ⟨w.heap.size, 0, none⟩) 1 1)) (w.alloc (.cells (nmc m).toArray 57)) := by
  have := run_build_items (P := Tryz.prog) w 30 57 3 _ (by omega) Tryz.underlying30 word_all15 [nmc m] (by intro c hc; simp at hc; subst hc; rfl) (by simp)
  exact run_buildOp (by simpa using this)
theorem make_word15 (a b c : Int) (w : World) : (makeOp 57 #[(0, .int .i64 a), (1, .int .i64 b), (2, .int .i64 c)]).run Tryz.prog w = .ok (.value (.agg (nmc ⟨a, b, c⟩).toArray)) w := run_makeOp w (by unfold nmc; kernel_rfl)
/-- A row of the call's own, beside the builder. -/
theorem row_only {w w' : World} {gb B n size : Nat} {e : TypeId} {v : Value} {xs cs : List Value} (h : w.ownsRow B e size v n xs) (hk : Blk w gb cs 110) (he : e ≠ 110) (ho : Only gb w w') : w'.ownsRow B e size v n xs :=
  row_carry h fun k c fz _ hh => ho.keep hh (fun e' => by
    subst e'
    unfold Blk at hk
    rw [hh] at hk
    have := Option.some.inj hk
    injection this with _ h2
    exact he h2)
theorem Rd.grown {w0 w w' : World} {gb : Nat} {ys : List Hdr} {wr : Bool} {cs : List Value} (h : Rd w0 gb ys wr cs w) {B n size : Nat} {e : TypeId} {v : Value} {xs : List Value} (ho : w.ownsRow B e size v n xs) (he : e ≠ 110) (hg : w.grownBy w' v.ownBlock) (hB : w0.heap.size ≤ B) : Rd w0 gb ys wr cs w' := by
  obtain ⟨⟨p, n, c, h1, h2⟩, h3, h4⟩ := h
  refine ⟨⟨p, n, c, h1, ?_⟩, h3.grown hg h3.size (fun k e => Nat.le_trans hB (row_base ho k e)), h4⟩
  refine (hg.block gb h2.lt (fun e' => ?_)).trans h2
  obtain ⟨cc, fz, hh⟩ := row_kind ho gb e'.symm
  unfold Blk at h2
  rw [hh] at h2
  have := Option.some.inj h2
  injection this with _ h5
  exact he h5
theorem Rd.blk {w0 w : World} {gb : Nat} {ys : List Hdr} {wr : Bool} {cs : List Value} (h : Rd w0 gb ys wr cs w) : ∃ cs', Blk w gb cs' 110 := by
  obtain ⟨p, n, c, _, h2⟩ := h.ex
  exact ⟨_, h2⟩
theorem id_ne_b : (27 : TypeId) ≠ 110 := by decide
theorem word_ne_b : (57 : TypeId) ≠ 110 := by decide
theorem nc_I {x : Not} (hx : x.D.length = 32) (h : NHd) (l : List (List Int)) (q : Option Addr) (c : Nat) : (ncells x h).set 46 (.slice q l.length c) = ncells { x with I := l } { h with r := q, d := c } := by
  unfold ncells
  simp [List.set_append_right, hx]
theorem nc_W {x : Not} (hx : x.D.length = 32) (h : NHd) (l : List Mb) (q : Option Addr) (c : Nat) : (ncells x h).set 47 (.slice q l.length c) = ncells { x with W := l } { h with s := q, e := c } := by
  unfold ncells
  simp [List.set_append_right, hx]
section
attribute [local go_sem ↓] execOp_fld15
theorem not_head (wr : Bool) (f t : Int) : ((((wr || !decide (nodeOk f)) || !decide (nodeOk t)) || (f == t))) = (wr || !decide (nodeOk f ∧ nodeOk t ∧ f ≠ t)) := by
  cases wr
  · by_cases h1 : nodeOk f <;> by_cases h2 : nodeOk t <;> by_cases h3 : f = t <;> simp [h1, h2, h3]
  · rfl
set_option maxRecDepth 100000 in
set_option maxHeartbeats 2000000 in
theorem whead_any (w0 : World) (gb : Nat) (y1 y2 y3 : Hdr) (ys : List Hdr) (wr : Bool) (x : Not) (h : NHd) (w : World) (hr : Hid (Rd w0 gb (y1 :: y2 :: y3 :: ys) wr (ncells x h) w)) :
    Calls Tryz.prog 71 #[.pointer (some ⟨gb, 0, none⟩)] w (VDone15 w0 gb ys (wr || !decide (nodeOk y2.1.N ∧ nodeOk y3.1.N ∧ y2.1.N ≠ y3.1.N)) (ncells { x with K := y1.1.N, F := y2.1.N, T := y3.1.N } h) w) := by
  have HP := Lib.hid (not_head wr y2.1.N y3.1.N)
  obtain ⟨u, hu⟩ : ∃ u, u = (wr || !decide (nodeOk y2.1.N ∧ nodeOk y3.1.N ∧ y2.1.N ≠ y3.1.N)) := ⟨_, rfl⟩
  rw [← hu] at HP ⊢
  clear hu
  go_enter Tryz.func71, Tryz.ntmps71
  go_wp2_with fail
  refine wp_region_held_drew (S := (fun _ => True)) (by kernel_rfl) trivial (fun hHeld => ?_)
  have DR := Lib.hid (hr.out.on (Below.refl w.heap.size w).drew)
  have DO := Lib.hid ((Only.refl gb w).call (Below.refl w.heap.size w).drew)
  generalize w.drew = wd at *
  refine take_at 0 (by kernel_rfl) (v := ?v1) (by kernel_rfl) (by kernel_rfl) (by kernel_rfl) (fun _ _ _ h => h) (by rfl) ?y1 (by assumption) ?r1
  case y1 => (intro w hSw; (try dsimp only at hSw); simp only [List.getElem_cons_succ, List.getElem_cons_zero]; go_simp; (try with_reducible rfl))
  try simp only [List.getElem_cons_succ, List.getElem_cons_zero, Act.put, List.setIfInBounds_toArray, List.set_cons_zero, List.set_cons_succ]
  refine take_at 1 (by kernel_rfl) (v := ?v2) (by kernel_rfl) (by kernel_rfl) (by kernel_rfl) (fun _ _ _ h => h) (by rfl) ?y2 (by assumption) ?r2
  case y2 => (intro w hSw; (try dsimp only at hSw); simp only [List.getElem_cons_succ, List.getElem_cons_zero]; go_simp; (try with_reducible rfl))
  try simp only [List.getElem_cons_succ, List.getElem_cons_zero, Act.put, List.setIfInBounds_toArray, List.set_cons_zero, List.set_cons_succ]
  refine take_at 2 (by kernel_rfl) (v := ?v3) (by kernel_rfl) (by kernel_rfl) (by kernel_rfl) (fun _ _ _ h => h) (by rfl) ?y3 (by assumption) ?r3
  case y3 => (intro w hSw; (try dsimp only at hSw); simp only [List.getElem_cons_succ, List.getElem_cons_zero]; go_simp; (try with_reducible rfl))
  try simp only [List.getElem_cons_succ, List.getElem_cons_zero, Act.put, List.setIfInBounds_toArray, List.set_cons_zero, List.set_cons_succ]
  refine take_at 3 (by kernel_rfl) (v := ?v4) (by kernel_rfl) (by kernel_rfl) (by kernel_rfl) (fun _ _ _ h => h) (by rfl) ?y4 (by assumption) ?r4
  case y4 => (intro w hSw; (try dsimp only at hSw); simp only [List.getElem_cons_succ, List.getElem_cons_zero]; go_simp; (try with_reducible rfl))
  try simp only [List.getElem_cons_succ, List.getElem_cons_zero, Act.put, List.setIfInBounds_toArray, List.set_cons_zero, List.set_cons_succ]
  refine take_at 4 (by kernel_rfl) (v := ?v5) (by kernel_rfl) (by kernel_rfl) (by kernel_rfl) (fun _ _ _ h => h) (by rfl) ?y5 (by assumption) ?r5
  case y5 => (intro w hSw; (try dsimp only at hSw); simp only [List.getElem_cons_succ, List.getElem_cons_zero]; go_simp; (try with_reducible rfl))
  try simp only [List.getElem_cons_succ, List.getElem_cons_zero, Act.put, List.setIfInBounds_toArray, List.set_cons_zero, List.set_cons_succ]
  refine take_at 5 (by kernel_rfl) (v := ?v6) (by kernel_rfl) (by kernel_rfl) (by kernel_rfl) (fun _ _ _ h => h) (by rfl) ?y6 (by assumption) ?r6
  case y6 => (intro w hSw; (try dsimp only at hSw); simp only [List.getElem_cons_succ, List.getElem_cons_zero]; go_simp; (try with_reducible rfl))
  try simp only [List.getElem_cons_succ, List.getElem_cons_zero, Act.put, List.setIfInBounds_toArray, List.set_cons_zero, List.set_cons_succ]
  refine take_at 8 (by kernel_rfl) (v := ?v7) (by kernel_rfl) (by kernel_rfl) (by kernel_rfl) (fun _ _ _ h => h) (by rfl) ?y7 (by assumption) ?r7
  case y7 => (intro w hSw; (try dsimp only at hSw); simp only [List.getElem_cons_succ, List.getElem_cons_zero]; go_simp; (try with_reducible rfl))
  try simp only [List.getElem_cons_succ, List.getElem_cons_zero, Act.put, List.setIfInBounds_toArray, List.set_cons_zero, List.set_cons_succ]
  refine take_at 9 (by kernel_rfl) (v := ?v8) (by kernel_rfl) (by kernel_rfl) (by kernel_rfl) (fun _ _ _ h => h) (by rfl) ?y8 (by assumption) ?r8
  case y8 => (intro w hSw; (try dsimp only at hSw); simp only [List.getElem_cons_succ, List.getElem_cons_zero]; go_simp; (try with_reducible rfl))
  try simp only [List.getElem_cons_succ, List.getElem_cons_zero, Act.put, List.setIfInBounds_toArray, List.set_cons_zero, List.set_cons_succ]
  refine take_at 10 (by kernel_rfl) (v := ?v9) (by kernel_rfl) (by kernel_rfl) (by kernel_rfl) (fun _ _ _ h => h) (by rfl) ?y9 (by assumption) ?r9
  case y9 => (intro w hSw; (try dsimp only at hSw); simp only [List.getElem_cons_succ, List.getElem_cons_zero]; go_simp; (try with_reducible rfl))
  try simp only [List.getElem_cons_succ, List.getElem_cons_zero, Act.put, List.setIfInBounds_toArray, List.set_cons_zero, List.set_cons_succ]
  refine take_at 12 (by kernel_rfl) (v := ?v10) (by kernel_rfl) (by kernel_rfl) (by kernel_rfl) (fun _ _ _ h => h) (by rfl) ?y10 (by assumption) ?r10
  case y10 => (intro w hSw; (try dsimp only at hSw); simp only [List.getElem_cons_succ, List.getElem_cons_zero]; go_simp; (try with_reducible rfl))
  try simp only [List.getElem_cons_succ, List.getElem_cons_zero, Act.put, List.setIfInBounds_toArray, List.set_cons_zero, List.set_cons_succ]
  refine take_at 13 (by kernel_rfl) (v := ?v11) (by kernel_rfl) (by kernel_rfl) (by kernel_rfl) (fun _ _ _ h => h) (by rfl) ?y11 (by assumption) ?r11
  case y11 => (intro w hSw; (try dsimp only at hSw); simp only [List.getElem_cons_succ, List.getElem_cons_zero]; go_simp; (try with_reducible rfl))
  try simp only [List.getElem_cons_succ, List.getElem_cons_zero, Act.put, List.setIfInBounds_toArray, List.set_cons_zero, List.set_cons_succ]
  refine take_at 14 (by kernel_rfl) (v := ?v12) (by kernel_rfl) (by kernel_rfl) (by kernel_rfl) (fun _ _ _ h => h) (by rfl) ?y12 (by assumption) ?r12
  case y12 => (intro w hSw; (try dsimp only at hSw); simp only [List.getElem_cons_succ, List.getElem_cons_zero]; go_simp; (try with_reducible rfl))
  try simp only [List.getElem_cons_succ, List.getElem_cons_zero, Act.put, List.setIfInBounds_toArray, List.set_cons_zero, List.set_cons_succ]
  refine ready_at 6 (by kernel_rfl) (by kernel_rfl) (fun K hK => ?_)
  simp only [List.getElem_cons_succ, List.getElem_cons_zero]
  go_simp
  go_at_call 99
  refine (wnext_any w0 gb y1 (y2 :: y3 :: ys) wr (ncells x h) _ DR.out).mono ?_
  rintro e wa ⟨rfl, ra, oa⟩
  have RA := Lib.hid ra
  have OA := Lib.hid (DO.out.trans oa)
  clear ra oa
  (try go_wp2_with fail)
  refine hK.out _ _ trivial (fun hHeld => ?_)
  clear hK K
  try simp only [List.getElem_cons_succ, List.getElem_cons_zero, Act.put, List.setIfInBounds_toArray, List.set_cons_zero, List.set_cons_succ]
  have hf := fun w => fld_N y1 w
  refine take_at 7 (by kernel_rfl) (v := ?v13) (by kernel_rfl) (by kernel_rfl) (by kernel_rfl) (fun _ _ _ h => h) (by rfl) ?y13 (by assumption) ?r13
  case y13 => (intro w hSw; (try dsimp only at hSw); simp only [List.getElem_cons_succ, List.getElem_cons_zero]; go_simp; (try with_reducible rfl))
  try simp only [List.getElem_cons_succ, List.getElem_cons_zero, Act.put, List.setIfInBounds_toArray, List.set_cons_zero, List.set_cons_succ]
  refine ready_at 11 (by kernel_rfl) (by kernel_rfl) (fun K hK => ?_)
  simp only [List.getElem_cons_succ, List.getElem_cons_zero]
  go_simp
  go_at_call 100
  refine (wnode_any w0 gb y2 (y3 :: ys) wr (ncells x h) _ RA.out).mono ?_
  rintro e wb ⟨rfl, rb, ob⟩
  have RB := Lib.hid rb
  have OB := Lib.hid (OA.out.trans ob)
  clear rb ob
  (try go_wp2_with fail)
  refine hK.out _ _ trivial (fun hHeld => ?_)
  clear hK K
  try simp only [List.getElem_cons_succ, List.getElem_cons_zero, Act.put, List.setIfInBounds_toArray, List.set_cons_zero, List.set_cons_succ]
  refine ready_at 15 (by kernel_rfl) (by kernel_rfl) (fun K hK => ?_)
  simp only [List.getElem_cons_succ, List.getElem_cons_zero]
  go_simp
  go_at_call 100
  refine (wnode_any w0 gb y3 ys _ (ncells x h) _ RB.out).mono ?_
  rintro e wc ⟨rfl, rc, oc⟩
  have RC := Lib.hid rc
  have OC := Lib.hid (OB.out.trans oc)
  clear rc oc
  (try go_wp2_with fail)
  refine hK.out _ _ trivial (fun hHeld => ?_)
  clear hK K
  try simp only [List.getElem_cons_succ, List.getElem_cons_zero, Act.put, List.setIfInBounds_toArray, List.set_cons_zero, List.set_cons_succ]
  refine take_at 16 (by kernel_rfl) (v := ?v14) (by kernel_rfl) (by kernel_rfl) (by kernel_rfl) (fun _ _ _ h => h) (by rfl) ?y14 (by assumption) ?r14
  case y14 => (intro w hSw; (try dsimp only at hSw); simp only [List.getElem_cons_succ, List.getElem_cons_zero]; go_simp; (try with_reducible rfl))
  try simp only [List.getElem_cons_succ, List.getElem_cons_zero, Act.put, List.setIfInBounds_toArray, List.set_cons_zero, List.set_cons_succ]
  refine take_at 17 (by kernel_rfl) (v := ?v15) (by kernel_rfl) (by kernel_rfl) (by kernel_rfl) (fun _ _ _ h => h) (by rfl) ?y15 (by assumption) ?r15
  case y15 => (intro w hSw; (try dsimp only at hSw); simp only [List.getElem_cons_succ, List.getElem_cons_zero]; go_simp; (try with_reducible rfl))
  try simp only [List.getElem_cons_succ, List.getElem_cons_zero, Act.put, List.setIfInBounds_toArray, List.set_cons_zero, List.set_cons_succ]
  refine take_at 18 (by kernel_rfl) (v := ?v16) (by kernel_rfl) (by kernel_rfl) (by kernel_rfl) (fun _ _ _ h => h) (by rfl) ?y16 (by assumption) ?r16
  case y16 => (intro w hSw; (try dsimp only at hSw); simp only [List.getElem_cons_succ, List.getElem_cons_zero]; go_simp; (try with_reducible rfl))
  try simp only [List.getElem_cons_succ, List.getElem_cons_zero, Act.put, List.setIfInBounds_toArray, List.set_cons_zero, List.set_cons_succ]
  obtain ⟨c1, f1⟩ := RC.out.cell 0 rfl
  have R1 := Lib.hid (RC.out.setCell 0 (nic y1.1.N))
  rw [nc_K] at R1
  have O1 := Lib.hid (OC.out.set 2 (nic y1.1.N))
  refine ready_at 19 (by kernel_rfl) (by kernel_rfl) (fun K hK => ?_)
  simp only [List.getElem_cons_succ, List.getElem_cons_zero]
  go_simp
  refine hK.out _ _ trivial (fun hHeld => ?_)
  clear hK K
  try simp only [List.getElem_cons_succ, List.getElem_cons_zero, Act.put, List.setIfInBounds_toArray, List.set_cons_zero, List.set_cons_succ]
  refine take_at 20 (by kernel_rfl) (v := ?v17) (by kernel_rfl) (by kernel_rfl) (by kernel_rfl) (fun _ _ _ h => h) (by rfl) ?y17 (by assumption) ?r17
  case y17 => (intro w hSw; (try dsimp only at hSw); simp only [List.getElem_cons_succ, List.getElem_cons_zero]; go_simp; (try with_reducible rfl))
  try simp only [List.getElem_cons_succ, List.getElem_cons_zero, Act.put, List.setIfInBounds_toArray, List.set_cons_zero, List.set_cons_succ]
  refine take_at 21 (by kernel_rfl) (v := ?v18) (by kernel_rfl) (by kernel_rfl) (by kernel_rfl) (fun _ _ _ h => h) (by rfl) ?y18 (by assumption) ?r18
  case y18 => (intro w hSw; (try dsimp only at hSw); simp only [List.getElem_cons_succ, List.getElem_cons_zero]; go_simp; (try with_reducible rfl))
  try simp only [List.getElem_cons_succ, List.getElem_cons_zero, Act.put, List.setIfInBounds_toArray, List.set_cons_zero, List.set_cons_succ]
  refine take_at 22 (by kernel_rfl) (v := ?v19) (by kernel_rfl) (by kernel_rfl) (by kernel_rfl) (fun _ _ _ h => h) (by rfl) ?y19 (by assumption) ?r19
  case y19 => (intro w hSw; (try dsimp only at hSw); simp only [List.getElem_cons_succ, List.getElem_cons_zero]; go_simp; (try with_reducible rfl))
  try simp only [List.getElem_cons_succ, List.getElem_cons_zero, Act.put, List.setIfInBounds_toArray, List.set_cons_zero, List.set_cons_succ]
  obtain ⟨c2, f2⟩ := R1.out.cell 1 rfl
  have R2 := Lib.hid (R1.out.setCell 1 (nic y2.1.N))
  rw [nc_F] at R2
  have O2 := Lib.hid (O1.out.set 3 (nic y2.1.N))
  refine ready_at 23 (by kernel_rfl) (by kernel_rfl) (fun K hK => ?_)
  simp only [List.getElem_cons_succ, List.getElem_cons_zero]
  go_simp
  refine hK.out _ _ trivial (fun hHeld => ?_)
  clear hK K
  try simp only [List.getElem_cons_succ, List.getElem_cons_zero, Act.put, List.setIfInBounds_toArray, List.set_cons_zero, List.set_cons_succ]
  refine take_at 24 (by kernel_rfl) (v := ?v20) (by kernel_rfl) (by kernel_rfl) (by kernel_rfl) (fun _ _ _ h => h) (by rfl) ?y20 (by assumption) ?r20
  case y20 => (intro w hSw; (try dsimp only at hSw); simp only [List.getElem_cons_succ, List.getElem_cons_zero]; go_simp; (try with_reducible rfl))
  try simp only [List.getElem_cons_succ, List.getElem_cons_zero, Act.put, List.setIfInBounds_toArray, List.set_cons_zero, List.set_cons_succ]
  refine take_at 25 (by kernel_rfl) (v := ?v21) (by kernel_rfl) (by kernel_rfl) (by kernel_rfl) (fun _ _ _ h => h) (by rfl) ?y21 (by assumption) ?r21
  case y21 => (intro w hSw; (try dsimp only at hSw); simp only [List.getElem_cons_succ, List.getElem_cons_zero]; go_simp; (try with_reducible rfl))
  try simp only [List.getElem_cons_succ, List.getElem_cons_zero, Act.put, List.setIfInBounds_toArray, List.set_cons_zero, List.set_cons_succ]
  refine take_at 26 (by kernel_rfl) (v := ?v22) (by kernel_rfl) (by kernel_rfl) (by kernel_rfl) (fun _ _ _ h => h) (by rfl) ?y22 (by assumption) ?r22
  case y22 => (intro w hSw; (try dsimp only at hSw); simp only [List.getElem_cons_succ, List.getElem_cons_zero]; go_simp; (try with_reducible rfl))
  try simp only [List.getElem_cons_succ, List.getElem_cons_zero, Act.put, List.setIfInBounds_toArray, List.set_cons_zero, List.set_cons_succ]
  obtain ⟨c3, f3⟩ := R2.out.cell 2 rfl
  have R3 := Lib.hid (R2.out.setCell 2 (nic y3.1.N))
  rw [nc_T] at R3
  have O3 := Lib.hid (O2.out.set 4 (nic y3.1.N))
  refine ready_at 27 (by kernel_rfl) (by kernel_rfl) (fun K hK => ?_)
  simp only [List.getElem_cons_succ, List.getElem_cons_zero]
  go_simp
  refine hK.out _ _ trivial (fun hHeld => ?_)
  clear hK K
  try simp only [List.getElem_cons_succ, List.getElem_cons_zero, Act.put, List.setIfInBounds_toArray, List.set_cons_zero, List.set_cons_succ]
  refine wpAnyH_done (by kernel_rfl) ?_ _
  go_wp2_with fail
  have R4 := Lib.hid (show Rd w0 gb ys ((wr || !decide (nodeOk y2.1.N)) || !decide (nodeOk y3.1.N)) (ncells { x with K := y1.1.N, F := y2.1.N, T := y3.1.N } h) _ from R3.out)
  generalize ((wc.setCell ⟨gb, 2, none⟩ (nic y1.1.N)).setCell ⟨gb, 3, none⟩ (nic y2.1.N)).setCell ⟨gb, 4, none⟩ (nic y3.1.N) = w4 at *
  clear R1 R2 R3 O1 O2 RA RB RC OA OB OC DR DO c1 c2 c3 f1 f2 f3 hr
  obtain ⟨q, hq⟩ : ∃ q, q = ((wr || !decide (nodeOk y2.1.N)) || !decide (nodeOk y3.1.N)) := ⟨_, rfl⟩
  rw [← hq] at HP R4
  clear hq
  obtain ⟨c1, f1⟩ := R4.out.wrong
  obtain ⟨c3, _⟩ := R4.out.cell 1 rfl
  obtain ⟨c4, _⟩ := R4.out.cell 2 rfl
  obtain ⟨I, W, hC⟩ := cls_of w4
  have hne : Nonempty I := hC.ne
  have d1 := hC.cell c1
  have d3 := hC.cell c3
  have d4 := hC.cell c4
  have HC := Lib.hid hC
  clear hC c1 c3 c4 f1
  cases q with
  | true =>
    have hu : u = true := HP.out.symm
    subst hu
    clear HP
    refine region_cls_tail W 19 (by kernel_rfl) (by kernel_rfl) HC.out.one ?_
    simp only [List.take_succ_cons, List.take_zero, List.drop_succ_cons, List.drop_zero]
    repeat go_big_quiet_step (fail)
    refine wpQuiet_nil ?_
    rintro _ ⟨m, rfl⟩
    have R5 := Lib.hid (R4.out.on (HC.out.back m))
    have O5 := Lib.hid (O3.out.call (HC.out.back m))
    obtain ⟨c1, f1⟩ := R5.out.wrong
    clear d1 d3 d4 HC
    generalize W m = w5 at *
    go_wp2_with fail
    go_end0
    exact ⟨rfl, R5.out.setWrong true, O5.out.set 1 (.bool true)⟩
  | false =>
    have HP2 := Lib.hid (show (y2.1.N == y3.1.N) = u from HP.out)
    clear HP
    have t1 := HP2.out
    refine region_cls_tail W 19 (by kernel_rfl) (by kernel_rfl) HC.out.one ?_
    simp only [List.take_succ_cons, List.take_zero, List.drop_succ_cons, List.drop_zero]
    repeat go_big_quiet_step (fail)
    refine wpQuiet_nil ?_
    rintro _ ⟨m, rfl⟩
    have R5 := Lib.hid (R4.out.on (HC.out.back m))
    have O5 := Lib.hid (O3.out.call (HC.out.back m))
    obtain ⟨c1, f1⟩ := R5.out.wrong
    clear d1 d3 d4 HC
    generalize W m = w5 at *
    go_wp2_with fail
    go_end0
    exact ⟨rfl, R5.out.setWrong u, O5.out.set 1 (.bool u)⟩
end
def w3H (t : Hdr × Hdr × Hdr) : List Hdr := [t.1, t.2.1, t.2.2]
theorem may_next (wk : Bool) (l : List Mb) (m : Mb) : (wk || !decide (∀ x ∈ l ++ [m], x.May)) = ((((((wk || !decide (∀ x ∈ l, x.May)) || !decide (nodeOk m.I)) || decide (m.S < 1)) || decide (4 < m.S)) || decide (m.N < 0)) || decide (2147483647 < m.N)) := by
  have e : decide (∀ x ∈ l ++ [m], x.May) = (decide (∀ x ∈ l, x.May) && decide m.May) := by
    rw [Bool.eq_iff_iff]
    simp only [List.mem_append, List.mem_singleton, Bool.and_eq_true, decide_eq_true_eq]
    exact ⟨fun h => ⟨fun x hx => h x (Or.inl hx), h m (Or.inr rfl)⟩, fun h x hx => by rcases hx with hx | rfl; exact h.1 x hx; exact h.2⟩
  have f : (!decide m.May) = ((((!decide (nodeOk m.I) || decide (m.S < 1)) || decide (4 < m.S)) || decide (m.N < 0)) || decide (2147483647 < m.N)) := by
    by_cases h : m.May
    · have h1 : nodeOk m.I := by unfold Mb.May at h; unfold nodeOk; omega
      have h2 : ¬ m.S < 1 := by unfold Mb.May at h; omega
      have h3 : ¬ 4 < m.S := by unfold Mb.May at h; omega
      have h4 : ¬ m.N < 0 := by unfold Mb.May at h; omega
      have h5 : ¬ 2147483647 < m.N := by unfold Mb.May at h; omega
      simp [h, h1, h2, h3, h4, h5]
    · have h1 : ¬ nodeOk m.I ∨ m.S < 1 ∨ 4 < m.S ∨ m.N < 0 ∨ 2147483647 < m.N := by unfold Mb.May at h; unfold nodeOk; omega
      rcases h1 with h1 | h1 | h1 | h1 | h1 <;> simp [h, h1]
  rw [e, Bool.not_and, f]
  simp only [Bool.or_assoc]
section
attribute [local go_sem ↓] execOp_fld15 execOp_buildIds15 execOp_buildWords15 execOp_makeWord15
set_option maxRecDepth 100000 in
set_option maxHeartbeats 4000000 in
theorem wids_any (w0 : World) (gb : Nat) (y : Hdr) (zs : List Hdr) (ys : List Hdr) (wr : Bool) (x : Not) (h : NHd) (w : World) (hx : x.D.length = 32) (hn : y.1.N = zs.length) (hz : zs.length ≤ 4000) (hx0 : x.I = []) (hh : h.r = none ∧ h.d = 0) (hr : Rd w0 gb (y :: (zs ++ ys)) wr (ncells x h) w) :
    Calls Tryz.prog 109 #[.pointer (some ⟨gb, 0, none⟩)] w fun e w' => e = .returned (.tuple #[]) ∧ ∃ q c, Rd w0 gb ys (wr || !decide (zs.length ≤ 64)) (ncells { x with I := zs.map (fun y : Hdr => y.1.D) } { h with r := q, d := c }) w' ∧
      w'.ownsRow w0.heap.size 27 32 (.slice q zs.length c) zs.length ((zs.map (fun y : Hdr => y.1.D)).flatMap (fun d => d.map v8)) ∧ Only gb w w' := by
  have NX := Lib.hid (wnumber_any 0 64 w0 gb y (zs ++ ys) wr (ncells x h) w hr)
  have hwk : ((wr || decide (y.1.N < 0)) || decide (64 < y.1.N)) = (wr || !decide (zs.length ≤ 64)) := by
    rw [hn, Bool.or_assoc]
    congr 1
    by_cases e : zs.length ≤ 64
    · have e1 : ¬ ((zs.length : Int) < 0) := by omega
      have e2 : ¬ (64 < (zs.length : Int)) := by omega
      simp [e, e1, e2]
    · have e2 : (64 < (zs.length : Int)) := by omega
      simp [e, e2]
  rw [hwk, hn] at NX
  obtain ⟨wk, hwk2⟩ : ∃ b, b = (wr || !decide (zs.length ≤ 64)) := ⟨_, rfl⟩
  rw [← hwk2] at NX ⊢
  obtain ⟨n, hn2⟩ : ∃ n, n = zs.length := ⟨_, rfl⟩
  have HN := Lib.hid hn2
  have hz2 : n ≤ 4000 := by omega
  rw [← hn2] at NX
  have HBS := Lib.hid hr.below.size
  have HX0 := Lib.hid hx0
  have HHH := Lib.hid hh
  clear hr hn hwk hwk2 hn2 hz hx0 hh
  go_enter Tryz.func109, Tryz.ntmps109
  go_wp2_with fail
  refine NX.out.mono ?_
  rintro e w1 ⟨rfl, hr1, ho1⟩
  have R1 := Lib.hid hr1
  have O1 := Lib.hid ho1
  clear hr1 ho1 NX
  go_wp2_with fail
  go_loopw [6] (fun i wv => ∃ (k : Nat) (q : Option Addr) (c : Nat), i = .int .i64 k ∧ k ≤ n ∧ Hid (Rd w0 gb (zs.drop k ++ ys) wk (ncells { x with I := (zs.take k).map (fun y : Hdr => y.1.D) } { h with r := q, d := c }) wv) ∧ Hid (wv.ownsRow w.heap.size 27 32 (.slice q k c) k (((zs.take k).map (fun y : Hdr => y.1.D)).flatMap (fun d => d.map v8))) ∧ Hid (Only gb w wv)) (fun i _ => n - (intOf i).toNat)
  case atStart => exact ⟨0, h.r, h.d, rfl, by omega, Lib.hid (show Rd w0 gb (zs ++ ys) wk (ncells { x with I := [] } h) w1 from by rw [show ({ x with I := [] } : Not) = x from by rw [← HX0.out]]; exact R1.out), Lib.hid (by rw [HHH.out.1, HHH.out.2]; exact World.ownsRow_nil _ _ _ _), O1⟩
  case round =>
    obtain ⟨k, q, c, rfl, hk, HR, HO, HY⟩ := hrel
    clear R1 O1
    by_cases hlt : k < n
    · have hkz : k < zs.length := by rw [← HN.out]; exact hlt
      have hkl : ((zs.take k).map (fun y : Hdr => y.1.D)).length = k := by rw [List.length_map, List.length_take]; omega
      have hdrop : zs.drop k ++ ys = zs[k] :: (zs.drop (k + 1) ++ ys) := by
        rw [List.drop_eq_getElem_cons hkz]; rfl
      have HTK := Lib.hid (show (zs.take (k + 1)).map (fun y : Hdr => y.1.D) = (zs.take k).map (fun y : Hdr => y.1.D) ++ [(fun y : Hdr => y.1.D) zs[k]] from by
        rw [List.take_succ_eq_append_getElem hkz, List.map_append]; rfl)
      have DR := Lib.hid (by have := HR.out.on (Below.refl wr.heap.size wr).drew; rw [hdrop] at this; exact this)
      have DO := Lib.hid (HY.out.call (Below.refl wr.heap.size wr).drew)
      have DW := Lib.hid (nrow_below HO.out (Below.refl wr.heap.size wr).drew)
      have DSZ := Lib.hid (show w.heap.size ≤ wr.drew.heap.size from HY.out.b0.size)
      have hcell : wr.drew.cell? ⟨gb, 48, none⟩ = some (.slice q k c) := by
        have := (DR.out.cell 46 (ncells_I (x := { x with I := (zs.take k).map (fun y : Hdr => y.1.D) }) hx _)).1
        rw [hkl] at this; exact this
      have HKL := Lib.hid hkl
      have HY0 := Lib.hid HY.out.b0.size

      have yok : (zs[k]).1.ok := by
        obtain ⟨⟨_, _, _, hL, _⟩, _, _⟩ := DR.out
        exact (hL.good _ (List.mem_cons_self ..)).ok
      have hf := fun w => fld_D (zs[k]) yok w
      have hdl := yok.len
      go_wp2_with fail
      refine wp_region_Z 16 (S := (fun w' => w'.cell? ⟨gb, 48, none⟩ = some (.slice q k c) ∧ True)) (by kernel_rfl) ⟨hcell, trivial⟩ (fun hHeld hInv => ?_)
      generalize wr.drew = wd at *
      clear hcell HR HO HY
      refine z_take 0 (by kernel_rfl) (v := ?v1) (by kernel_rfl) (by kernel_rfl) (by kernel_rfl) (by kernel_rfl) (fun _ _ _ h => h) (by rfl) ?y1 (by assumption) (by assumption) ?r1
      case y1 => (intro w hSw; (try dsimp only at hSw); (obtain ⟨hSa, hSb⟩ := hSw); simp only [List.getElem_cons_succ, List.getElem_cons_zero]; go_simp; (try with_reducible rfl))
      clear hInv; intro hInv
      try simp only [List.getElem_cons_succ, List.getElem_cons_zero, Act.put, List.setIfInBounds_toArray, List.set_cons_zero, List.set_cons_succ]
      refine z_take 1 (by kernel_rfl) (v := ?v2) (by kernel_rfl) (by kernel_rfl) (by kernel_rfl) (by kernel_rfl) (fun _ _ _ h => h) (by rfl) ?y2 (by assumption) (by assumption) ?r2
      case y2 => (intro w hSw; (try dsimp only at hSw); (obtain ⟨hSa, hSb⟩ := hSw); simp only [List.getElem_cons_succ, List.getElem_cons_zero]; go_simp; (try with_reducible rfl))
      clear hInv; intro hInv
      try simp only [List.getElem_cons_succ, List.getElem_cons_zero, Act.put, List.setIfInBounds_toArray, List.set_cons_zero, List.set_cons_succ]
      refine z_take 2 (by kernel_rfl) (v := ?v3) (by kernel_rfl) (by kernel_rfl) (by kernel_rfl) (by kernel_rfl) (fun _ _ _ h => h) (by rfl) ?y3 (by assumption) (by assumption) ?r3
      case y3 => (intro w hSw; (try dsimp only at hSw); (obtain ⟨hSa, hSb⟩ := hSw); simp only [List.getElem_cons_succ, List.getElem_cons_zero]; go_simp; (try with_reducible rfl))
      clear hInv; intro hInv
      try simp only [List.getElem_cons_succ, List.getElem_cons_zero, Act.put, List.setIfInBounds_toArray, List.set_cons_zero, List.set_cons_succ]
      refine z_take 3 (by kernel_rfl) (v := ?v4) (by kernel_rfl) (by kernel_rfl) (by kernel_rfl) (by kernel_rfl) (fun _ _ _ h => h) (by rfl) ?y4 (by assumption) (by assumption) ?r4
      case y4 => (intro w hSw; (try dsimp only at hSw); (obtain ⟨hSa, hSb⟩ := hSw); simp only [List.getElem_cons_succ, List.getElem_cons_zero]; go_simp; (try with_reducible rfl))
      clear hInv; intro hInv
      try simp only [List.getElem_cons_succ, List.getElem_cons_zero, Act.put, List.setIfInBounds_toArray, List.set_cons_zero, List.set_cons_succ]
      refine z_take 4 (by kernel_rfl) (v := ?v5) (by kernel_rfl) (by kernel_rfl) (by kernel_rfl) (by kernel_rfl) (fun _ _ _ h => h) (by rfl) ?y5 (by assumption) (by assumption) ?r5
      case y5 => (intro w hSw; (try dsimp only at hSw); (obtain ⟨hSa, hSb⟩ := hSw); simp only [List.getElem_cons_succ, List.getElem_cons_zero]; go_simp; (try with_reducible rfl))
      clear hInv; intro hInv
      try simp only [List.getElem_cons_succ, List.getElem_cons_zero, Act.put, List.setIfInBounds_toArray, List.set_cons_zero, List.set_cons_succ]
      refine z_take 5 (by kernel_rfl) (v := ?v6) (by kernel_rfl) (by kernel_rfl) (by kernel_rfl) (by kernel_rfl) (fun _ _ _ h => h) (by rfl) ?y6 (by assumption) (by assumption) ?r6
      case y6 => (intro w hSw; (try dsimp only at hSw); (obtain ⟨hSa, hSb⟩ := hSw); simp only [List.getElem_cons_succ, List.getElem_cons_zero]; go_simp; (try with_reducible rfl))
      clear hInv; intro hInv
      try simp only [List.getElem_cons_succ, List.getElem_cons_zero, Act.put, List.setIfInBounds_toArray, List.set_cons_zero, List.set_cons_succ]
      refine z_take 6 (by kernel_rfl) (v := ?v7) (by kernel_rfl) (by kernel_rfl) (by kernel_rfl) (by kernel_rfl) (fun _ _ _ h => h) (by rfl) ?y7 (by assumption) (by assumption) ?r7
      case y7 => (intro w hSw; (try dsimp only at hSw); (obtain ⟨hSa, hSb⟩ := hSw); simp only [List.getElem_cons_succ, List.getElem_cons_zero]; go_simp; (try with_reducible rfl))
      clear hInv; intro hInv
      try simp only [List.getElem_cons_succ, List.getElem_cons_zero, Act.put, List.setIfInBounds_toArray, List.set_cons_zero, List.set_cons_succ]
      refine z_take 7 (by kernel_rfl) (v := ?v8) (by kernel_rfl) (by kernel_rfl) (by kernel_rfl) (by kernel_rfl) (fun _ _ _ h => h) (by rfl) ?y8 (by assumption) (by assumption) ?r8
      case y8 => (intro w hSw; (try dsimp only at hSw); (obtain ⟨hSa, hSb⟩ := hSw); simp only [List.getElem_cons_succ, List.getElem_cons_zero]; go_simp; (try with_reducible rfl))
      clear hInv; intro hInv
      try simp only [List.getElem_cons_succ, List.getElem_cons_zero, Act.put, List.setIfInBounds_toArray, List.set_cons_zero, List.set_cons_succ]
      refine z_take 8 (by kernel_rfl) (v := ?v9) (by kernel_rfl) (by kernel_rfl) (by kernel_rfl) (by kernel_rfl) (fun _ _ _ h => h) (by rfl) ?y9 (by assumption) (by assumption) ?r9
      case y9 => (intro w hSw; (try dsimp only at hSw); (obtain ⟨hSa, hSb⟩ := hSw); simp only [List.getElem_cons_succ, List.getElem_cons_zero]; go_simp; (try with_reducible rfl))
      clear hInv; intro hInv
      try simp only [List.getElem_cons_succ, List.getElem_cons_zero, Act.put, List.setIfInBounds_toArray, List.set_cons_zero, List.set_cons_succ]
      refine z_ready 9 (by kernel_rfl) (by kernel_rfl) (by kernel_rfl) (by assumption) (fun K hK => ?_)
      simp only [List.getElem_cons_succ, List.getElem_cons_zero]
      go_simp
      go_at_call 99
      refine (wnext_any w0 gb zs[k] (zs.drop (k + 1) ++ ys) _ _ _ DR.out).mono ?_
      rintro e wa ⟨rfl, r_, o_⟩
      have RA := Lib.hid r_
      have OA := Lib.hid (DO.out.trans o_)
      obtain ⟨cs_, bk_⟩ := DR.out.blk
      have WA := Lib.hid (row_only DW.out bk_ id_ne_b o_)
      clear r_ o_ bk_
      (try go_wp2_with fail)
      refine hK.out _ _ (by have := (RA.out.cell 46 (ncells_I (x := { x with I := (zs.take k).map (fun y : Hdr => y.1.D) }) hx _)).1; rw [HKL.out] at this; exact ⟨this, trivial⟩) (fun hHeld hInv => ?_)
      clear hK K
      try simp only [List.getElem_cons_succ, List.getElem_cons_zero, Act.put, List.setIfInBounds_toArray, List.set_cons_zero, List.set_cons_succ]
      refine z_take 10 (by kernel_rfl) (v := ?v10) (by kernel_rfl) (by kernel_rfl) (by kernel_rfl) (by kernel_rfl) (fun _ _ _ h => h) (by rfl) ?y10 (by assumption) (by assumption) ?r10
      case y10 => (intro w hSw; (try dsimp only at hSw); (obtain ⟨hSa, hSb⟩ := hSw); simp only [List.getElem_cons_succ, List.getElem_cons_zero]; go_simp; (try with_reducible rfl))
      clear hInv; intro hInv
      try simp only [List.getElem_cons_succ, List.getElem_cons_zero, Act.put, List.setIfInBounds_toArray, List.set_cons_zero, List.set_cons_succ]
      have bi := build_id15 wa hdl
      have RX := Lib.hid (RA.out.on ((Below.refl wa.heap.size wa).alloc (Nat.le_refl _) (.cells ((zs[k]).1.D.map v8).toArray 27)))
      have OX := Lib.hid (OA.out.alloc (.cells ((zs[k]).1.D.map v8).toArray 27))
      have WX := Lib.hid (WA.out.alloc (.cells ((zs[k]).1.D.map v8).toArray 27))
      have HA := Lib.hid (nat_cells wa ((zs[k]).1.D.map v8) 27 (0, 0))
      have SX := Lib.hid (show w.heap.size ≤ (wa.alloc (.cells ((zs[k]).1.D.map v8).toArray 27)).heap.size from Nat.le_trans (Nat.le_refl _) OX.out.b0.size)
      refine z_ready 11 (by kernel_rfl) (by kernel_rfl) (by kernel_rfl) (by assumption) (fun K hK => ?_)
      simp only [List.getElem_cons_succ, List.getElem_cons_zero]
      go_simp
      refine hK.out _ _ (by have := (RX.out.cell 46 (ncells_I (x := { x with I := (zs.take k).map (fun y : Hdr => y.1.D) }) hx _)).1; rw [HKL.out] at this; exact ⟨this, trivial⟩) (fun hHeld hInv => ?_)
      clear hK K
      try simp only [List.getElem_cons_succ, List.getElem_cons_zero, Act.put, List.setIfInBounds_toArray, List.set_cons_zero, List.set_cons_succ]
      refine z_ready 12 (by kernel_rfl) (by kernel_rfl) (by kernel_rfl) (by assumption) (fun K hK => ?_)
      simp only [List.getElem_cons_succ, List.getElem_cons_zero]
      rw [if_pos (by rfl)]
      refine wp_app_s (.tmp 13) (.tmp 19) 29 rfl w.heap.size 27 (z := .agg (Fld.zero32.map v8).toArray) (size := 32) (by decide) Tryz.underlying29 id_all3 id_zsize15 (.slice q k c) k _ (by simp [Act.eval, Act.put]) WX.out (some ⟨wa.heap.size, 0, none⟩) 1 1 ((zs[k]).1.D.map v8) (by simp [Act.eval, Act.put]) HA.out (by simp [hdl]) (fun h => by cases h) (Nat.le_refl _) nv8_cells (by omega) (by unfold maxLen; omega) SX.out ?_
      intro v8' w8 hown8 hgr8 hat8
      have R8 := Lib.hid (RX.out.grown WX.out id_ne_b hgr8 HBS.out)
      have O8 := Lib.hid (OX.out.next ((Below.refl _ _).grown hgr8 SX.out (fun k e => row_base WX.out k e)))
      obtain ⟨q8, c8, rfl, _, _, _, _, _⟩ := nown_at hown8
      have W8 := Lib.hid hown8
      clear hown8 hgr8 hat8
      refine hK.out _ _ (by have := (R8.out.cell 46 (ncells_I (x := { x with I := (zs.take k).map (fun y : Hdr => y.1.D) }) hx _)).1; rw [HKL.out] at this; exact ⟨this, trivial⟩) (fun hHeld hInv => ?_)
      clear hK K
      try simp only [List.getElem_cons_succ, List.getElem_cons_zero, Act.put, List.setIfInBounds_toArray, List.set_cons_zero, List.set_cons_succ]
      refine z_take 13 (by kernel_rfl) (v := ?v11) (by kernel_rfl) (by kernel_rfl) (by kernel_rfl) (by kernel_rfl) (fun _ _ _ h => h) (by rfl) ?y11 (by assumption) (by assumption) ?r11
      case y11 => (intro w hSw; (try dsimp only at hSw); (obtain ⟨hSa, hSb⟩ := hSw); simp only [List.getElem_cons_succ, List.getElem_cons_zero]; go_simp; (try with_reducible rfl))
      clear hInv; intro hInv
      try simp only [List.getElem_cons_succ, List.getElem_cons_zero, Act.put, List.setIfInBounds_toArray, List.set_cons_zero, List.set_cons_succ]
      refine z_take 14 (by kernel_rfl) (v := ?v12) (by kernel_rfl) (by kernel_rfl) (by kernel_rfl) (by kernel_rfl) (fun _ _ _ h => h) (by rfl) ?y12 (by assumption) (by assumption) ?r12
      case y12 => (intro w hSw; (try dsimp only at hSw); (obtain ⟨hSa, hSb⟩ := hSw); simp only [List.getElem_cons_succ, List.getElem_cons_zero]; go_simp; (try with_reducible rfl))
      clear hInv; intro hInv
      try simp only [List.getElem_cons_succ, List.getElem_cons_zero, Act.put, List.setIfInBounds_toArray, List.set_cons_zero, List.set_cons_succ]
      refine z_take 15 (by kernel_rfl) (v := ?v13) (by kernel_rfl) (by kernel_rfl) (by kernel_rfl) (by kernel_rfl) (fun _ _ _ h => h) (by rfl) ?y13 (by assumption) (by assumption) ?r13
      case y13 => (intro w hSw; (try dsimp only at hSw); (obtain ⟨hSa, hSb⟩ := hSw); simp only [List.getElem_cons_succ, List.getElem_cons_zero]; go_simp; (try with_reducible rfl))
      clear hInv; intro hInv
      try simp only [List.getElem_cons_succ, List.getElem_cons_zero, Act.put, List.setIfInBounds_toArray, List.set_cons_zero, List.set_cons_succ]
      have hcf := R8.out.cell 46 (ncells_I (x := { x with I := (zs.take k).map (fun y : Hdr => y.1.D) }) hx _)
      obtain ⟨cX, fX⟩ := hcf
      have RS := Lib.hid (R8.out.setCell 46 (.slice q8 ((zs.take (k + 1)).map (fun y : Hdr => y.1.D)).length c8))
      rw [nc_I (x := { x with I := (zs.take k).map (fun y : Hdr => y.1.D) }) hx] at RS
      have hl1 : ((zs.take (k + 1)).map (fun y : Hdr => y.1.D)).length = k + 1 := by rw [List.length_map, List.length_take]; omega
      rw [hl1] at RS
      have OS := Lib.hid (O8.out.set 48 (.slice q8 (k + 1) c8))
      have WS := Lib.hid (by obtain ⟨cs_, bk_⟩ := R8.out.blk; exact row_only W8.out bk_ id_ne_b ((Only.refl gb w8).set 48 (.slice q8 (k + 1) c8)))
      clear RX OX WX HA SX R8 O8 W8 hl1
      refine z_last 16 (by kernel_rfl) rfl (by kernel_rfl) (by kernel_rfl) (fun K hK => ?_)
      simp only [List.getElem_cons_succ, List.getElem_cons_zero]
      go_simp
      refine hK.out _ _ ?_
      clear hK K
      go_wp2_with fail
      go_roundw
      case rel => exact ⟨k + 1, q8, c8, by go_num, by omega, Lib.hid (by exact RS.out), Lib.hid (by rw [HTK.out, List.flatMap_append, List.flatMap_singleton]; exact WS.out), OS⟩
      case measure => simp [intOf]; omega
    · obtain rfl : k = n := by omega
      have HTL := Lib.hid (show zs.take k = zs from List.take_of_length_le (by rw [← HN.out]; exact Nat.le_refl _))
      go_wp2_with fail
      go_end0
      refine ⟨rfl, q, c, ?_, ?_, HY.out⟩
      · have := HR.out
        rw [HTL.out, List.drop_of_length_le (by rw [← HN.out]; exact Nat.le_refl _)] at this
        exact this
      · have := HO.out
        rw [HTL.out, HN.out] at this
        exact own_weak this HBS.out
set_option maxRecDepth 100000 in
set_option maxHeartbeats 4000000 in
theorem wwords_any (w0 : World) (gb : Nat) (y : Hdr) (zs : List (Hdr × Hdr × Hdr)) (ys : List Hdr) (wr : Bool) (x : Not) (h : NHd) (w : World) (hx : x.D.length = 32) (hn : y.1.N = zs.length) (hz : zs.length ≤ 4000) (hx0 : x.W = []) (hh : h.s = none ∧ h.e = 0) (hr : Rd w0 gb (y :: (zs.flatMap w3H ++ ys)) wr (ncells x h) w) :
    Calls Tryz.prog 110 #[.pointer (some ⟨gb, 0, none⟩)] w fun e w' => e = .returned (.tuple #[]) ∧ ∃ q c, Rd w0 gb ys ((wr || !decide (zs.length ≤ 64)) || !decide (∀ m ∈ zs.map (fun t : Hdr × Hdr × Hdr => (⟨t.1.1.N, t.2.1.1.N, t.2.2.1.N⟩ : Mb)), m.May)) (ncells { x with W := zs.map (fun t : Hdr × Hdr × Hdr => (⟨t.1.1.N, t.2.1.1.N, t.2.2.1.N⟩ : Mb)) } { h with s := q, e := c }) w' ∧
      w'.ownsRow w0.heap.size 57 3 (.slice q zs.length c) zs.length ((zs.map (fun t : Hdr × Hdr × Hdr => (⟨t.1.1.N, t.2.1.1.N, t.2.2.1.N⟩ : Mb))).flatMap (nmc)) ∧ Only gb w w' := by
  have NX := Lib.hid (wnumber_any 0 64 w0 gb y (zs.flatMap w3H ++ ys) wr (ncells x h) w hr)
  have hwk : ((wr || decide (y.1.N < 0)) || decide (64 < y.1.N)) = (wr || !decide (zs.length ≤ 64)) := by
    rw [hn, Bool.or_assoc]
    congr 1
    by_cases e : zs.length ≤ 64
    · have e1 : ¬ ((zs.length : Int) < 0) := by omega
      have e2 : ¬ (64 < (zs.length : Int)) := by omega
      simp [e, e1, e2]
    · have e2 : (64 < (zs.length : Int)) := by omega
      simp [e, e2]
  rw [hwk, hn] at NX
  obtain ⟨wk, hwk2⟩ : ∃ b, b = (wr || !decide (zs.length ≤ 64)) := ⟨_, rfl⟩
  rw [← hwk2] at NX ⊢
  obtain ⟨n, hn2⟩ : ∃ n, n = zs.length := ⟨_, rfl⟩
  have HN := Lib.hid hn2
  have hz2 : n ≤ 4000 := by omega
  rw [← hn2] at NX
  have HBS := Lib.hid hr.below.size
  have HX0 := Lib.hid hx0
  have HHH := Lib.hid hh
  clear hr hn hwk hwk2 hn2 hz hx0 hh
  go_enter Tryz.func110, Tryz.ntmps110
  go_wp2_with fail
  refine NX.out.mono ?_
  rintro e w1 ⟨rfl, hr1, ho1⟩
  have R1 := Lib.hid hr1
  have O1 := Lib.hid ho1
  clear hr1 ho1 NX
  go_wp2_with fail
  go_loopw [6] (fun i wv => ∃ (k : Nat) (q : Option Addr) (c : Nat), i = .int .i64 k ∧ k ≤ n ∧ Hid (Rd w0 gb ((zs.drop k).flatMap w3H ++ ys) (wk || !decide (∀ m ∈ (zs.take k).map (fun t : Hdr × Hdr × Hdr => (⟨t.1.1.N, t.2.1.1.N, t.2.2.1.N⟩ : Mb)), m.May)) (ncells { x with W := (zs.take k).map (fun t : Hdr × Hdr × Hdr => (⟨t.1.1.N, t.2.1.1.N, t.2.2.1.N⟩ : Mb)) } { h with s := q, e := c }) wv) ∧ Hid (wv.ownsRow w.heap.size 57 3 (.slice q k c) k (((zs.take k).map (fun t : Hdr × Hdr × Hdr => (⟨t.1.1.N, t.2.1.1.N, t.2.2.1.N⟩ : Mb))).flatMap (nmc))) ∧ Hid (Only gb w wv)) (fun i _ => n - (intOf i).toNat)
  case atStart => exact ⟨0, h.s, h.e, rfl, by omega, Lib.hid (show Rd w0 gb (zs.flatMap w3H ++ ys) (wk || !decide (∀ m ∈ ([] : List Mb), m.May)) (ncells { x with W := [] } h) w1 from by rw [show ({ x with W := [] } : Not) = x from by rw [← HX0.out]]; simpa using R1.out), Lib.hid (by rw [HHH.out.1, HHH.out.2]; exact World.ownsRow_nil _ _ _ _), O1⟩
  case round =>
    obtain ⟨k, q, c, rfl, hk, HR, HO, HY⟩ := hrel
    clear R1 O1
    by_cases hlt : k < n
    · have hkz : k < zs.length := by rw [← HN.out]; exact hlt
      have hkl : ((zs.take k).map (fun t : Hdr × Hdr × Hdr => (⟨t.1.1.N, t.2.1.1.N, t.2.2.1.N⟩ : Mb))).length = k := by rw [List.length_map, List.length_take]; omega
      have hdrop : (zs.drop k).flatMap w3H ++ ys = zs[k].1 :: zs[k].2.1 :: zs[k].2.2 :: ((zs.drop (k + 1)).flatMap w3H ++ ys) := by
        rw [List.drop_eq_getElem_cons hkz]; rw [List.flatMap_cons, List.append_assoc]; rfl
      have HTK := Lib.hid (show (zs.take (k + 1)).map (fun t : Hdr × Hdr × Hdr => (⟨t.1.1.N, t.2.1.1.N, t.2.2.1.N⟩ : Mb)) = (zs.take k).map (fun t : Hdr × Hdr × Hdr => (⟨t.1.1.N, t.2.1.1.N, t.2.2.1.N⟩ : Mb)) ++ [(fun t : Hdr × Hdr × Hdr => (⟨t.1.1.N, t.2.1.1.N, t.2.2.1.N⟩ : Mb)) zs[k]] from by
        rw [List.take_succ_eq_append_getElem hkz, List.map_append]; rfl)
      have DR := Lib.hid (by have := HR.out.on (Below.refl wr.heap.size wr).drew; rw [hdrop] at this; exact this)
      have DO := Lib.hid (HY.out.call (Below.refl wr.heap.size wr).drew)
      have DW := Lib.hid (nrow_below HO.out (Below.refl wr.heap.size wr).drew)
      have DSZ := Lib.hid (show w.heap.size ≤ wr.drew.heap.size from HY.out.b0.size)
      have hcell : wr.drew.cell? ⟨gb, 49, none⟩ = some (.slice q k c) := by
        have := (DR.out.cell 47 (ncells_W (x := { x with W := (zs.take k).map (fun t : Hdr × Hdr × Hdr => (⟨t.1.1.N, t.2.1.1.N, t.2.2.1.N⟩ : Mb)) }) hx _)).1
        rw [hkl] at this; exact this
      have HKL := Lib.hid hkl
      have HY0 := Lib.hid HY.out.b0.size

      go_wp2_with fail
      refine wp_region_Z 24 (S := (fun w' => w'.cell? ⟨gb, 49, none⟩ = some (.slice q k c) ∧ True)) (by kernel_rfl) ⟨hcell, trivial⟩ (fun hHeld hInv => ?_)
      generalize wr.drew = wd at *
      clear hcell HR HO HY
      refine z_take 0 (by kernel_rfl) (v := ?v14) (by kernel_rfl) (by kernel_rfl) (by kernel_rfl) (by kernel_rfl) (fun _ _ _ h => h) (by rfl) ?y14 (by assumption) (by assumption) ?r14
      case y14 => (intro w hSw; (try dsimp only at hSw); (obtain ⟨hSa, hSb⟩ := hSw); simp only [List.getElem_cons_succ, List.getElem_cons_zero]; go_simp; (try with_reducible rfl))
      clear hInv; intro hInv
      try simp only [List.getElem_cons_succ, List.getElem_cons_zero, Act.put, List.setIfInBounds_toArray, List.set_cons_zero, List.set_cons_succ]
      refine z_take 1 (by kernel_rfl) (v := ?v15) (by kernel_rfl) (by kernel_rfl) (by kernel_rfl) (by kernel_rfl) (fun _ _ _ h => h) (by rfl) ?y15 (by assumption) (by assumption) ?r15
      case y15 => (intro w hSw; (try dsimp only at hSw); (obtain ⟨hSa, hSb⟩ := hSw); simp only [List.getElem_cons_succ, List.getElem_cons_zero]; go_simp; (try with_reducible rfl))
      clear hInv; intro hInv
      try simp only [List.getElem_cons_succ, List.getElem_cons_zero, Act.put, List.setIfInBounds_toArray, List.set_cons_zero, List.set_cons_succ]
      refine z_take 2 (by kernel_rfl) (v := ?v16) (by kernel_rfl) (by kernel_rfl) (by kernel_rfl) (by kernel_rfl) (fun _ _ _ h => h) (by rfl) ?y16 (by assumption) (by assumption) ?r16
      case y16 => (intro w hSw; (try dsimp only at hSw); (obtain ⟨hSa, hSb⟩ := hSw); simp only [List.getElem_cons_succ, List.getElem_cons_zero]; go_simp; (try with_reducible rfl))
      clear hInv; intro hInv
      try simp only [List.getElem_cons_succ, List.getElem_cons_zero, Act.put, List.setIfInBounds_toArray, List.set_cons_zero, List.set_cons_succ]
      refine z_take 3 (by kernel_rfl) (v := ?v17) (by kernel_rfl) (by kernel_rfl) (by kernel_rfl) (by kernel_rfl) (fun _ _ _ h => h) (by rfl) ?y17 (by assumption) (by assumption) ?r17
      case y17 => (intro w hSw; (try dsimp only at hSw); (obtain ⟨hSa, hSb⟩ := hSw); simp only [List.getElem_cons_succ, List.getElem_cons_zero]; go_simp; (try with_reducible rfl))
      clear hInv; intro hInv
      try simp only [List.getElem_cons_succ, List.getElem_cons_zero, Act.put, List.setIfInBounds_toArray, List.set_cons_zero, List.set_cons_succ]
      refine z_take 4 (by kernel_rfl) (v := ?v18) (by kernel_rfl) (by kernel_rfl) (by kernel_rfl) (by kernel_rfl) (fun _ _ _ h => h) (by rfl) ?y18 (by assumption) (by assumption) ?r18
      case y18 => (intro w hSw; (try dsimp only at hSw); (obtain ⟨hSa, hSb⟩ := hSw); simp only [List.getElem_cons_succ, List.getElem_cons_zero]; go_simp; (try with_reducible rfl))
      clear hInv; intro hInv
      try simp only [List.getElem_cons_succ, List.getElem_cons_zero, Act.put, List.setIfInBounds_toArray, List.set_cons_zero, List.set_cons_succ]
      refine z_take 5 (by kernel_rfl) (v := ?v19) (by kernel_rfl) (by kernel_rfl) (by kernel_rfl) (by kernel_rfl) (fun _ _ _ h => h) (by rfl) ?y19 (by assumption) (by assumption) ?r19
      case y19 => (intro w hSw; (try dsimp only at hSw); (obtain ⟨hSa, hSb⟩ := hSw); simp only [List.getElem_cons_succ, List.getElem_cons_zero]; go_simp; (try with_reducible rfl))
      clear hInv; intro hInv
      try simp only [List.getElem_cons_succ, List.getElem_cons_zero, Act.put, List.setIfInBounds_toArray, List.set_cons_zero, List.set_cons_succ]
      refine z_take 6 (by kernel_rfl) (v := ?v20) (by kernel_rfl) (by kernel_rfl) (by kernel_rfl) (by kernel_rfl) (fun _ _ _ h => h) (by rfl) ?y20 (by assumption) (by assumption) ?r20
      case y20 => (intro w hSw; (try dsimp only at hSw); (obtain ⟨hSa, hSb⟩ := hSw); simp only [List.getElem_cons_succ, List.getElem_cons_zero]; go_simp; (try with_reducible rfl))
      clear hInv; intro hInv
      try simp only [List.getElem_cons_succ, List.getElem_cons_zero, Act.put, List.setIfInBounds_toArray, List.set_cons_zero, List.set_cons_succ]
      refine z_take 7 (by kernel_rfl) (v := ?v21) (by kernel_rfl) (by kernel_rfl) (by kernel_rfl) (by kernel_rfl) (fun _ _ _ h => h) (by rfl) ?y21 (by assumption) (by assumption) ?r21
      case y21 => (intro w hSw; (try dsimp only at hSw); (obtain ⟨hSa, hSb⟩ := hSw); simp only [List.getElem_cons_succ, List.getElem_cons_zero]; go_simp; (try with_reducible rfl))
      clear hInv; intro hInv
      try simp only [List.getElem_cons_succ, List.getElem_cons_zero, Act.put, List.setIfInBounds_toArray, List.set_cons_zero, List.set_cons_succ]
      refine z_take 8 (by kernel_rfl) (v := ?v22) (by kernel_rfl) (by kernel_rfl) (by kernel_rfl) (by kernel_rfl) (fun _ _ _ h => h) (by rfl) ?y22 (by assumption) (by assumption) ?r22
      case y22 => (intro w hSw; (try dsimp only at hSw); (obtain ⟨hSa, hSb⟩ := hSw); simp only [List.getElem_cons_succ, List.getElem_cons_zero]; go_simp; (try with_reducible rfl))
      clear hInv; intro hInv
      try simp only [List.getElem_cons_succ, List.getElem_cons_zero, Act.put, List.setIfInBounds_toArray, List.set_cons_zero, List.set_cons_succ]
      refine z_take 10 (by kernel_rfl) (v := ?v23) (by kernel_rfl) (by kernel_rfl) (by kernel_rfl) (by kernel_rfl) (fun _ _ _ h => h) (by rfl) ?y23 (by assumption) (by assumption) ?r23
      case y23 => (intro w hSw; (try dsimp only at hSw); (obtain ⟨hSa, hSb⟩ := hSw); simp only [List.getElem_cons_succ, List.getElem_cons_zero]; go_simp; (try with_reducible rfl))
      clear hInv; intro hInv
      try simp only [List.getElem_cons_succ, List.getElem_cons_zero, Act.put, List.setIfInBounds_toArray, List.set_cons_zero, List.set_cons_succ]
      refine z_take 11 (by kernel_rfl) (v := ?v24) (by kernel_rfl) (by kernel_rfl) (by kernel_rfl) (by kernel_rfl) (fun _ _ _ h => h) (by rfl) ?y24 (by assumption) (by assumption) ?r24
      case y24 => (intro w hSw; (try dsimp only at hSw); (obtain ⟨hSa, hSb⟩ := hSw); simp only [List.getElem_cons_succ, List.getElem_cons_zero]; go_simp; (try with_reducible rfl))
      clear hInv; intro hInv
      try simp only [List.getElem_cons_succ, List.getElem_cons_zero, Act.put, List.setIfInBounds_toArray, List.set_cons_zero, List.set_cons_succ]
      refine z_take 12 (by kernel_rfl) (v := ?v25) (by kernel_rfl) (by kernel_rfl) (by kernel_rfl) (by kernel_rfl) (fun _ _ _ h => h) (by rfl) ?y25 (by assumption) (by assumption) ?r25
      case y25 => (intro w hSw; (try dsimp only at hSw); (obtain ⟨hSa, hSb⟩ := hSw); simp only [List.getElem_cons_succ, List.getElem_cons_zero]; go_simp; (try with_reducible rfl))
      clear hInv; intro hInv
      try simp only [List.getElem_cons_succ, List.getElem_cons_zero, Act.put, List.setIfInBounds_toArray, List.set_cons_zero, List.set_cons_succ]
      refine z_take 14 (by kernel_rfl) (v := ?v26) (by kernel_rfl) (by kernel_rfl) (by kernel_rfl) (by kernel_rfl) (fun _ _ _ h => h) (by rfl) ?y26 (by assumption) (by assumption) ?r26
      case y26 => (intro w hSw; (try dsimp only at hSw); (obtain ⟨hSa, hSb⟩ := hSw); simp only [List.getElem_cons_succ, List.getElem_cons_zero]; go_simp; (try with_reducible rfl))
      clear hInv; intro hInv
      try simp only [List.getElem_cons_succ, List.getElem_cons_zero, Act.put, List.setIfInBounds_toArray, List.set_cons_zero, List.set_cons_succ]
      refine z_take 15 (by kernel_rfl) (v := ?v27) (by kernel_rfl) (by kernel_rfl) (by kernel_rfl) (by kernel_rfl) (fun _ _ _ h => h) (by rfl) ?y27 (by assumption) (by assumption) ?r27
      case y27 => (intro w hSw; (try dsimp only at hSw); (obtain ⟨hSa, hSb⟩ := hSw); simp only [List.getElem_cons_succ, List.getElem_cons_zero]; go_simp; (try with_reducible rfl))
      clear hInv; intro hInv
      try simp only [List.getElem_cons_succ, List.getElem_cons_zero, Act.put, List.setIfInBounds_toArray, List.set_cons_zero, List.set_cons_succ]
      refine z_take 16 (by kernel_rfl) (v := ?v28) (by kernel_rfl) (by kernel_rfl) (by kernel_rfl) (by kernel_rfl) (fun _ _ _ h => h) (by rfl) ?y28 (by assumption) (by assumption) ?r28
      case y28 => (intro w hSw; (try dsimp only at hSw); (obtain ⟨hSa, hSb⟩ := hSw); simp only [List.getElem_cons_succ, List.getElem_cons_zero]; go_simp; (try with_reducible rfl))
      clear hInv; intro hInv
      try simp only [List.getElem_cons_succ, List.getElem_cons_zero, Act.put, List.setIfInBounds_toArray, List.set_cons_zero, List.set_cons_succ]
      refine z_ready 9 (by kernel_rfl) (by kernel_rfl) (by kernel_rfl) (by assumption) (fun K hK => ?_)
      simp only [List.getElem_cons_succ, List.getElem_cons_zero]
      go_simp
      go_at_call 100
      refine (wnode_any w0 gb zs[k].1 (zs[k].2.1 :: zs[k].2.2 :: ((zs.drop (k + 1)).flatMap w3H ++ ys)) _ _ _ DR.out).mono ?_
      rintro e wa ⟨rfl, r_, o_⟩
      have RA := Lib.hid r_
      have OA := Lib.hid (DO.out.trans o_)
      obtain ⟨cs_, bk_⟩ := DR.out.blk
      have WA := Lib.hid (row_only DW.out bk_ word_ne_b o_)
      clear r_ o_ bk_
      (try go_wp2_with fail)
      refine hK.out _ _ (by have := (RA.out.cell 47 (ncells_W (x := { x with W := (zs.take k).map (fun t : Hdr × Hdr × Hdr => (⟨t.1.1.N, t.2.1.1.N, t.2.2.1.N⟩ : Mb)) }) hx _)).1; rw [HKL.out] at this; exact ⟨this, trivial⟩) (fun hHeld hInv => ?_)
      clear hK K
      try simp only [List.getElem_cons_succ, List.getElem_cons_zero, Act.put, List.setIfInBounds_toArray, List.set_cons_zero, List.set_cons_succ]
      refine z_ready 13 (by kernel_rfl) (by kernel_rfl) (by kernel_rfl) (by assumption) (fun K hK => ?_)
      simp only [List.getElem_cons_succ, List.getElem_cons_zero]
      go_simp
      go_at_call 124
      refine (wnumber_any 1 4 w0 gb zs[k].2.1 (zs[k].2.2 :: ((zs.drop (k + 1)).flatMap w3H ++ ys)) _ _ _ RA.out).mono ?_
      rintro e wb ⟨rfl, r_, o_⟩
      have RB := Lib.hid r_
      have OB := Lib.hid (OA.out.trans o_)
      obtain ⟨cs_, bk_⟩ := RA.out.blk
      have WB := Lib.hid (row_only WA.out bk_ word_ne_b o_)
      clear r_ o_ bk_
      (try go_wp2_with fail)
      refine hK.out _ _ (by have := (RB.out.cell 47 (ncells_W (x := { x with W := (zs.take k).map (fun t : Hdr × Hdr × Hdr => (⟨t.1.1.N, t.2.1.1.N, t.2.2.1.N⟩ : Mb)) }) hx _)).1; rw [HKL.out] at this; exact ⟨this, trivial⟩) (fun hHeld hInv => ?_)
      clear hK K
      try simp only [List.getElem_cons_succ, List.getElem_cons_zero, Act.put, List.setIfInBounds_toArray, List.set_cons_zero, List.set_cons_succ]
      refine z_ready 17 (by kernel_rfl) (by kernel_rfl) (by kernel_rfl) (by assumption) (fun K hK => ?_)
      simp only [List.getElem_cons_succ, List.getElem_cons_zero]
      go_simp
      go_at_call 124
      refine (wnumber_any 0 2147483647 w0 gb zs[k].2.2 ((zs.drop (k + 1)).flatMap w3H ++ ys) _ _ _ RB.out).mono ?_
      rintro e wc ⟨rfl, r_, o_⟩
      have RC := Lib.hid r_
      have OC := Lib.hid (OB.out.trans o_)
      obtain ⟨cs_, bk_⟩ := RB.out.blk
      have WC := Lib.hid (row_only WB.out bk_ word_ne_b o_)
      clear r_ o_ bk_
      (try go_wp2_with fail)
      refine hK.out _ _ (by have := (RC.out.cell 47 (ncells_W (x := { x with W := (zs.take k).map (fun t : Hdr × Hdr × Hdr => (⟨t.1.1.N, t.2.1.1.N, t.2.2.1.N⟩ : Mb)) }) hx _)).1; rw [HKL.out] at this; exact ⟨this, trivial⟩) (fun hHeld hInv => ?_)
      clear hK K
      try simp only [List.getElem_cons_succ, List.getElem_cons_zero, Act.put, List.setIfInBounds_toArray, List.set_cons_zero, List.set_cons_succ]
      have mk := fun w => make_word15 (zs[k]).1.1.N (zs[k]).2.1.1.N (zs[k]).2.2.1.N w
      refine z_take 18 (by kernel_rfl) (v := ?v29) (by kernel_rfl) (by kernel_rfl) (by kernel_rfl) (by kernel_rfl) (fun _ _ _ h => h) (by rfl) ?y29 (by assumption) (by assumption) ?r29
      case y29 => (intro w hSw; (try dsimp only at hSw); (obtain ⟨hSa, hSb⟩ := hSw); simp only [List.getElem_cons_succ, List.getElem_cons_zero]; go_simp; (try with_reducible rfl))
      clear hInv; intro hInv
      try simp only [List.getElem_cons_succ, List.getElem_cons_zero, Act.put, List.setIfInBounds_toArray, List.set_cons_zero, List.set_cons_succ]
      have bi := build_word15 wc ⟨(zs[k]).1.1.N, (zs[k]).2.1.1.N, (zs[k]).2.2.1.N⟩
      have RX := Lib.hid (RC.out.on ((Below.refl wc.heap.size wc).alloc (Nat.le_refl _) (.cells (nmc ⟨(zs[k]).1.1.N, (zs[k]).2.1.1.N, (zs[k]).2.2.1.N⟩).toArray 57)))
      have OX := Lib.hid (OC.out.alloc (.cells (nmc ⟨(zs[k]).1.1.N, (zs[k]).2.1.1.N, (zs[k]).2.2.1.N⟩).toArray 57))
      have WX := Lib.hid (WC.out.alloc (.cells (nmc ⟨(zs[k]).1.1.N, (zs[k]).2.1.1.N, (zs[k]).2.2.1.N⟩).toArray 57))
      have HA := Lib.hid (nat_cells wc (nmc ⟨(zs[k]).1.1.N, (zs[k]).2.1.1.N, (zs[k]).2.2.1.N⟩) 57 (0, 0))
      have SX := Lib.hid (show w.heap.size ≤ (wc.alloc (.cells (nmc ⟨(zs[k]).1.1.N, (zs[k]).2.1.1.N, (zs[k]).2.2.1.N⟩).toArray 57)).heap.size from Nat.le_trans (Nat.le_refl _) OX.out.b0.size)
      refine z_ready 19 (by kernel_rfl) (by kernel_rfl) (by kernel_rfl) (by assumption) (fun K hK => ?_)
      simp only [List.getElem_cons_succ, List.getElem_cons_zero]
      go_simp
      refine hK.out _ _ (by have := (RX.out.cell 47 (ncells_W (x := { x with W := (zs.take k).map (fun t : Hdr × Hdr × Hdr => (⟨t.1.1.N, t.2.1.1.N, t.2.2.1.N⟩ : Mb)) }) hx _)).1; rw [HKL.out] at this; exact ⟨this, trivial⟩) (fun hHeld hInv => ?_)
      clear hK K
      try simp only [List.getElem_cons_succ, List.getElem_cons_zero, Act.put, List.setIfInBounds_toArray, List.set_cons_zero, List.set_cons_succ]
      refine z_ready 20 (by kernel_rfl) (by kernel_rfl) (by kernel_rfl) (by assumption) (fun K hK => ?_)
      simp only [List.getElem_cons_succ, List.getElem_cons_zero]
      rw [if_pos (by rfl)]
      refine wp_app_s (.tmp 13) (.tmp 27) 30 rfl w.heap.size 57 (z := .agg (nmc ⟨0, 0, 0⟩).toArray) (size := 3) (by decide) Tryz.underlying30 word_all3 word_zsize15 (.slice q k c) k _ (by simp [Act.eval, Act.put]) WX.out (some ⟨wc.heap.size, 0, none⟩) 1 1 (nmc ⟨(zs[k]).1.1.N, (zs[k]).2.1.1.N, (zs[k]).2.2.1.N⟩) (by simp [Act.eval, Act.put]) HA.out rfl (fun h => by cases h) (Nat.le_refl _) (by intro u hu; unfold nmc at hu; simp at hu; rcases hu with rfl | rfl | rfl <;> rfl) (by omega) (by unfold maxLen; omega) SX.out ?_
      intro v8' w8 hown8 hgr8 hat8
      have R8 := Lib.hid (RX.out.grown WX.out word_ne_b hgr8 HBS.out)
      have O8 := Lib.hid (OX.out.next ((Below.refl _ _).grown hgr8 SX.out (fun k e => row_base WX.out k e)))
      obtain ⟨q8, c8, rfl, _, _, _, _, _⟩ := nown_at hown8
      have W8 := Lib.hid hown8
      clear hown8 hgr8 hat8
      refine hK.out _ _ (by have := (R8.out.cell 47 (ncells_W (x := { x with W := (zs.take k).map (fun t : Hdr × Hdr × Hdr => (⟨t.1.1.N, t.2.1.1.N, t.2.2.1.N⟩ : Mb)) }) hx _)).1; rw [HKL.out] at this; exact ⟨this, trivial⟩) (fun hHeld hInv => ?_)
      clear hK K
      try simp only [List.getElem_cons_succ, List.getElem_cons_zero, Act.put, List.setIfInBounds_toArray, List.set_cons_zero, List.set_cons_succ]
      refine z_take 21 (by kernel_rfl) (v := ?v30) (by kernel_rfl) (by kernel_rfl) (by kernel_rfl) (by kernel_rfl) (fun _ _ _ h => h) (by rfl) ?y30 (by assumption) (by assumption) ?r30
      case y30 => (intro w hSw; (try dsimp only at hSw); (obtain ⟨hSa, hSb⟩ := hSw); simp only [List.getElem_cons_succ, List.getElem_cons_zero]; go_simp; (try with_reducible rfl))
      clear hInv; intro hInv
      try simp only [List.getElem_cons_succ, List.getElem_cons_zero, Act.put, List.setIfInBounds_toArray, List.set_cons_zero, List.set_cons_succ]
      refine z_take 22 (by kernel_rfl) (v := ?v31) (by kernel_rfl) (by kernel_rfl) (by kernel_rfl) (by kernel_rfl) (fun _ _ _ h => h) (by rfl) ?y31 (by assumption) (by assumption) ?r31
      case y31 => (intro w hSw; (try dsimp only at hSw); (obtain ⟨hSa, hSb⟩ := hSw); simp only [List.getElem_cons_succ, List.getElem_cons_zero]; go_simp; (try with_reducible rfl))
      clear hInv; intro hInv
      try simp only [List.getElem_cons_succ, List.getElem_cons_zero, Act.put, List.setIfInBounds_toArray, List.set_cons_zero, List.set_cons_succ]
      refine z_take 23 (by kernel_rfl) (v := ?v32) (by kernel_rfl) (by kernel_rfl) (by kernel_rfl) (by kernel_rfl) (fun _ _ _ h => h) (by rfl) ?y32 (by assumption) (by assumption) ?r32
      case y32 => (intro w hSw; (try dsimp only at hSw); (obtain ⟨hSa, hSb⟩ := hSw); simp only [List.getElem_cons_succ, List.getElem_cons_zero]; go_simp; (try with_reducible rfl))
      clear hInv; intro hInv
      try simp only [List.getElem_cons_succ, List.getElem_cons_zero, Act.put, List.setIfInBounds_toArray, List.set_cons_zero, List.set_cons_succ]
      have hcf := R8.out.cell 47 (ncells_W (x := { x with W := (zs.take k).map (fun t : Hdr × Hdr × Hdr => (⟨t.1.1.N, t.2.1.1.N, t.2.2.1.N⟩ : Mb)) }) hx _)
      obtain ⟨cX, fX⟩ := hcf
      have RS := Lib.hid (R8.out.setCell 47 (.slice q8 ((zs.take (k + 1)).map (fun t : Hdr × Hdr × Hdr => (⟨t.1.1.N, t.2.1.1.N, t.2.2.1.N⟩ : Mb))).length c8))
      rw [nc_W (x := { x with W := (zs.take k).map (fun t : Hdr × Hdr × Hdr => (⟨t.1.1.N, t.2.1.1.N, t.2.2.1.N⟩ : Mb)) }) hx] at RS
      have hl1 : ((zs.take (k + 1)).map (fun t : Hdr × Hdr × Hdr => (⟨t.1.1.N, t.2.1.1.N, t.2.2.1.N⟩ : Mb))).length = k + 1 := by rw [List.length_map, List.length_take]; omega
      rw [hl1] at RS
      have OS := Lib.hid (O8.out.set 49 (.slice q8 (k + 1) c8))
      have WS := Lib.hid (by obtain ⟨cs_, bk_⟩ := R8.out.blk; exact row_only W8.out bk_ word_ne_b ((Only.refl gb w8).set 49 (.slice q8 (k + 1) c8)))
      clear RX OX WX HA SX R8 O8 W8 hl1
      refine z_last 24 (by kernel_rfl) rfl (by kernel_rfl) (by kernel_rfl) (fun K hK => ?_)
      simp only [List.getElem_cons_succ, List.getElem_cons_zero]
      go_simp
      refine hK.out _ _ ?_
      clear hK K
      go_wp2_with fail
      go_roundw
      case rel => exact ⟨k + 1, q8, c8, by go_num, by omega, Lib.hid (by have hw := may_next wk ((zs.take k).map (fun t : Hdr × Hdr × Hdr => (⟨t.1.1.N, t.2.1.1.N, t.2.2.1.N⟩ : Mb))) ((fun t : Hdr × Hdr × Hdr => (⟨t.1.1.N, t.2.1.1.N, t.2.2.1.N⟩ : Mb)) zs[k]); rw [← HTK.out] at hw; rw [hw]; exact RS.out), Lib.hid (by rw [HTK.out, List.flatMap_append, List.flatMap_singleton]; exact WS.out), OS⟩
      case measure => simp [intOf]; omega
    · obtain rfl : k = n := by omega
      have HTL := Lib.hid (show zs.take k = zs from List.take_of_length_le (by rw [← HN.out]; exact Nat.le_refl _))
      go_wp2_with fail
      go_end0
      refine ⟨rfl, q, c, ?_, ?_, HY.out⟩
      · have := HR.out
        rw [HTL.out, List.drop_of_length_le (by rw [← HN.out]; exact Nat.le_refl _)] at this
        exact this
      · have := HO.out
        rw [HTL.out, HN.out] at this
        exact own_weak this HBS.out
end
end
end Go.Proofs.YtbogjfmefkhglaaGreat
