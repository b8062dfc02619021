/-
  The wire package's builder: head, call, set, home, ballot, other, yes, id, data (written by mknwh15.py).
-/
import Derived.Test.YteepaoklibflpaaR30
namespace Go.Proofs.Yteepaoklibflpaa
section
set_option linter.unusedSimpArgs false
set_option linter.unusedVariables false
open Go.RowKit Sha Nte
open Fld (Itm)
theorem Only.cells {gb : Nat} {w w' : World} (h : Only gb w w') (o : Nat) (vs : List Value) : Only gb w (w'.setCells gb o vs) :=
  ⟨setCells_below (Nat.zero_le _) vs o w' h.b0, fun k hk hne => (setCells_heap gb vs o w' k hne).trans (h.block k hk hne)⟩
/-- A part of what lies behind the reader is written over. -/
theorem store_part {t : TypeId} {w0 w : World} {gb : Nat} {ys : List Hdr} {wr : Bool} (pre mid post vs : List Value) (o : Nat) (h : Rd w0 gb ys wr (pre ++ mid ++ post) w) (ho : pre.length + 2 = o) (hl : mid.length = vs.length)
    (hi : (Try.prog.info? t).map (fun i => i.size) = some vs.length) (h1 : vs.toArray.all (·.oneCell') = true) :
    ∃ w', (storeOp t (.pointer (some ⟨gb, o, none⟩)) (.agg vs.toArray)).run Try.prog w = .ok .skip w' ∧ Rd w0 gb ys wr (pre ++ vs ++ post) w' ∧ Only gb w w' := by
  obtain ⟨⟨q, n, c, hL, hK⟩, hb, hba⟩ := h
  have hr := run_storeAt_mid (P := Try.prog) w gb o t vs.toArray (hK.there o _ (by simp; omega)) (by simpa using hi) h1
  have hK2 := Blk.setCells (g := gb) (t := 84) vs o w (.slice q n c :: .bool wr :: pre) mid post (by simpa using hK) (by simpa using ho) hl
  refine ⟨w.setCells gb o vs, ?_, ⟨⟨q, n, c, hL, by simpa using hK2⟩, setCells_below hba vs o w hb, hba⟩, (Only.refl gb w).cells o vs⟩
  unfold storeOp
  simp only [Sem.run_bind, hr, Result.andThen_ok, Sem.run_pure]
section
variable (ρ : Operand → Value) (dst : Option Tmp) (ty : TypeId) (pos : String) (after : Array Edge) (guard : Option (Nat × Bool)) (x y : Operand) (parts : Array (Nat × Operand))
theorem execOp_storeCall15 : execOp ρ { dst := dst, op := .store 23 x y, type := ty, pos := pos, after := after, guard := guard } = storeOp 23 (ρ x) (ρ y) := by unfold storeOp; rfl
theorem execOp_makeCall15 : execOp ρ { dst := dst, op := .build 23 parts, type := ty, pos := pos, after := after, guard := guard } = makeOp 23 (parts.map fun (i, x) => (i, ρ x)) := by unfold makeOp; rfl
end
theorem make_call15 (a b c : Int) (w : World) : (makeOp 23 #[(0, .int .i64 a), (1, .int .i64 b), (2, .int .i64 c)]).run Try.prog w = .ok (.value (.agg #[nic a, nic b, nic c])) w := run_makeOp w (by kernel_rfl)
def VDone15 (w0 : World) (gb : Nat) (ys : List Hdr) (wr : Bool) (cs : List Value) (w : World) (e : Ending) (w' : World) : Prop :=
  e = .returned (.tuple #[]) ∧ Rd w0 gb ys wr cs w' ∧ Only gb w w'
theorem nc_set (x : Not) (h : NHd) (v : Int) : (ncells x h).set 6 (nic v) = ncells { x with S := v } h := rfl
theorem nc_home (x : Not) (h : NHd) (v : Int) : (ncells x h).set 7 (nic v) = ncells { x with H := v } h := rfl
theorem nc_yes (x : Not) (h : NHd) (v : Bool) : (ncells x h).set 12 (.bool v) = ncells { x with Y := v } h := rfl
theorem nc_K (x : Not) (h : NHd) (v : Int) : (ncells x h).set 0 (nic v) = ncells { x with K := v } h := rfl
theorem nc_F (x : Not) (h : NHd) (v : Int) : (ncells x h).set 1 (nic v) = ncells { x with F := v } h := rfl
theorem nc_T (x : Not) (h : NHd) (v : Int) : (ncells x h).set 2 (nic v) = ncells { x with T := v } h := rfl
theorem nc_X {x : Not} (hx : x.D.length = 32) (h : NHd) (b : List Int) (q : Option Addr) (c : Nat) : (ncells x h).set 45 (.slice q b.length c) = ncells { x with X := b } { h with q := q, c := c } := by
  unfold ncells
  simp [List.set_append_right, hx]
theorem nc_X' {x : Not} (hx : x.D.length = 32) (h : NHd) : (ncells x h)[45]? = some (.slice h.q x.X.length h.c) := ncells_X hx h
section
attribute [local go_sem ↓] execOp_fld15 execOp_storeBall15 execOp_loadBall execOp_makeBall15 execOp_storeId15 execOp_storeCall15 execOp_makeCall15 execOp_eqBall
set_option maxRecDepth 100000 in
set_option maxHeartbeats 1000000 in
theorem wset_any (w0 : World) (gb : Nat) (y : Hdr) (ys : List Hdr) (wr : Bool) (x : Not) (h : NHd) (w : World) (hr : Rd w0 gb (y :: ys) wr (ncells x h) w) :
    Calls Try.prog 55 #[.pointer (some ⟨gb, 0, none⟩)] w (VDone15 w0 gb ys (wr || !decide (setOk y.1.N)) (ncells { x with S := y.1.N } h) w) := by
  have NX := Lib.hid (wcount_any w0 gb y ys wr (ncells x h) w hr)
  generalize y.1.N = n at *
  obtain ⟨t, ht⟩ : ∃ t, t = (wr || !decide (setOk n)) := ⟨_, rfl⟩
  rw [← ht] at NX ⊢
  clear hr ht
  go_enter Try.func55, Try.ntmps55
  go_wp2_with fail
  refine NX.out.mono ?_
  rintro e w1 ⟨rfl, hr1, ho1⟩
  obtain ⟨c1, f1⟩ := hr1.cell 6 (ncells_6 x h)
  have HS := Lib.hid (hr1.setCell 6 (nic n))
  rw [nc_set] at HS
  have HO := Lib.hid (ho1.set 8 (nic n))
  clear NX hr1 ho1
  go_wp2_with fail
  go_end0
  exact ⟨rfl, HS.out, HO.out⟩
set_option maxRecDepth 100000 in
set_option maxHeartbeats 1000000 in
theorem whome_any (w0 : World) (gb : Nat) (y : Hdr) (ys : List Hdr) (wr : Bool) (x : Not) (h : NHd) (w : World) (hr : Rd w0 gb (y :: ys) wr (ncells x h) w) :
    Calls Try.prog 56 #[.pointer (some ⟨gb, 0, none⟩)] w (VDone15 w0 gb ys (wr || !decide (nodeOk y.1.N)) (ncells { x with H := y.1.N } h) w) := by
  have NX := Lib.hid (wnode_any w0 gb y ys wr (ncells x h) w hr)
  generalize y.1.N = n at *
  obtain ⟨t, ht⟩ : ∃ t, t = (wr || !decide (nodeOk n)) := ⟨_, rfl⟩
  rw [← ht] at NX ⊢
  clear hr ht
  go_enter Try.func56, Try.ntmps56
  go_wp2_with fail
  refine NX.out.mono ?_
  rintro e w1 ⟨rfl, hr1, ho1⟩
  obtain ⟨c1, f1⟩ := hr1.cell 7 (ncells_7 x h)
  have HS := Lib.hid (hr1.setCell 7 (nic n))
  rw [nc_home] at HS
  have HO := Lib.hid (ho1.set 9 (nic n))
  clear NX hr1 ho1
  go_wp2_with fail
  go_end0
  exact ⟨rfl, HS.out, HO.out⟩
set_option maxRecDepth 100000 in
set_option maxHeartbeats 1000000 in
theorem wother_any (w0 : World) (gb : Nat) (y z : Hdr) (ys : List Hdr) (wr : Bool) (x : Not) (h : NHd) (w : World) (hr : Rd w0 gb (y :: z :: ys) wr (ncells x h) w) :
    Calls Try.prog 58 #[.pointer (some ⟨gb, 0, none⟩)] w (VDone15 w0 gb ys (wr || !decide (pairOk y.1.N z.1.N)) (ncells { x with O1 := y.1.N, O2 := z.1.N } h) w) := by
  have NX := Lib.hid (wpair_any w0 gb y z ys wr (ncells x h) w hr)
  generalize y.1.N = a at *
  generalize z.1.N = b at *
  obtain ⟨t, ht⟩ : ∃ t, t = (wr || !decide (pairOk a b)) := ⟨_, rfl⟩
  rw [← ht] at NX ⊢
  clear hr ht
  go_enter Try.func58, Try.ntmps58
  go_wp2_with fail
  refine NX.out.mono ?_
  rintro e w1 ⟨rfl, hr1, ho1⟩
  obtain ⟨w2, st, hr2, ho2⟩ := store_part (t := 25) ((ncells x h).take 10) [nic x.O1, nic x.O2] ((ncells x h).drop 12) [nic a, nic b] 12 hr1 (by simp [ncells]) rfl (by rw [ball_size]; rfl) (by simp [Value.oneCell'])
  have HS := Lib.hid (show Rd w0 gb ys t (ncells { x with O1 := a, O2 := b } h) w2 from hr2)
  have HO := Lib.hid (ho1.trans ho2)
  clear NX hr1 ho1 hr2 ho2
  go_wp2_with fail
  go_end0
  exact ⟨rfl, HS.out, HO.out⟩
theorem not_ball (wr : Bool) (a b : Int) : ((wr || !decide (pairOk a b)) || decide (a = 0 ∧ b = 0)) = (wr || !decide (pairOk a b ∧ ¬ (a = 0 ∧ b = 0))) := by
  cases wr
  · by_cases h1 : pairOk a b <;> by_cases h2 : a = 0 ∧ b = 0 <;> simp [h1, h2]
  · rfl
set_option maxRecDepth 100000 in
set_option maxHeartbeats 1000000 in
theorem wballot_any (w0 : World) (gb : Nat) (y z : Hdr) (ys : List Hdr) (wr : Bool) (x : Not) (h : NHd) (w : World) (hr : Rd w0 gb (y :: z :: ys) wr (ncells x h) w) :
    Calls Try.prog 57 #[.pointer (some ⟨gb, 0, none⟩)] w (VDone15 w0 gb ys (wr || !decide (pairOk y.1.N z.1.N ∧ ¬ (y.1.N = 0 ∧ z.1.N = 0))) (ncells { x with B1 := y.1.N, B2 := z.1.N } h) w) := by
  have NX := Lib.hid (wpair_any w0 gb y z ys wr (ncells x h) w hr)
  generalize y.1.N = a at *
  generalize z.1.N = b at *
  have HP := Lib.hid (not_ball wr a b)
  obtain ⟨t, ht⟩ : ∃ t, t = (wr || !decide (pairOk a b)) := ⟨_, rfl⟩
  obtain ⟨u, hu⟩ : ∃ u, u = (wr || !decide (pairOk a b ∧ ¬ (a = 0 ∧ b = 0))) := ⟨_, rfl⟩
  rw [← ht] at NX HP
  rw [← hu] at HP ⊢
  clear hr ht hu
  go_enter Try.func57, Try.ntmps57
  go_wp2_with fail
  refine NX.out.mono ?_
  rintro e w1 ⟨rfl, hr1, ho1⟩
  obtain ⟨w2, st, hr2, ho2⟩ := store_part (t := 25) ((ncells x h).take 8) [nic x.B1, nic x.B2] ((ncells x h).drop 10) [nic a, nic b] 10 hr1 (by simp [ncells]) rfl (by rw [ball_size]; rfl) (by simp [Value.oneCell'])
  have hr2 : Rd w0 gb ys t (ncells { x with B1 := a, B2 := b } h) w2 := hr2
  have HO := Lib.hid (ho1.trans ho2)
  have HS := Lib.hid (hr2.setWrong u)
  have HO3 := Lib.hid (HO.out.set 1 (.bool u))
  obtain ⟨c1, f1⟩ := hr2.wrong
  have lb : (loadOp 25 (.pointer (some ⟨gb, 10, none⟩))).run Try.prog w2 = .ok (.value (.agg #[nic a, nic b])) w2 := by
    obtain ⟨⟨q, n, c, _, hK⟩, _, _⟩ := hr2
    exact run_loadOp (run_loadAt_mid w2 gb 10 25 [nic a, nic b] _ (fun j v hv => by
      rw [hK.cell]
      match j with
      | 0 => exact hv
      | 1 => exact hv
      | j + 2 => simp at hv) Try.underlying25 rfl (by rw [ball_size]; rfl))
  have mk := fun w => make_ball0 w
  have eq := fun (o1 o2 : Operand) (e : Bool) (he : e = decide (a = 0 ∧ b = 0)) => run_eqBall a b 0 0 e he o1 o2 w2
  clear NX hr1 ho1 hr2 ho2
  cases t with
  | true =>
    have hu : u = true := HP.out.symm
    subst hu
    clear HP eq
    go_wp2_with fail
    go_end0
    exact ⟨rfl, HS.out, HO3.out⟩
  | false =>
    have HP2 := Lib.hid (show decide (a = 0 ∧ b = 0) = u from HP.out)
    clear HP
    have eq2 := fun (o1 o2 : Operand) => eq o1 o2 u HP2.out.symm
    clear eq HP2
    go_wp2_with fail
    go_end0
    exact ⟨rfl, HS.out, HO3.out⟩
theorem nc_D (x : Not) (h : NHd) (d : List Int) : ncells { x with D := d } h = (ncells x h).take 13 ++ d.map v8 ++ [.slice h.q x.X.length h.c, .slice h.r x.I.length h.d, .slice h.s x.W.length h.e] := rfl
set_option maxRecDepth 100000 in
set_option maxHeartbeats 1000000 in
theorem wid_any (w0 : World) (gb : Nat) (y : Hdr) (ys : List Hdr) (wr : Bool) (x : Not) (h : NHd) (w : World) (hx : x.D.length = 32) (hr : Rd w0 gb (y :: ys) wr (ncells x h) w) :
    Calls Try.prog 60 #[.pointer (some ⟨gb, 0, none⟩)] w (VDone15 w0 gb ys wr (ncells { x with D := y.1.D } h) w) := by
  have hy : y.1.ok := by
    obtain ⟨⟨q, n, c, hL, _⟩, _, _⟩ := hr
    exact (hL.good y (List.mem_cons_self ..)).ok
  have NX := Lib.hid (wnext_any w0 gb y ys wr (ncells x h) w hr)
  have hf := fun w => fld_D y hy w
  generalize (Value.agg (cellsI y).toArray) = vy at *
  have hd := hy.len
  generalize y.1.D = d at *
  clear hr hy
  go_enter Try.func60, Try.ntmps60
  go_wp2_with fail
  refine NX.out.mono ?_
  rintro e w1 ⟨rfl, hr1, ho1⟩
  obtain ⟨w2, st, hr2, ho2⟩ := store_part (t := 27) ((ncells x h).take 13) (x.D.map v8) [.slice h.q x.X.length h.c, .slice h.r x.I.length h.d, .slice h.s x.W.length h.e] (d.map v8) 15 hr1 (by simp [ncells]) (by simp [hd, hx]) (by rw [id_size]; simp [hd]) (v8_all d)
  have HS := Lib.hid (show Rd w0 gb ys wr (ncells { x with D := d } h) w2 from hr2)
  have HO := Lib.hid (ho1.trans ho2)
  clear NX hr1 ho1 hr2 ho2
  go_wp2_with fail
  go_end0
  exact ⟨rfl, HS.out, HO.out⟩
set_option maxRecDepth 100000 in
set_option maxHeartbeats 1000000 in
theorem wdata_any (w0 : World) (gb : Nat) (y : Hdr) (ys : List Hdr) (wr : Bool) (x : Not) (h : NHd) (w : World) (hx : x.D.length = 32) (hr : Rd w0 gb (y :: ys) wr (ncells x h) w) :
    Calls Try.prog 61 #[.pointer (some ⟨gb, 0, none⟩)] w (VDone15 w0 gb ys wr (ncells { x with X := y.1.B } { h with q := y.2.1, c := y.2.2 }) w) := by
  have NX := Lib.hid (wnext_any w0 gb y ys wr (ncells x h) w hr)
  have hf := fun w => fld_B y w
  generalize (Value.agg (cellsI y).toArray) = vy at *
  generalize y.2.1 = q at *
  generalize y.2.2 = c at *
  generalize y.1.B = b at *
  clear hr
  go_enter Try.func61, Try.ntmps61
  go_wp2_with fail
  refine NX.out.mono ?_
  rintro e w1 ⟨rfl, hr1, ho1⟩
  obtain ⟨c1, f1⟩ := hr1.cell 45 (ncells_X hx h)
  have HS := Lib.hid (hr1.setCell 45 (.slice q b.length c))
  rw [nc_X hx] at HS
  have HO := Lib.hid (ho1.set 47 (.slice q b.length c))
  clear NX hr1 ho1
  go_wp2_with fail
  go_end0
  exact ⟨rfl, HS.out, HO.out⟩
theorem not_call (wr : Bool) (a b c : Int) : ((((wr || !decide (nodeOk a)) || !decide (setOk b)) || !decide (setOk c))) = (wr || !decide (nodeOk a ∧ setOk b ∧ setOk c)) := by
  cases wr
  · by_cases h1 : nodeOk a <;> by_cases h2 : setOk b <;> by_cases h3 : setOk c <;> simp [h1, h2, h3]
  · rfl
set_option maxRecDepth 100000 in
set_option maxHeartbeats 1000000 in
theorem wcall_any (w0 : World) (gb : Nat) (y1 y2 y3 : Hdr) (ys : List Hdr) (wr : Bool) (x : Not) (h : NHd) (w : World) (hr : Hid (Rd w0 gb (y1 :: y2 :: y3 :: ys) wr (ncells x h) w)) :
    Calls Try.prog 54 #[.pointer (some ⟨gb, 0, none⟩)] w (VDone15 w0 gb ys (wr || !decide (nodeOk y1.1.N ∧ setOk y2.1.N ∧ setOk y3.1.N)) (ncells { x with C1 := y1.1.N, C2 := y2.1.N, C3 := y3.1.N } h) w) := by
  go_enter Try.func54, Try.ntmps54
  refine wp_region_held_drew (S := (fun _ => True)) (by kernel_rfl) trivial (fun hHeld => ?_)
  have DR := Lib.hid (hr.out.on (Below.refl w.heap.size w).drew)
  have DO := Lib.hid ((Only.refl gb w).call (Below.refl w.heap.size w).drew)
  generalize w.drew = wd at *
  refine take_at 0 (by kernel_rfl) (v := ?v1) (by kernel_rfl) (by kernel_rfl) (by kernel_rfl) (fun _ _ _ h => h) (by rfl) ?y1 (by assumption) ?r1
  case y1 => (intro w hSw; (try dsimp only at hSw); simp only [List.getElem_cons_succ, List.getElem_cons_zero]; go_simp; (try with_reducible rfl))
  try simp only [List.getElem_cons_succ, List.getElem_cons_zero, Act.put, List.setIfInBounds_toArray, List.set_cons_zero, List.set_cons_succ]
  refine take_at 1 (by kernel_rfl) (v := ?v2) (by kernel_rfl) (by kernel_rfl) (by kernel_rfl) (fun _ _ _ h => h) (by rfl) ?y2 (by assumption) ?r2
  case y2 => (intro w hSw; (try dsimp only at hSw); simp only [List.getElem_cons_succ, List.getElem_cons_zero]; go_simp; (try with_reducible rfl))
  try simp only [List.getElem_cons_succ, List.getElem_cons_zero, Act.put, List.setIfInBounds_toArray, List.set_cons_zero, List.set_cons_succ]
  refine take_at 2 (by kernel_rfl) (v := ?v3) (by kernel_rfl) (by kernel_rfl) (by kernel_rfl) (fun _ _ _ h => h) (by rfl) ?y3 (by assumption) ?r3
  case y3 => (intro w hSw; (try dsimp only at hSw); simp only [List.getElem_cons_succ, List.getElem_cons_zero]; go_simp; (try with_reducible rfl))
  try simp only [List.getElem_cons_succ, List.getElem_cons_zero, Act.put, List.setIfInBounds_toArray, List.set_cons_zero, List.set_cons_succ]
  refine take_at 3 (by kernel_rfl) (v := ?v4) (by kernel_rfl) (by kernel_rfl) (by kernel_rfl) (fun _ _ _ h => h) (by rfl) ?y4 (by assumption) ?r4
  case y4 => (intro w hSw; (try dsimp only at hSw); simp only [List.getElem_cons_succ, List.getElem_cons_zero]; go_simp; (try with_reducible rfl))
  try simp only [List.getElem_cons_succ, List.getElem_cons_zero, Act.put, List.setIfInBounds_toArray, List.set_cons_zero, List.set_cons_succ]
  refine take_at 5 (by kernel_rfl) (v := ?v5) (by kernel_rfl) (by kernel_rfl) (by kernel_rfl) (fun _ _ _ h => h) (by rfl) ?y5 (by assumption) ?r5
  case y5 => (intro w hSw; (try dsimp only at hSw); simp only [List.getElem_cons_succ, List.getElem_cons_zero]; go_simp; (try with_reducible rfl))
  try simp only [List.getElem_cons_succ, List.getElem_cons_zero, Act.put, List.setIfInBounds_toArray, List.set_cons_zero, List.set_cons_succ]
  refine take_at 6 (by kernel_rfl) (v := ?v6) (by kernel_rfl) (by kernel_rfl) (by kernel_rfl) (fun _ _ _ h => h) (by rfl) ?y6 (by assumption) ?r6
  case y6 => (intro w hSw; (try dsimp only at hSw); simp only [List.getElem_cons_succ, List.getElem_cons_zero]; go_simp; (try with_reducible rfl))
  try simp only [List.getElem_cons_succ, List.getElem_cons_zero, Act.put, List.setIfInBounds_toArray, List.set_cons_zero, List.set_cons_succ]
  refine take_at 7 (by kernel_rfl) (v := ?v7) (by kernel_rfl) (by kernel_rfl) (by kernel_rfl) (fun _ _ _ h => h) (by rfl) ?y7 (by assumption) ?r7
  case y7 => (intro w hSw; (try dsimp only at hSw); simp only [List.getElem_cons_succ, List.getElem_cons_zero]; go_simp; (try with_reducible rfl))
  try simp only [List.getElem_cons_succ, List.getElem_cons_zero, Act.put, List.setIfInBounds_toArray, List.set_cons_zero, List.set_cons_succ]
  refine take_at 9 (by kernel_rfl) (v := ?v8) (by kernel_rfl) (by kernel_rfl) (by kernel_rfl) (fun _ _ _ h => h) (by rfl) ?y8 (by assumption) ?r8
  case y8 => (intro w hSw; (try dsimp only at hSw); simp only [List.getElem_cons_succ, List.getElem_cons_zero]; go_simp; (try with_reducible rfl))
  try simp only [List.getElem_cons_succ, List.getElem_cons_zero, Act.put, List.setIfInBounds_toArray, List.set_cons_zero, List.set_cons_succ]
  refine take_at 10 (by kernel_rfl) (v := ?v9) (by kernel_rfl) (by kernel_rfl) (by kernel_rfl) (fun _ _ _ h => h) (by rfl) ?y9 (by assumption) ?r9
  case y9 => (intro w hSw; (try dsimp only at hSw); simp only [List.getElem_cons_succ, List.getElem_cons_zero]; go_simp; (try with_reducible rfl))
  try simp only [List.getElem_cons_succ, List.getElem_cons_zero, Act.put, List.setIfInBounds_toArray, List.set_cons_zero, List.set_cons_succ]
  refine take_at 11 (by kernel_rfl) (v := ?v10) (by kernel_rfl) (by kernel_rfl) (by kernel_rfl) (fun _ _ _ h => h) (by rfl) ?y10 (by assumption) ?r10
  case y10 => (intro w hSw; (try dsimp only at hSw); simp only [List.getElem_cons_succ, List.getElem_cons_zero]; go_simp; (try with_reducible rfl))
  try simp only [List.getElem_cons_succ, List.getElem_cons_zero, Act.put, List.setIfInBounds_toArray, List.set_cons_zero, List.set_cons_succ]
  refine ready_at 4 (by kernel_rfl) (by kernel_rfl) (fun K hK => ?_)
  simp only [List.getElem_cons_succ, List.getElem_cons_zero]
  go_simp
  go_at_call 53
  refine (wnode_any w0 gb y1 (y2 :: y3 :: ys) wr (ncells x h) _ DR.out).mono ?_
  rintro e wa ⟨rfl, ra, oa⟩
  have RA := Lib.hid ra
  have OA := Lib.hid (DO.out.trans oa)
  clear ra oa
  (try go_wp2_with fail)
  refine hK.out _ _ trivial (fun hHeld => ?_)
  clear hK K
  try simp only [List.getElem_cons_succ, List.getElem_cons_zero, Act.put, List.setIfInBounds_toArray, List.set_cons_zero, List.set_cons_succ]
  refine ready_at 8 (by kernel_rfl) (by kernel_rfl) (fun K hK => ?_)
  simp only [List.getElem_cons_succ, List.getElem_cons_zero]
  go_simp
  go_at_call 72
  refine (wcount_any w0 gb y2 (y3 :: ys) _ (ncells x h) _ RA.out).mono ?_
  rintro e wb ⟨rfl, rb, ob⟩
  have RB := Lib.hid rb
  have OB := Lib.hid (OA.out.trans ob)
  clear rb ob
  (try go_wp2_with fail)
  refine hK.out _ _ trivial (fun hHeld => ?_)
  clear hK K
  try simp only [List.getElem_cons_succ, List.getElem_cons_zero, Act.put, List.setIfInBounds_toArray, List.set_cons_zero, List.set_cons_succ]
  refine ready_at 12 (by kernel_rfl) (by kernel_rfl) (fun K hK => ?_)
  simp only [List.getElem_cons_succ, List.getElem_cons_zero]
  go_simp
  go_at_call 72
  refine (wcount_any w0 gb y3 ys _ (ncells x h) _ RB.out).mono ?_
  rintro e wc ⟨rfl, rc, oc⟩
  have RC := Lib.hid rc
  have OC := Lib.hid (OB.out.trans oc)
  clear rc oc
  (try go_wp2_with fail)
  refine hK.out _ _ trivial (fun hHeld => ?_)
  clear hK K
  try simp only [List.getElem_cons_succ, List.getElem_cons_zero, Act.put, List.setIfInBounds_toArray, List.set_cons_zero, List.set_cons_succ]
  have mk := fun w => make_call15 y1.1.N y2.1.N y3.1.N w
  refine take_at 13 (by kernel_rfl) (v := ?v11) (by kernel_rfl) (by kernel_rfl) (by kernel_rfl) (fun _ _ _ h => h) (by rfl) ?y11 (by assumption) ?r11
  case y11 => (intro w hSw; (try dsimp only at hSw); simp only [List.getElem_cons_succ, List.getElem_cons_zero]; go_simp; (try with_reducible rfl))
  try simp only [List.getElem_cons_succ, List.getElem_cons_zero, Act.put, List.setIfInBounds_toArray, List.set_cons_zero, List.set_cons_succ]
  refine take_at 14 (by kernel_rfl) (v := ?v12) (by kernel_rfl) (by kernel_rfl) (by kernel_rfl) (fun _ _ _ h => h) (by rfl) ?y12 (by assumption) ?r12
  case y12 => (intro w hSw; (try dsimp only at hSw); simp only [List.getElem_cons_succ, List.getElem_cons_zero]; go_simp; (try with_reducible rfl))
  try simp only [List.getElem_cons_succ, List.getElem_cons_zero, Act.put, List.setIfInBounds_toArray, List.set_cons_zero, List.set_cons_succ]
  refine take_at 15 (by kernel_rfl) (v := ?v13) (by kernel_rfl) (by kernel_rfl) (by kernel_rfl) (fun _ _ _ h => h) (by rfl) ?y13 (by assumption) ?r13
  case y13 => (intro w hSw; (try dsimp only at hSw); simp only [List.getElem_cons_succ, List.getElem_cons_zero]; go_simp; (try with_reducible rfl))
  try simp only [List.getElem_cons_succ, List.getElem_cons_zero, Act.put, List.setIfInBounds_toArray, List.set_cons_zero, List.set_cons_succ]
  refine take_at 16 (by kernel_rfl) (v := ?v14) (by kernel_rfl) (by kernel_rfl) (by kernel_rfl) (fun _ _ _ h => h) (by rfl) ?y14 (by assumption) ?r14
  case y14 => (intro w hSw; (try dsimp only at hSw); simp only [List.getElem_cons_succ, List.getElem_cons_zero]; go_simp; (try with_reducible rfl))
  try simp only [List.getElem_cons_succ, List.getElem_cons_zero, Act.put, List.setIfInBounds_toArray, List.set_cons_zero, List.set_cons_succ]
  obtain ⟨w2, st, hr2, ho2⟩ := store_part (t := 23) ((ncells x h).take 3) [nic x.C1, nic x.C2, nic x.C3] ((ncells x h).drop 6) [nic y1.1.N, nic y2.1.N, nic y3.1.N] 5 RC.out (by simp [ncells]) rfl (by rw [call_size]; rfl) (by simp [Value.oneCell'])
  refine ready_at 17 (by kernel_rfl) (by kernel_rfl) (fun K hK => ?_)
  simp only [List.getElem_cons_succ, List.getElem_cons_zero]
  go_simp
  try simp only [st, Result.andThen_ok, Sem.run_pure, Sem.run_bind]
  refine hK.out _ _ trivial (fun hHeld => ?_)
  clear hK K
  try simp only [List.getElem_cons_succ, List.getElem_cons_zero, Act.put, List.setIfInBounds_toArray, List.set_cons_zero, List.set_cons_succ]
  refine wpAnyH_done (by kernel_rfl) ?_ _
  go_wp2_with fail
  go_end0
  exact ⟨rfl, by rw [← not_call]; exact hr2, OC.out.trans ho2⟩
theorem not_yes (wr : Bool) (n : Int) : ((wr || decide (n < 0)) || decide (1 < n)) = (wr || !decide (0 ≤ n ∧ n ≤ 1)) := by
  cases wr
  · by_cases h : 0 ≤ n ∧ n ≤ 1
    · have h1 : ¬ n < 0 := by omega
      have h2 : ¬ 1 < n := by omega
      simp only [h, h1, h2]; rfl
    · have h1 : n < 0 ∨ 1 < n := by omega
      have h3 : decide (0 ≤ n ∧ n ≤ 1) = false := decide_eq_false h
      rw [h3]
      rcases h1 with h1 | h1 <;> simp [h1]
  · rfl
set_option maxRecDepth 100000 in
set_option maxHeartbeats 1000000 in
theorem wyes_any (w0 : World) (gb : Nat) (y : Hdr) (ys : List Hdr) (wr : Bool) (x : Not) (h : NHd) (w : World) (hr : Hid (Rd w0 gb (y :: ys) wr (ncells x h) w)) :
    Calls Try.prog 59 #[.pointer (some ⟨gb, 0, none⟩)] w (VDone15 w0 gb ys (wr || !decide (0 ≤ y.1.N ∧ y.1.N ≤ 1)) (ncells { x with Y := decide (y.1.N = 1) } h) w) := by
  go_enter Try.func59, Try.ntmps59
  refine wp_region_held_drew (S := (fun _ => True)) (by kernel_rfl) trivial (fun hHeld => ?_)
  have DR := Lib.hid (hr.out.on (Below.refl w.heap.size w).drew)
  have DO := Lib.hid ((Only.refl gb w).call (Below.refl w.heap.size w).drew)
  generalize w.drew = wd at *
  refine take_at 0 (by kernel_rfl) (v := ?v15) (by kernel_rfl) (by kernel_rfl) (by kernel_rfl) (fun _ _ _ h => h) (by rfl) ?y15 (by assumption) ?r15
  case y15 => (intro w hSw; (try dsimp only at hSw); simp only [List.getElem_cons_succ, List.getElem_cons_zero]; go_simp; (try with_reducible rfl))
  try simp only [List.getElem_cons_succ, List.getElem_cons_zero, Act.put, List.setIfInBounds_toArray, List.set_cons_zero, List.set_cons_succ]
  refine take_at 1 (by kernel_rfl) (v := ?v16) (by kernel_rfl) (by kernel_rfl) (by kernel_rfl) (fun _ _ _ h => h) (by rfl) ?y16 (by assumption) ?r16
  case y16 => (intro w hSw; (try dsimp only at hSw); simp only [List.getElem_cons_succ, List.getElem_cons_zero]; go_simp; (try with_reducible rfl))
  try simp only [List.getElem_cons_succ, List.getElem_cons_zero, Act.put, List.setIfInBounds_toArray, List.set_cons_zero, List.set_cons_succ]
  refine take_at 2 (by kernel_rfl) (v := ?v17) (by kernel_rfl) (by kernel_rfl) (by kernel_rfl) (fun _ _ _ h => h) (by rfl) ?y17 (by assumption) ?r17
  case y17 => (intro w hSw; (try dsimp only at hSw); simp only [List.getElem_cons_succ, List.getElem_cons_zero]; go_simp; (try with_reducible rfl))
  try simp only [List.getElem_cons_succ, List.getElem_cons_zero, Act.put, List.setIfInBounds_toArray, List.set_cons_zero, List.set_cons_succ]
  refine take_at 3 (by kernel_rfl) (v := ?v18) (by kernel_rfl) (by kernel_rfl) (by kernel_rfl) (fun _ _ _ h => h) (by rfl) ?y18 (by assumption) ?r18
  case y18 => (intro w hSw; (try dsimp only at hSw); simp only [List.getElem_cons_succ, List.getElem_cons_zero]; go_simp; (try with_reducible rfl))
  try simp only [List.getElem_cons_succ, List.getElem_cons_zero, Act.put, List.setIfInBounds_toArray, List.set_cons_zero, List.set_cons_succ]
  refine ready_at 4 (by kernel_rfl) (by kernel_rfl) (fun K hK => ?_)
  simp only [List.getElem_cons_succ, List.getElem_cons_zero]
  go_simp
  go_at_call 74
  refine (wtruth_any false _).mono ?_
  rintro e wt4 ⟨rfl, rfl⟩
  (try go_wp2_with fail)
  refine hK.out _ _ trivial (fun hHeld => ?_)
  clear hK K
  try simp only [List.getElem_cons_succ, List.getElem_cons_zero, Act.put, List.setIfInBounds_toArray, List.set_cons_zero, List.set_cons_succ]
  refine ready_at 5 (by kernel_rfl) (by kernel_rfl) (fun K hK => ?_)
  simp only [List.getElem_cons_succ, List.getElem_cons_zero]
  go_simp
  go_at_call 74
  refine (wtruth_any true _).mono ?_
  rintro e wt5 ⟨rfl, rfl⟩
  (try go_wp2_with fail)
  refine hK.out _ _ trivial (fun hHeld => ?_)
  clear hK K
  try simp only [List.getElem_cons_succ, List.getElem_cons_zero, Act.put, List.setIfInBounds_toArray, List.set_cons_zero, List.set_cons_succ]
  refine ready_at 6 (by kernel_rfl) (by kernel_rfl) (fun K hK => ?_)
  simp only [List.getElem_cons_succ, List.getElem_cons_zero]
  go_simp
  go_at_call 71
  refine (wnumber_any 0 1 w0 gb y ys wr (ncells x h) _ DR.out).mono ?_
  rintro e wa ⟨rfl, ra, oa⟩
  have RA := Lib.hid ra
  have OA := Lib.hid (DO.out.trans oa)
  clear ra oa
  (try go_wp2_with fail)
  refine hK.out _ _ trivial (fun hHeld => ?_)
  clear hK K
  try simp only [List.getElem_cons_succ, List.getElem_cons_zero, Act.put, List.setIfInBounds_toArray, List.set_cons_zero, List.set_cons_succ]
  refine ready_at 7 (by kernel_rfl) (by kernel_rfl) (fun K hK => ?_)
  simp only [List.getElem_cons_succ, List.getElem_cons_zero]
  go_simp
  go_at_call 74
  refine (wtruth_any true _).mono ?_
  rintro e wt7 ⟨rfl, rfl⟩
  (try go_wp2_with fail)
  refine hK.out _ _ trivial (fun hHeld => ?_)
  clear hK K
  try simp only [List.getElem_cons_succ, List.getElem_cons_zero, Act.put, List.setIfInBounds_toArray, List.set_cons_zero, List.set_cons_succ]
  refine take_at 8 (by kernel_rfl) (v := ?v19) (by kernel_rfl) (by kernel_rfl) (by kernel_rfl) (fun _ _ _ h => h) (by rfl) ?y19 (by assumption) ?r19
  case y19 => (intro w hSw; (try dsimp only at hSw); simp only [List.getElem_cons_succ, List.getElem_cons_zero]; go_simp; (try with_reducible rfl))
  try simp only [List.getElem_cons_succ, List.getElem_cons_zero, Act.put, List.setIfInBounds_toArray, List.set_cons_zero, List.set_cons_succ]
  refine take_at 9 (by kernel_rfl) (v := ?v20) (by kernel_rfl) (by kernel_rfl) (by kernel_rfl) (fun _ _ _ h => h) (by rfl) ?y20 (by assumption) ?r20
  case y20 => (intro w hSw; (try dsimp only at hSw); simp only [List.getElem_cons_succ, List.getElem_cons_zero]; go_simp; (try with_reducible rfl))
  try simp only [List.getElem_cons_succ, List.getElem_cons_zero, Act.put, List.setIfInBounds_toArray, List.set_cons_zero, List.set_cons_succ]
  refine take_at 10 (by kernel_rfl) (v := ?v21) (by kernel_rfl) (by kernel_rfl) (by kernel_rfl) (fun _ _ _ h => h) (by rfl) ?y21 (by assumption) ?r21
  case y21 => (intro w hSw; (try dsimp only at hSw); simp only [List.getElem_cons_succ, List.getElem_cons_zero]; go_simp; (try with_reducible rfl))
  try simp only [List.getElem_cons_succ, List.getElem_cons_zero, Act.put, List.setIfInBounds_toArray, List.set_cons_zero, List.set_cons_succ]
  refine take_at 11 (by kernel_rfl) (v := ?v22) (by kernel_rfl) (by kernel_rfl) (by kernel_rfl) (fun _ _ _ h => h) (by rfl) ?y22 (by assumption) ?r22
  case y22 => (intro w hSw; (try dsimp only at hSw); simp only [List.getElem_cons_succ, List.getElem_cons_zero]; go_simp; (try with_reducible rfl))
  try simp only [List.getElem_cons_succ, List.getElem_cons_zero, Act.put, List.setIfInBounds_toArray, List.set_cons_zero, List.set_cons_succ]
  obtain ⟨c1, f1⟩ := RA.out.cell 12 (ncells_12 x h)
  have HS := Lib.hid (RA.out.setCell 12 (.bool (decide (y.1.N = 1))))
  rw [nc_yes] at HS
  have HO := Lib.hid (OA.out.set 14 (.bool (decide (y.1.N = 1))))
  refine ready_at 12 (by kernel_rfl) (by kernel_rfl) (fun K hK => ?_)
  simp only [List.getElem_cons_succ, List.getElem_cons_zero]
  go_simp
  refine hK.out _ _ trivial (fun hHeld => ?_)
  clear hK K
  try simp only [List.getElem_cons_succ, List.getElem_cons_zero, Act.put, List.setIfInBounds_toArray, List.set_cons_zero, List.set_cons_succ]
  refine wpAnyH_done (by kernel_rfl) ?_ _
  go_wp2_with fail
  go_end0
  exact ⟨rfl, by rw [← not_yes]; exact HS.out, HO.out⟩
end
end
end Go.Proofs.Yteepaoklibflpaa
