/-
  The reference of fields: how many (count).
-/
import Derived.Test.YtgakmkglejddeaaFlqD
import Derived.Test.YtgakmkglejddeaaFldQ
import Derived.Test.YtgakmkglejddeaaOver
namespace Go.Proofs.Ytgakmkglejddeaa
set_option linter.unusedSimpArgs false
set_option linter.unusedVariables false
open Go.RowKit Sha
open Fld (Itm)
/-! ### Ids loaded, built and compared, as one operation each -/
@[irreducible] def neqOp (t : TypeId) (x y : Operand) (u v : Value) : Sem Next := do pure (.value (← (do eqGuard .neq t x y u v; binOp .neq t u v)))
theorem execOp_neqId (ρ : Operand → Value) (dst : Option Tmp) (x y : Operand) (ty r : TypeId) (pos : String) (after : Array Edge) (guard : Option (Nat × Bool)) :
    execOp ρ { dst := dst, op := .binOp .neq 38 x y r, type := ty, pos := pos, after := after, guard := guard } = neqOp 38 x y (ρ x) (ρ y) := by unfold neqOp; rfl
theorem execOp_buildId (ρ : Operand → Value) (dst : Option Tmp) (parts : Array (Nat × Operand)) (ty : TypeId) (pos : String) (after : Array Edge) (guard : Option (Nat × Bool)) :
    execOp ρ { dst := dst, op := .build 38 parts, type := ty, pos := pos, after := after, guard := guard } = mkOp 38 (parts.map fun (i, x) => (i, ρ x)) := by unfold mkOp; rfl
theorem run_neqId (x y : Operand) (xs ys : List Int) (hx : xs.length = 32) (hy : ys.length = 32) (w : World) : (neqOp 38 x y (.agg (xs.map v8).toArray) (.agg (ys.map v8).toArray)).run Try.prog w = .ok (.value (.bool (!decide (xs = ys)))) w := by
  have h := run_neq_arr (P := Try.prog) w x y 38 5 32 .u8 Try.underlying38 Try.underlying5 kslice1 xs ys hx hy
  unfold neqOp
  rw [Sem.run_bind, h]
  simp only [Result.andThen_ok, Sem.run_pure]
theorem rfails_0 {w0 w : World} {ga k : Nat} {L v : Value} {out : List Int} (h : RW w0 ga L k v out 0 w) {gx : Nat} {cs : List Value} (hi : Blk w gx cs 40) (er : Int) :
    Calls Try.prog 30 #[.pointer (some ⟨ga, 0, none⟩), .int .i64 er] w fun x w' => x = .returned (.tuple #[]) ∧ RW w0 ga L k v out er w' ∧ Blk w' gx cs 40 :=
  (rfails_any ga _ _ _ 0 er w h.blk).mono fun x w' ⟨hx, hw⟩ => ⟨hx, by rw [hw, if_pos rfl]; exact h.fail er, by rw [hw, if_pos rfl]; exact hi.setOther _ _ (h.ne hi)⟩
theorem rfails_e {w0 w : World} {ga k : Nat} {L v : Value} {out : List Int} {e : Int} (h : RW w0 ga L k v out e w) (he : e ≠ 0) (er : Int) :
    Calls Try.prog 30 #[.pointer (some ⟨ga, 0, none⟩), .int .i64 er] w fun x w' => x = .returned (.tuple #[]) ∧ w = w' :=
  (rfails_any ga _ _ _ e er w h.blk).mono fun x w' ⟨hx, hw⟩ => ⟨hx, by rw [hw, if_neg he]⟩
attribute [local go_sem ↓] execOp_loadId execOp_buildId execOp_neqId
/-- The item that next told, in a variable: what the walk asks of it. -/
theorem item_box {w0 w1 : World} {ga k : Nat} {L v : Value} {out : List Int} {er : Int} {x : Itm} {q : Option Addr} {c : Nat} (h : RW w0 ga L k v out er w1) (hg : GoodI w0 x q c) :
    let w2 := w1.alloc (Obj.cells (icells x q c).toArray 40)
    RW w0 ga L k v out er w2 ∧ GoodI w0 x q c ∧ Blk w2 w1.heap.size (icells x q c) 40 :=
  ⟨h.on ((Below.refl _ _).alloc (Nat.le_refl _) _), hg, by have := Blk.new w1 (icells x q c).toArray 40; rwa [List.toList_toArray] at this⟩
def CDone (w0 : World) (ga : Nat) (L : Value) (k : Nat) (er : Int) (out : List Int) (r : Int) (e : Ending) (w' : World) : Prop := e = .returned (.int .i64 r) ∧ ∃ v, RW w0 ga L k v out er w'
set_option maxRecDepth 100000 in
set_option maxHeartbeats 1000000 in
theorem rcount_err (w0 : World) (ga : Nat) (L : Value) (v : Value) (out : List Int) (k : Nat) (er : Int) (he : er ≠ 0) (most : Int) (hm : 0 ≤ most) (w : World)
    (hnext : Calls Try.prog 38 #[.pointer (some ⟨ga, 0, none⟩)] w (NextDone w0 ga L v out ⟨0, [], Fld.zero32⟩ k er)) :
    Calls Try.prog 29 #[.pointer (some ⟨ga, 0, none⟩), .int .i64 most] w (CDone w0 ga L k er out 0) := by
  have HNX := Lib.hid hnext
  have hne : (er == 0) = false := by rw [beq_eq_false_iff_ne]; exact he
  have hl : ¬ most < 0 := by omega
  clear hnext he
  go_enter Try.func29, Try.ntmps29
  go_wp2_with (first
    | (go_at_call 38; refine HNX.out.mono ?_; clear HNX; rintro e w1 ⟨q, c, rfl, hg, hr⟩; have hsz : (Try.prog.info? 40).map (fun i => i.size) = some (icells ⟨0, [], Fld.zero32⟩ q c).toArray.size := (by rw [item_size, List.size_toArray, icells_length item0_ok']); have hsz3 : (icells ⟨0, [], Fld.zero32⟩ none 0).toArray.size = (icells ⟨0, [], Fld.zero32⟩ q c).toArray.size := (by rw [List.size_toArray, List.size_toArray, icells_length item0_ok', icells_length item0_ok']); have HG := Lib.hid hg; have HR := Lib.hid hr; clear hg hr)
    | (refine wpList_alloc_arr rfl 40 rfl _ item_info ?_; have tk1 : True := trivial)
    | (have _t := tk1; refine wpList_store_row rfl 40 (.tmp 5) (.tmp 7) rfl _ _ rfl rfl 40 _ (heap_alloc_new _ _) hsz hsz3 (icells_all _ _ _) ?_; clear tk1 _t; rw [World.setRow_alloc_new]; obtain ⟨hr2, hg2, hb2⟩ := item_box HR.out HG.out; generalize w1.alloc (Obj.cells (icells ⟨0, [], Fld.zero32⟩ q c).toArray 40) = w2 at *; generalize w1.heap.size = gx at *; have c0 : w2.cell? ⟨gx, 0, none⟩ = some (.int .i64 0) := (hb2.cell 0).trans (icells_0 _ _ _); have c1 : w2.cell? ⟨gx, 1, none⟩ = some (.slice q 0 c) := (hb2.cell 1).trans (icells_1 _ _ _); have c3 : w2.cell? ⟨ga, 3, none⟩ = some (.int .i64 er) := hr2.blk.cell 3; have ld := load_id item0_ok' hb2.range; have bd := run_mkOp (P := Try.prog) w2 (parts := #[]) id_zero; have nq := (fun oa ob => run_neqId oa ob Fld.zero32 Fld.zero32 Fld.zero32_length Fld.zero32_length w2); rw [decide_eq_true rfl] at nq; have R2 := Lib.hid hr2; have G2 := Lib.hid hg2; have I2 := Lib.hid hb2; clear hr2 hg2 hb2))
  go_ret
  exact ⟨rfl, _, R2.out⟩
set_option maxRecDepth 100000 in
set_option maxHeartbeats 2000000 in
theorem rcount_b (w0 : World) (ga : Nat) (L : Value) (v : Value) (out : List Int) (k : Nat) (x : Itm) (hx : x.ok) (most : Int) (hm : 0 ≤ most) (w : World)
    (hnext : Calls Try.prog 38 #[.pointer (some ⟨ga, 0, none⟩)] w (NextDone w0 ga L v out x k 0))
    (hB : x.B ≠ []) :
    Calls Try.prog 29 #[.pointer (some ⟨ga, 0, none⟩), .int .i64 most] w (CDone w0 ga L k 2 out 0) := by
  have HNX := Lib.hid hnext
  have n0 := hx.N0
  have n1 := hx.N1
  obtain ⟨m, hmm⟩ : ∃ m, m = x.B.length := ⟨_, rfl⟩
  have HM := Lib.hid hmm
  obtain ⟨xn, hxn⟩ : ∃ n, n = x.N := ⟨_, rfl⟩
  rw [← hxn] at n0 n1
  have HN := Lib.hid hxn
  have OKX := Lib.hid hx
  have hm0 : 0 < m := by rw [hmm]; exact List.length_pos_iff.2 hB
  clear hnext hmm hxn hx hB
  by_cases h1 : xn < 0
  all_goals by_cases h2 : 4611686018427387903 < xn
  all_goals by_cases h3 : most < xn
  all_goals try omega
  all_goals
    go_enter Try.func29, Try.ntmps29
    go_wp2_with (first
      | (go_at_call 38; refine HNX.out.mono ?_; clear HNX; rintro e w1 ⟨q, c, rfl, hg, hr⟩; have hsz : (Try.prog.info? 40).map (fun i => i.size) = some (icells x q c).toArray.size := (by rw [item_size, List.size_toArray, icells_length OKX.out]); have hsz3 : (icells ⟨0, [], Fld.zero32⟩ none 0).toArray.size = (icells x q c).toArray.size := (by rw [List.size_toArray, List.size_toArray, icells_length item0_ok', icells_length OKX.out]); have HG := Lib.hid hg; have HR := Lib.hid hr; clear hg hr)
      | (refine wpList_alloc_arr rfl 40 rfl _ item_info ?_; have tk1 : True := trivial)
      | (have _t := tk1; refine wpList_store_row rfl 40 (.tmp 5) (.tmp 7) rfl _ _ rfl rfl 40 _ (heap_alloc_new _ _) hsz hsz3 (icells_all _ _ _) ?_; clear tk1 _t; rw [World.setRow_alloc_new]; obtain ⟨hr2, hg2, hb2⟩ := item_box HR.out HG.out; generalize w1.alloc (Obj.cells (icells x q c).toArray 40) = w2 at *; generalize w1.heap.size = gx at *; have c0 : w2.cell? ⟨gx, 0, none⟩ = some (.int .i64 xn) := (by rw [HN.out]; exact (hb2.cell 0).trans (icells_0 _ _ _)); have c1 : w2.cell? ⟨gx, 1, none⟩ = some (.slice q m c) := (by rw [HM.out]; exact (hb2.cell 1).trans (icells_1 _ _ _)); have c3 : w2.cell? ⟨ga, 3, none⟩ = some (.int .i64 0) := hr2.blk.cell 3; have tk0 : True := trivial; have R2 := Lib.hid hr2; have G2 := Lib.hid hg2; have I2 := Lib.hid hb2; clear hr2 hg2 hb2)
      | (have _t := tk0; go_at_call 30; clear tk0 _t; refine (rfails_0 R2.out I2.out _).mono ?_; rintro e w3 ⟨rfl, hr3, hb3⟩; have d0 : w3.cell? ⟨gx, 0, none⟩ = some (.int .i64 xn) := (by rw [HN.out]; exact (hb3.cell 0).trans (icells_0 _ _ _)); have d3 : w3.cell? ⟨ga, 3, none⟩ = some (.int .i64 2) := hr3.blk.cell 3; have R3 := Lib.hid hr3; clear hr3 hb3 c0 c1 c3; have tk9 : True := trivial)
      | (have _t := tk9; go_at_call 30; clear _t; refine (rfails_e R3.out (by decide) _).mono ?_; rintro e w4 ⟨rfl, rfl⟩))
    go_ret
    exact ⟨rfl, _, R3.out⟩
set_option maxRecDepth 100000 in
set_option maxHeartbeats 2000000 in
theorem rcount_d (w0 : World) (ga : Nat) (L : Value) (v : Value) (out : List Int) (k : Nat) (x : Itm) (hx : x.ok) (most : Int) (hm : 0 ≤ most) (w : World)
    (hnext : Calls Try.prog 38 #[.pointer (some ⟨ga, 0, none⟩)] w (NextDone w0 ga L v out x k 0))
    (hB : x.B = []) (hD : x.D ≠ Fld.zero32) :
    Calls Try.prog 29 #[.pointer (some ⟨ga, 0, none⟩), .int .i64 most] w (CDone w0 ga L k 2 out 0) := by
  have HNX := Lib.hid hnext
  have n0 := hx.N0
  have n1 := hx.N1
  obtain ⟨m, hmm⟩ : ∃ m, m = x.B.length := ⟨_, rfl⟩
  have HM := Lib.hid hmm
  obtain ⟨xn, hxn⟩ : ∃ n, n = x.N := ⟨_, rfl⟩
  rw [← hxn] at n0 n1
  have HN := Lib.hid hxn
  have OKX := Lib.hid hx
  have hm0 : m = 0 := by rw [hmm, hB]; rfl
  subst hm0
  have hdd : decide (x.D = Fld.zero32) = false := by rw [decide_eq_false_iff_not]; exact hD
  clear hnext hmm hxn hx hB hD
  by_cases h1 : xn < 0
  all_goals by_cases h2 : 4611686018427387903 < xn
  all_goals by_cases h3 : most < xn
  all_goals try omega
  all_goals
    go_enter Try.func29, Try.ntmps29
    go_wp2_with (first
      | (go_at_call 38; refine HNX.out.mono ?_; clear HNX; rintro e w1 ⟨q, c, rfl, hg, hr⟩; have hsz : (Try.prog.info? 40).map (fun i => i.size) = some (icells x q c).toArray.size := (by rw [item_size, List.size_toArray, icells_length OKX.out]); have hsz3 : (icells ⟨0, [], Fld.zero32⟩ none 0).toArray.size = (icells x q c).toArray.size := (by rw [List.size_toArray, List.size_toArray, icells_length item0_ok', icells_length OKX.out]); have HG := Lib.hid hg; have HR := Lib.hid hr; clear hg hr)
      | (refine wpList_alloc_arr rfl 40 rfl _ item_info ?_; have tk1 : True := trivial)
      | (have _t := tk1; refine wpList_store_row rfl 40 (.tmp 5) (.tmp 7) rfl _ _ rfl rfl 40 _ (heap_alloc_new _ _) hsz hsz3 (icells_all _ _ _) ?_; clear tk1 _t; rw [World.setRow_alloc_new]; obtain ⟨hr2, hg2, hb2⟩ := item_box HR.out HG.out; generalize w1.alloc (Obj.cells (icells x q c).toArray 40) = w2 at *; generalize w1.heap.size = gx at *; have c0 : w2.cell? ⟨gx, 0, none⟩ = some (.int .i64 xn) := (by rw [HN.out]; exact (hb2.cell 0).trans (icells_0 _ _ _)); have c1 : w2.cell? ⟨gx, 1, none⟩ = some (.slice q 0 c) := (by rw [HM.out]; exact (hb2.cell 1).trans (icells_1 _ _ _)); have c3 : w2.cell? ⟨ga, 3, none⟩ = some (.int .i64 0) := hr2.blk.cell 3; have ld := load_id OKX.out hb2.range; have bd := run_mkOp (P := Try.prog) w2 (parts := #[]) id_zero; have nq := (fun oa ob => run_neqId oa ob x.D Fld.zero32 OKX.out.len Fld.zero32_length w2); rw [hdd] at nq; have tk0 : True := trivial; have R2 := Lib.hid hr2; have G2 := Lib.hid hg2; have I2 := Lib.hid hb2; clear hr2 hg2 hb2)
      | (have _t := tk0; go_at_call 30; clear tk0 _t; refine (rfails_0 R2.out I2.out _).mono ?_; rintro e w3 ⟨rfl, hr3, hb3⟩; have d0 : w3.cell? ⟨gx, 0, none⟩ = some (.int .i64 xn) := (by rw [HN.out]; exact (hb3.cell 0).trans (icells_0 _ _ _)); have d3 : w3.cell? ⟨ga, 3, none⟩ = some (.int .i64 2) := hr3.blk.cell 3; have R3 := Lib.hid hr3; clear hr3 hb3 c0 c1 c3; have tk9 : True := trivial)
      | (have _t := tk9; go_at_call 30; clear _t; refine (rfails_e R3.out (by decide) _).mono ?_; rintro e w4 ⟨rfl, rfl⟩))
    go_ret
    exact ⟨rfl, _, R3.out⟩
set_option maxRecDepth 100000 in
set_option maxHeartbeats 2000000 in
theorem rcount_r5 (w0 : World) (ga : Nat) (L : Value) (v : Value) (out : List Int) (k : Nat) (x : Itm) (hx : x.ok) (most : Int) (hm : 0 ≤ most) (w : World)
    (hnext : Calls Try.prog 38 #[.pointer (some ⟨ga, 0, none⟩)] w (NextDone w0 ga L v out x k 0))
    (hB : x.B = []) (hD : x.D = Fld.zero32) (hr : x.N < 0 ∨ 4611686018427387903 < x.N) :
    Calls Try.prog 29 #[.pointer (some ⟨ga, 0, none⟩), .int .i64 most] w (CDone w0 ga L k 5 out 0) := by
  have HNX := Lib.hid hnext
  have n0 := hx.N0
  have n1 := hx.N1
  obtain ⟨m, hmm⟩ : ∃ m, m = x.B.length := ⟨_, rfl⟩
  have HM := Lib.hid hmm
  obtain ⟨xn, hxn⟩ : ∃ n, n = x.N := ⟨_, rfl⟩
  rw [← hxn] at n0 n1
  have HN := Lib.hid hxn
  have OKX := Lib.hid hx
  have hm0 : m = 0 := by rw [hmm, hB]; rfl
  subst hm0
  have hdd : decide (x.D = Fld.zero32) = true := by rw [hD]; exact decide_eq_true rfl
  rw [← hxn] at hr
  by_cases h1 : xn < 0
  all_goals by_cases h2 : 4611686018427387903 < xn
  all_goals by_cases h3 : most < xn
  all_goals try omega
  all_goals clear hnext hmm hxn hx hB hD hr
  all_goals
    go_enter Try.func29, Try.ntmps29
    go_wp2_with (first
      | (go_at_call 38; refine HNX.out.mono ?_; clear HNX; rintro e w1 ⟨q, c, rfl, hg, hr⟩; have hsz : (Try.prog.info? 40).map (fun i => i.size) = some (icells x q c).toArray.size := (by rw [item_size, List.size_toArray, icells_length OKX.out]); have hsz3 : (icells ⟨0, [], Fld.zero32⟩ none 0).toArray.size = (icells x q c).toArray.size := (by rw [List.size_toArray, List.size_toArray, icells_length item0_ok', icells_length OKX.out]); have HG := Lib.hid hg; have HR := Lib.hid hr; clear hg hr)
      | (refine wpList_alloc_arr rfl 40 rfl _ item_info ?_; have tk1 : True := trivial)
      | (have _t := tk1; refine wpList_store_row rfl 40 (.tmp 5) (.tmp 7) rfl _ _ rfl rfl 40 _ (heap_alloc_new _ _) hsz hsz3 (icells_all _ _ _) ?_; clear tk1 _t; rw [World.setRow_alloc_new]; obtain ⟨hr2, hg2, hb2⟩ := item_box HR.out HG.out; generalize w1.alloc (Obj.cells (icells x q c).toArray 40) = w2 at *; generalize w1.heap.size = gx at *; have c0 : w2.cell? ⟨gx, 0, none⟩ = some (.int .i64 xn) := (by rw [HN.out]; exact (hb2.cell 0).trans (icells_0 _ _ _)); have c1 : w2.cell? ⟨gx, 1, none⟩ = some (.slice q 0 c) := (by rw [HM.out]; exact (hb2.cell 1).trans (icells_1 _ _ _)); have c3 : w2.cell? ⟨ga, 3, none⟩ = some (.int .i64 0) := hr2.blk.cell 3; have ld := load_id OKX.out hb2.range; have bd := run_mkOp (P := Try.prog) w2 (parts := #[]) id_zero; have nq := (fun oa ob => run_neqId oa ob x.D Fld.zero32 OKX.out.len Fld.zero32_length w2); rw [hdd] at nq; have tk0 : True := trivial; have R2 := Lib.hid hr2; have G2 := Lib.hid hg2; have I2 := Lib.hid hb2; clear hr2 hg2 hb2)
      | (have _t := tk0; go_at_call 30; clear tk0 _t; refine (rfails_0 R2.out I2.out _).mono ?_; rintro e w3 ⟨rfl, hr3, hb3⟩; have d0 : w3.cell? ⟨gx, 0, none⟩ = some (.int .i64 xn) := (by rw [HN.out]; exact (hb3.cell 0).trans (icells_0 _ _ _)); have d3 : w3.cell? ⟨ga, 3, none⟩ = some (.int .i64 5) := hr3.blk.cell 3; have R3 := Lib.hid hr3; clear hr3 hb3 c0 c1 c3; have tk9 : True := trivial)
      | (have _t := tk9; go_at_call 30; clear _t; refine (rfails_e R3.out (by decide) _).mono ?_; rintro e w4 ⟨rfl, rfl⟩))
    go_ret
    exact ⟨rfl, _, R3.out⟩
set_option maxRecDepth 100000 in
set_option maxHeartbeats 2000000 in
theorem rcount_r3 (w0 : World) (ga : Nat) (L : Value) (v : Value) (out : List Int) (k : Nat) (x : Itm) (hx : x.ok) (most : Int) (hm : 0 ≤ most) (w : World)
    (hnext : Calls Try.prog 38 #[.pointer (some ⟨ga, 0, none⟩)] w (NextDone w0 ga L v out x k 0))
    (hB : x.B = []) (hD : x.D = Fld.zero32) (h0 : 0 ≤ x.N) (h4 : x.N ≤ 4611686018427387903) (hr : most < x.N) :
    Calls Try.prog 29 #[.pointer (some ⟨ga, 0, none⟩), .int .i64 most] w (CDone w0 ga L k 3 out 0) := by
  have HNX := Lib.hid hnext
  have n0 := hx.N0
  have n1 := hx.N1
  obtain ⟨m, hmm⟩ : ∃ m, m = x.B.length := ⟨_, rfl⟩
  have HM := Lib.hid hmm
  obtain ⟨xn, hxn⟩ : ∃ n, n = x.N := ⟨_, rfl⟩
  rw [← hxn] at n0 n1
  have HN := Lib.hid hxn
  have OKX := Lib.hid hx
  have hm0 : m = 0 := by rw [hmm, hB]; rfl
  subst hm0
  have hdd : decide (x.D = Fld.zero32) = true := by rw [hD]; exact decide_eq_true rfl
  rw [← hxn] at h0 h4 hr
  have h1 : ¬ xn < 0 := by omega
  have h2 : ¬ 4611686018427387903 < xn := by omega
  have h3 : most < xn := by omega
  all_goals clear hnext hmm hxn hx hB hD h0 h4 hr
  all_goals
    go_enter Try.func29, Try.ntmps29
    go_wp2_with (first
      | (go_at_call 38; refine HNX.out.mono ?_; clear HNX; rintro e w1 ⟨q, c, rfl, hg, hr⟩; have hsz : (Try.prog.info? 40).map (fun i => i.size) = some (icells x q c).toArray.size := (by rw [item_size, List.size_toArray, icells_length OKX.out]); have hsz3 : (icells ⟨0, [], Fld.zero32⟩ none 0).toArray.size = (icells x q c).toArray.size := (by rw [List.size_toArray, List.size_toArray, icells_length item0_ok', icells_length OKX.out]); have HG := Lib.hid hg; have HR := Lib.hid hr; clear hg hr)
      | (refine wpList_alloc_arr rfl 40 rfl _ item_info ?_; have tk1 : True := trivial)
      | (have _t := tk1; refine wpList_store_row rfl 40 (.tmp 5) (.tmp 7) rfl _ _ rfl rfl 40 _ (heap_alloc_new _ _) hsz hsz3 (icells_all _ _ _) ?_; clear tk1 _t; rw [World.setRow_alloc_new]; obtain ⟨hr2, hg2, hb2⟩ := item_box HR.out HG.out; generalize w1.alloc (Obj.cells (icells x q c).toArray 40) = w2 at *; generalize w1.heap.size = gx at *; have c0 : w2.cell? ⟨gx, 0, none⟩ = some (.int .i64 xn) := (by rw [HN.out]; exact (hb2.cell 0).trans (icells_0 _ _ _)); have c1 : w2.cell? ⟨gx, 1, none⟩ = some (.slice q 0 c) := (by rw [HM.out]; exact (hb2.cell 1).trans (icells_1 _ _ _)); have c3 : w2.cell? ⟨ga, 3, none⟩ = some (.int .i64 0) := hr2.blk.cell 3; have ld := load_id OKX.out hb2.range; have bd := run_mkOp (P := Try.prog) w2 (parts := #[]) id_zero; have nq := (fun oa ob => run_neqId oa ob x.D Fld.zero32 OKX.out.len Fld.zero32_length w2); rw [hdd] at nq; have tk0 : True := trivial; have R2 := Lib.hid hr2; have G2 := Lib.hid hg2; have I2 := Lib.hid hb2; clear hr2 hg2 hb2)
      | (have _t := tk0; go_at_call 30; clear tk0 _t; refine (rfails_0 R2.out I2.out _).mono ?_; rintro e w3 ⟨rfl, hr3, hb3⟩; have d0 : w3.cell? ⟨gx, 0, none⟩ = some (.int .i64 xn) := (by rw [HN.out]; exact (hb3.cell 0).trans (icells_0 _ _ _)); have d3 : w3.cell? ⟨ga, 3, none⟩ = some (.int .i64 3) := hr3.blk.cell 3; have R3 := Lib.hid hr3; clear hr3 hb3 c0 c1 c3; have tk9 : True := trivial)
      | (have _t := tk9; go_at_call 30; clear _t; refine (rfails_e R3.out (by decide) _).mono ?_; rintro e w4 ⟨rfl, rfl⟩))
    go_ret
    exact ⟨rfl, _, R3.out⟩
end Go.Proofs.Ytgakmkglejddeaa
