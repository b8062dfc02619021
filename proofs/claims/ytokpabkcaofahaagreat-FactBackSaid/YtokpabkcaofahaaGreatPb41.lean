/-
  The program's alike; bytes compared (written by mkalike9.py).
  The program's check: may a fact be?
-/
import Derived.Test.YtokpabkcaofahaaGreatPb16
import Derived.Test.YtokpabkcaofahaaGreatPb26
namespace Go.Proofs.YtokpabkcaofahaaGreat
section
set_option linter.unusedSimpArgs false
set_option linter.unusedVariables false
open Go.RowKit Sha Fct
attribute [local go_sem ↓] execOp_loadBal execOp_loadId execOp_loadFact execOp_conv execOp_eqlStr execOp_eqlId execOp_boxFact
set_option maxHeartbeats 1000000 in
theorem bytesEq_any (xs ys : List Int) (p q : Option Addr) (n m c d : Nat) (w : World) (hx : ∀ n ∈ xs, 0 ≤ n ∧ n ≤ 255) (hy : ∀ n ∈ ys, 0 ≤ n ∧ n ≤ 255) (h1 : xs.length = n) (h2 : ys.length = m) (ha : At w p (xs.map v8)) (hb : At w q (ys.map v8)) :
    Calls Tryz.prog 66 #[.slice p n c, .slice q m d] w fun e w' => e = .returned (.bool (decide (xs = ys))) ∧ w = w' := by
  have ca := run_convOp w xs n p c h1 ha
  have cb := run_convOp w ys m q d h2 hb
  have es := fun o1 o2 => run_eqlStr o1 o2 xs ys hx hy w
  generalize strOfNums xs = sx at *
  generalize strOfNums ys = sy at *
  obtain ⟨bb, hbb⟩ : ∃ b, b = decide (xs = ys) := ⟨_, rfl⟩
  rw [← hbb] at es ⊢
  clear h1 h2 ha hb hx hy hbb
  go_enter Tryz.func66, Tryz.ntmps66
  go_wp2_with fail
  go_ret
  exact ⟨rfl, rfl⟩
set_option maxRecDepth 100000 in
set_option maxHeartbeats 4000000 in
theorem alike_K (x y : Fac) (q r : Option Addr) (c d : Nat) (w : World) (hx : sF.Good w x q c) (hy : sF.Good w y r d) (nK : ¬ x.K = y.K) :
    Calls Tryz.prog 81 #[.agg (fcells x q c).toArray, .agg (fcells y r d).toArray] w fun e w' => e = .returned (.bool false) ∧ Below w.heap.size w w' := by
  have hF := f2_of hx hy
  have bx := run_boxOp (P := Tryz.prog) (t := 28) (cs := (fcells x q c).toArray) w
  have by_ := run_boxOp (P := Tryz.prog) (t := 28) (cs := (fcells y r d).toArray) (w.alloc (.cells (fcells x q c).toArray 28))
  have hz1 : (w.alloc (Obj.cells (fcells x q c).toArray 28)).heap.size = w.heap.size + 1 := World.size_alloc ..
  rw [hz1] at by_
  obtain ⟨w2, hw2⟩ : ∃ v, v = (w.alloc (.cells (fcells x q c).toArray 28)).alloc (.cells (fcells y r d).toArray 28) := ⟨_, rfl⟩
  rw [← hw2] at hF by_
  have a0 : w2.cell? ⟨w.heap.size, 0, none⟩ = some (.int .i64 x.K) := (hF.a.cell 0).trans (fcells_K _ _ _)
  have b0 : w2.cell? ⟨w.heap.size + 1, 0, none⟩ = some (.int .i64 y.K) := (hF.b.cell 0).trans (fcells_K _ _ _)
  have tK : (x.K == y.K) = false := by rw [beq_eq_false_iff_ne]; exact nK
  have HB := Lib.hid hF.below
  have HW := Lib.hid hw2
  clear hF hw2 hx hy  nK
  go_enter Tryz.func81, Tryz.ntmps81
  go_wp2_with fail
  go_ret
  exact ⟨rfl, HB.out⟩
set_option maxRecDepth 100000 in
set_option maxHeartbeats 4000000 in
theorem alike_S (x y : Fac) (q r : Option Addr) (c d : Nat) (w : World) (hx : sF.Good w x q c) (hy : sF.Good w y r d) (eK : x.K = y.K) (nS : ¬ x.S = y.S) :
    Calls Tryz.prog 81 #[.agg (fcells x q c).toArray, .agg (fcells y r d).toArray] w fun e w' => e = .returned (.bool false) ∧ Below w.heap.size w w' := by
  have hF := f2_of hx hy
  have bx := run_boxOp (P := Tryz.prog) (t := 28) (cs := (fcells x q c).toArray) w
  have by_ := run_boxOp (P := Tryz.prog) (t := 28) (cs := (fcells y r d).toArray) (w.alloc (.cells (fcells x q c).toArray 28))
  have hz1 : (w.alloc (Obj.cells (fcells x q c).toArray 28)).heap.size = w.heap.size + 1 := World.size_alloc ..
  rw [hz1] at by_
  obtain ⟨w2, hw2⟩ : ∃ v, v = (w.alloc (.cells (fcells x q c).toArray 28)).alloc (.cells (fcells y r d).toArray 28) := ⟨_, rfl⟩
  rw [← hw2] at hF by_
  have a0 : w2.cell? ⟨w.heap.size, 0, none⟩ = some (.int .i64 x.K) := (hF.a.cell 0).trans (fcells_K _ _ _)
  have b0 : w2.cell? ⟨w.heap.size + 1, 0, none⟩ = some (.int .i64 y.K) := (hF.b.cell 0).trans (fcells_K _ _ _)
  have a1 : w2.cell? ⟨w.heap.size, 1, none⟩ = some (.int .i64 x.S) := (hF.a.cell 1).trans (fcells_S _ _ _)
  have b1 : w2.cell? ⟨w.heap.size + 1, 1, none⟩ = some (.int .i64 y.S) := (hF.b.cell 1).trans (fcells_S _ _ _)
  have tK : (x.K == y.K) = true := by rw [beq_iff_eq]; exact eK
  have tS : (x.S == y.S) = false := by rw [beq_eq_false_iff_ne]; exact nS
  have HB := Lib.hid hF.below
  have HW := Lib.hid hw2
  clear hF hw2 hx hy eK nS
  go_enter Tryz.func81, Tryz.ntmps81
  go_wp2_with fail
  go_ret
  exact ⟨rfl, HB.out⟩
set_option maxRecDepth 100000 in
set_option maxHeartbeats 4000000 in
theorem alike_H (x y : Fac) (q r : Option Addr) (c d : Nat) (w : World) (hx : sF.Good w x q c) (hy : sF.Good w y r d) (eK : x.K = y.K) (eS : x.S = y.S) (nH : ¬ x.H = y.H) :
    Calls Tryz.prog 81 #[.agg (fcells x q c).toArray, .agg (fcells y r d).toArray] w fun e w' => e = .returned (.bool false) ∧ Below w.heap.size w w' := by
  have hF := f2_of hx hy
  have bx := run_boxOp (P := Tryz.prog) (t := 28) (cs := (fcells x q c).toArray) w
  have by_ := run_boxOp (P := Tryz.prog) (t := 28) (cs := (fcells y r d).toArray) (w.alloc (.cells (fcells x q c).toArray 28))
  have hz1 : (w.alloc (Obj.cells (fcells x q c).toArray 28)).heap.size = w.heap.size + 1 := World.size_alloc ..
  rw [hz1] at by_
  obtain ⟨w2, hw2⟩ : ∃ v, v = (w.alloc (.cells (fcells x q c).toArray 28)).alloc (.cells (fcells y r d).toArray 28) := ⟨_, rfl⟩
  rw [← hw2] at hF by_
  have a0 : w2.cell? ⟨w.heap.size, 0, none⟩ = some (.int .i64 x.K) := (hF.a.cell 0).trans (fcells_K _ _ _)
  have b0 : w2.cell? ⟨w.heap.size + 1, 0, none⟩ = some (.int .i64 y.K) := (hF.b.cell 0).trans (fcells_K _ _ _)
  have a1 : w2.cell? ⟨w.heap.size, 1, none⟩ = some (.int .i64 x.S) := (hF.a.cell 1).trans (fcells_S _ _ _)
  have b1 : w2.cell? ⟨w.heap.size + 1, 1, none⟩ = some (.int .i64 y.S) := (hF.b.cell 1).trans (fcells_S _ _ _)
  have a2 : w2.cell? ⟨w.heap.size, 2, none⟩ = some (.int .i64 x.H) := (hF.a.cell 2).trans (fcells_H _ _ _)
  have b2 : w2.cell? ⟨w.heap.size + 1, 2, none⟩ = some (.int .i64 y.H) := (hF.b.cell 2).trans (fcells_H _ _ _)
  have tK : (x.K == y.K) = true := by rw [beq_iff_eq]; exact eK
  have tS : (x.S == y.S) = true := by rw [beq_iff_eq]; exact eS
  have tH : (x.H == y.H) = false := by rw [beq_eq_false_iff_ne]; exact nH
  have HB := Lib.hid hF.below
  have HW := Lib.hid hw2
  clear hF hw2 hx hy eK eS nH
  go_enter Tryz.func81, Tryz.ntmps81
  go_wp2_with fail
  go_ret
  exact ⟨rfl, HB.out⟩
set_option maxRecDepth 100000 in
set_option maxHeartbeats 4000000 in
theorem alike_N (x y : Fac) (q r : Option Addr) (c d : Nat) (w : World) (hx : sF.Good w x q c) (hy : sF.Good w y r d) (eK : x.K = y.K) (eS : x.S = y.S) (eH : x.H = y.H) (nN : ¬ x.N = y.N) :
    Calls Tryz.prog 81 #[.agg (fcells x q c).toArray, .agg (fcells y r d).toArray] w fun e w' => e = .returned (.bool false) ∧ Below w.heap.size w w' := by
  have hF := f2_of hx hy
  have bx := run_boxOp (P := Tryz.prog) (t := 28) (cs := (fcells x q c).toArray) w
  have by_ := run_boxOp (P := Tryz.prog) (t := 28) (cs := (fcells y r d).toArray) (w.alloc (.cells (fcells x q c).toArray 28))
  have hz1 : (w.alloc (Obj.cells (fcells x q c).toArray 28)).heap.size = w.heap.size + 1 := World.size_alloc ..
  rw [hz1] at by_
  obtain ⟨w2, hw2⟩ : ∃ v, v = (w.alloc (.cells (fcells x q c).toArray 28)).alloc (.cells (fcells y r d).toArray 28) := ⟨_, rfl⟩
  rw [← hw2] at hF by_
  have a0 : w2.cell? ⟨w.heap.size, 0, none⟩ = some (.int .i64 x.K) := (hF.a.cell 0).trans (fcells_K _ _ _)
  have b0 : w2.cell? ⟨w.heap.size + 1, 0, none⟩ = some (.int .i64 y.K) := (hF.b.cell 0).trans (fcells_K _ _ _)
  have a1 : w2.cell? ⟨w.heap.size, 1, none⟩ = some (.int .i64 x.S) := (hF.a.cell 1).trans (fcells_S _ _ _)
  have b1 : w2.cell? ⟨w.heap.size + 1, 1, none⟩ = some (.int .i64 y.S) := (hF.b.cell 1).trans (fcells_S _ _ _)
  have a2 : w2.cell? ⟨w.heap.size, 2, none⟩ = some (.int .i64 x.H) := (hF.a.cell 2).trans (fcells_H _ _ _)
  have b2 : w2.cell? ⟨w.heap.size + 1, 2, none⟩ = some (.int .i64 y.H) := (hF.b.cell 2).trans (fcells_H _ _ _)
  have lc : (loadOp 23 (.pointer (some ⟨w.heap.size, 3, none⟩))).run Tryz.prog w2 = .ok (.value (.agg #[.int .i64 x.N, .int .i64 x.O])) w2 := load_fbal (o := 0) hF.a.range
  have ld : (loadOp 23 (.pointer (some ⟨w.heap.size + 1, 3, none⟩))).run Tryz.prog w2 = .ok (.value (.agg #[.int .i64 y.N, .int .i64 y.O])) w2 := load_fbal (o := 0) hF.b.range
  have tK : (x.K == y.K) = true := by rw [beq_iff_eq]; exact eK
  have tS : (x.S == y.S) = true := by rw [beq_iff_eq]; exact eS
  have tH : (x.H == y.H) = true := by rw [beq_iff_eq]; exact eH
  have tN : (x.N == y.N) = false := by rw [beq_eq_false_iff_ne]; exact nN
  have HB := Lib.hid hF.below
  have HW := Lib.hid hw2
  clear hF hw2 hx hy eK eS eH nN
  go_enter Tryz.func81, Tryz.ntmps81
  go_wp2_with fail
  go_ret
  exact ⟨rfl, HB.out⟩
set_option maxRecDepth 100000 in
set_option maxHeartbeats 4000000 in
theorem alike_O (x y : Fac) (q r : Option Addr) (c d : Nat) (w : World) (hx : sF.Good w x q c) (hy : sF.Good w y r d) (eK : x.K = y.K) (eS : x.S = y.S) (eH : x.H = y.H) (eN : x.N = y.N) (nO : ¬ x.O = y.O) :
    Calls Tryz.prog 81 #[.agg (fcells x q c).toArray, .agg (fcells y r d).toArray] w fun e w' => e = .returned (.bool false) ∧ Below w.heap.size w w' := by
  have hF := f2_of hx hy
  have bx := run_boxOp (P := Tryz.prog) (t := 28) (cs := (fcells x q c).toArray) w
  have by_ := run_boxOp (P := Tryz.prog) (t := 28) (cs := (fcells y r d).toArray) (w.alloc (.cells (fcells x q c).toArray 28))
  have hz1 : (w.alloc (Obj.cells (fcells x q c).toArray 28)).heap.size = w.heap.size + 1 := World.size_alloc ..
  rw [hz1] at by_
  obtain ⟨w2, hw2⟩ : ∃ v, v = (w.alloc (.cells (fcells x q c).toArray 28)).alloc (.cells (fcells y r d).toArray 28) := ⟨_, rfl⟩
  rw [← hw2] at hF by_
  have a0 : w2.cell? ⟨w.heap.size, 0, none⟩ = some (.int .i64 x.K) := (hF.a.cell 0).trans (fcells_K _ _ _)
  have b0 : w2.cell? ⟨w.heap.size + 1, 0, none⟩ = some (.int .i64 y.K) := (hF.b.cell 0).trans (fcells_K _ _ _)
  have a1 : w2.cell? ⟨w.heap.size, 1, none⟩ = some (.int .i64 x.S) := (hF.a.cell 1).trans (fcells_S _ _ _)
  have b1 : w2.cell? ⟨w.heap.size + 1, 1, none⟩ = some (.int .i64 y.S) := (hF.b.cell 1).trans (fcells_S _ _ _)
  have a2 : w2.cell? ⟨w.heap.size, 2, none⟩ = some (.int .i64 x.H) := (hF.a.cell 2).trans (fcells_H _ _ _)
  have b2 : w2.cell? ⟨w.heap.size + 1, 2, none⟩ = some (.int .i64 y.H) := (hF.b.cell 2).trans (fcells_H _ _ _)
  have lc : (loadOp 23 (.pointer (some ⟨w.heap.size, 3, none⟩))).run Tryz.prog w2 = .ok (.value (.agg #[.int .i64 x.N, .int .i64 x.O])) w2 := load_fbal (o := 0) hF.a.range
  have ld : (loadOp 23 (.pointer (some ⟨w.heap.size + 1, 3, none⟩))).run Tryz.prog w2 = .ok (.value (.agg #[.int .i64 y.N, .int .i64 y.O])) w2 := load_fbal (o := 0) hF.b.range
  have tK : (x.K == y.K) = true := by rw [beq_iff_eq]; exact eK
  have tS : (x.S == y.S) = true := by rw [beq_iff_eq]; exact eS
  have tH : (x.H == y.H) = true := by rw [beq_iff_eq]; exact eH
  have tN : (x.N == y.N) = true := by rw [beq_iff_eq]; exact eN
  have tO : (x.O == y.O) = false := by rw [beq_eq_false_iff_ne]; exact nO
  have HB := Lib.hid hF.below
  have HW := Lib.hid hw2
  clear hF hw2 hx hy eK eS eH eN nO
  go_enter Tryz.func81, Tryz.ntmps81
  go_wp2_with fail
  go_ret
  exact ⟨rfl, HB.out⟩
set_option maxRecDepth 100000 in
set_option maxHeartbeats 4000000 in
theorem alike_D (x y : Fac) (q r : Option Addr) (c d : Nat) (w : World) (hx : sF.Good w x q c) (hy : sF.Good w y r d) (eK : x.K = y.K) (eS : x.S = y.S) (eH : x.H = y.H) (eN : x.N = y.N) (eO : x.O = y.O) :
    Calls Tryz.prog 81 #[.agg (fcells x q c).toArray, .agg (fcells y r d).toArray] w fun e w' => e = .returned (.bool (decide (x.D = y.D) && decide (x.B = y.B))) ∧ Below w.heap.size w w' := by
  have hF := f2_of hx hy
  have bx := run_boxOp (P := Tryz.prog) (t := 28) (cs := (fcells x q c).toArray) w
  have by_ := run_boxOp (P := Tryz.prog) (t := 28) (cs := (fcells y r d).toArray) (w.alloc (.cells (fcells x q c).toArray 28))
  have hz1 : (w.alloc (Obj.cells (fcells x q c).toArray 28)).heap.size = w.heap.size + 1 := World.size_alloc ..
  rw [hz1] at by_
  obtain ⟨w2, hw2⟩ : ∃ v, v = (w.alloc (.cells (fcells x q c).toArray 28)).alloc (.cells (fcells y r d).toArray 28) := ⟨_, rfl⟩
  rw [← hw2] at hF by_
  have a0 : w2.cell? ⟨w.heap.size, 0, none⟩ = some (.int .i64 x.K) := (hF.a.cell 0).trans (fcells_K _ _ _)
  have b0 : w2.cell? ⟨w.heap.size + 1, 0, none⟩ = some (.int .i64 y.K) := (hF.b.cell 0).trans (fcells_K _ _ _)
  have a1 : w2.cell? ⟨w.heap.size, 1, none⟩ = some (.int .i64 x.S) := (hF.a.cell 1).trans (fcells_S _ _ _)
  have b1 : w2.cell? ⟨w.heap.size + 1, 1, none⟩ = some (.int .i64 y.S) := (hF.b.cell 1).trans (fcells_S _ _ _)
  have a2 : w2.cell? ⟨w.heap.size, 2, none⟩ = some (.int .i64 x.H) := (hF.a.cell 2).trans (fcells_H _ _ _)
  have b2 : w2.cell? ⟨w.heap.size + 1, 2, none⟩ = some (.int .i64 y.H) := (hF.b.cell 2).trans (fcells_H _ _ _)
  have lc : (loadOp 23 (.pointer (some ⟨w.heap.size, 3, none⟩))).run Tryz.prog w2 = .ok (.value (.agg #[.int .i64 x.N, .int .i64 x.O])) w2 := load_fbal (o := 0) hF.a.range
  have ld : (loadOp 23 (.pointer (some ⟨w.heap.size + 1, 3, none⟩))).run Tryz.prog w2 = .ok (.value (.agg #[.int .i64 y.N, .int .i64 y.O])) w2 := load_fbal (o := 0) hF.b.range
  have tK : (x.K == y.K) = true := by rw [beq_iff_eq]; exact eK
  have tS : (x.S == y.S) = true := by rw [beq_iff_eq]; exact eS
  have tH : (x.H == y.H) = true := by rw [beq_iff_eq]; exact eH
  have tN : (x.N == y.N) = true := by rw [beq_iff_eq]; exact eN
  have tO : (x.O == y.O) = true := by rw [beq_iff_eq]; exact eO
  have la : (loadOp 25 (.pointer (some ⟨w.heap.size, 5, none⟩))).run Tryz.prog w2 = .ok (.value (.agg (x.D.map v8).toArray)) w2 := load_fid (o := 0) hF.x.ok.len hF.a.range
  have lb : (loadOp 25 (.pointer (some ⟨w.heap.size + 1, 5, none⟩))).run Tryz.prog w2 = .ok (.value (.agg (y.D.map v8).toArray)) w2 := load_fid (o := 0) hF.y.ok.len hF.b.range
  obtain ⟨m, hm⟩ : ∃ m, m = x.B.length := ⟨_, rfl⟩
  obtain ⟨k, hk⟩ : ∃ k, k = y.B.length := ⟨_, rfl⟩
  have a5 : w2.cell? ⟨w.heap.size, 37, none⟩ = some (.slice q m c) := by rw [hm]; exact (hF.a.cell 37).trans (fcells_B hF.x.ok.len _ _)
  have b5 : w2.cell? ⟨w.heap.size + 1, 37, none⟩ = some (.slice r k d) := by rw [hk]; exact (hF.b.cell 37).trans (fcells_B hF.y.ok.len _ _)
  have HEQ := Lib.hid (bytesEq_any x.B y.B q r m k c d w2 hF.x.ok.B hF.y.ok.B hm.symm hk.symm hF.x.at_ hF.y.at_)
  obtain ⟨bb, hbb⟩ : ∃ b, b = decide (x.B = y.B) := ⟨_, rfl⟩
  rw [← hbb] at HEQ
  obtain ⟨bd, hbd⟩ : ∃ b, b = decide (x.D = y.D) := ⟨_, rfl⟩
  have ei := fun o1 o2 => run_eqlId o1 o2 x.D y.D hF.x.ok.len hF.y.ok.len bd hbd w2
  rw [← hbb, ← hbd]
  clear hm hk hbb hbd
  have HB := Lib.hid hF.below
  have HW := Lib.hid hw2
  clear hF hw2 hx hy eK eS eH eN eO
  cases bd with
  | true =>
    go_enter Tryz.func81, Tryz.ntmps81
    go_wp2_with (go_at_call 66; refine HEQ.out.mono ?_; rintro e w3 ⟨rfl, rfl⟩)
    go_ret
    exact ⟨by simp, HB.out⟩
  | false =>
    go_enter Tryz.func81, Tryz.ntmps81
    go_wp2_with (go_at_call 66; refine HEQ.out.mono ?_; rintro e w3 ⟨rfl, rfl⟩)
    go_ret
    exact ⟨by simp, HB.out⟩
theorem alike_any (x y : Fac) (q r : Option Addr) (c d : Nat) (w : World) (hx : sF.Good w x q c) (hy : sF.Good w y r d) :
    Calls Tryz.prog 81 #[.agg (fcells x q c).toArray, .agg (fcells y r d).toArray] w fun e w' => e = .returned (.bool (decide (x = y))) ∧ Below w.heap.size w w' := by
  rw [fac_ext]
  by_cases eK : x.K = y.K
  · by_cases eS : x.S = y.S
    · by_cases eH : x.H = y.H
      · by_cases eN : x.N = y.N
        · by_cases eO : x.O = y.O
          · simp only [decide_eq_true eK, decide_eq_true eS, decide_eq_true eH, decide_eq_true eN, decide_eq_true eO, Bool.true_and]
            exact alike_D x y q r c d w hx hy eK eS eH eN eO
          · simp only [decide_eq_false eO, Bool.and_false, Bool.false_and]
            exact alike_O x y q r c d w hx hy eK eS eH eN eO
        · simp only [decide_eq_false eN, Bool.and_false, Bool.false_and]
          exact alike_N x y q r c d w hx hy eK eS eH eN
      · simp only [decide_eq_false eH, Bool.and_false, Bool.false_and]
        exact alike_H x y q r c d w hx hy eK eS eH
    · simp only [decide_eq_false eS, Bool.and_false, Bool.false_and]
      exact alike_S x y q r c d w hx hy eK eS
  · simp only [decide_eq_false eK, Bool.false_and]
    exact alike_K x y q r c d w hx hy eK
end
section
set_option linter.unusedSimpArgs false
set_option linter.unusedVariables false
open Go.RowKit Sha Fct
open Fld (Itm)
theorem facL_of (x : Fac) (hk : 1 ≤ x.K ∧ x.K < 11) : facL (hasL x.K) (items x) (kindF x.K) = of x.K (items x) := by
  rcases kinds hk with e | e | e | e | e | e | e | e | e | e <;> simp [hasL, items, e, facL, layF, kindF, of, iN, iD, iB]
theorem bnd_can (x : Fac) (hk : 1 ≤ x.K ∧ x.K < 11) : (bndL (hasL x.K) (items x) && decide (of x.K (items x) = x)) = can x := by
  by_cases h : of x.K (items x) = x
  · rw [decide_eq_true h, Bool.and_true, Bool.eq_iff_iff, can_iff]
    have hB : x.K ≠ 3 → x.K ≠ 8 → x.K ≠ 9 → x.B = [] := by
      intro h3 h8 h9
      rcases kinds hk with e | e | e | e | e | e | e | e | e | e <;> rw [← h] <;> simp [of, items, e] at * <;> omega
    constructor
    · intro hb
      rcases kinds hk with e | e | e | e | e | e | e | e | e | e <;> simp [hasL, items, e, bndL, inB, iN, iD, iB] at hb hB
      · exact ⟨hk, h, by omega, by omega, by omega, by rw [hB]; simp⟩
      · exact ⟨hk, h, fun _ _ => by unfold setOk; omega, by omega, by omega, by rw [hB]; simp⟩
      · exact ⟨hk, h, by omega, by omega, by omega, by rw [if_pos e]; omega⟩
      · exact ⟨hk, h, fun _ _ => by unfold setOk; omega, by omega, by omega, by rw [hB]; simp⟩
      · exact ⟨hk, h, fun _ _ => by unfold setOk; omega, fun _ => by unfold nodeOk; omega, by omega, by rw [hB]; simp⟩
      · exact ⟨hk, h, fun _ _ => by unfold setOk; omega, fun _ => by unfold nodeOk; omega, by omega, by rw [hB]; simp⟩
      · exact ⟨hk, h, fun _ _ => by unfold setOk; omega, by omega, fun _ => by unfold setOk nodeOk; omega, by rw [hB]; simp⟩
      · exact ⟨hk, h, fun _ _ => by unfold setOk; omega, by omega, fun _ => by unfold setOk nodeOk; omega, by rw [if_neg (by omega)]; omega⟩
      · exact ⟨hk, h, fun _ _ => by unfold setOk; omega, by omega, by omega, by rw [if_neg (by omega)]; omega⟩
      · exact ⟨hk, h, fun _ _ => by unfold setOk; omega, by omega, by omega, by rw [hB]; simp⟩
    · intro hc
      obtain ⟨_, _, h1, h2, h3, h4⟩ := hc
      unfold setOk at h1
      unfold nodeOk at h2
      unfold setOk nodeOk at h3
      rcases kinds hk with e | e | e | e | e | e | e | e | e | e <;> simp [e] at h1 h2 h3 h4 <;> simp [hasL, items, e, bndL, inB, iN, iD, iB] <;> omega
  · rw [decide_eq_false h, Bool.and_false]
    symm
    rw [Bool.eq_false_iff]
    exact fun hc => h ((can_iff x).1 hc).pure_
section
variable (ρ : Operand → Value) (dst : Option Tmp) (x y : Operand) (ty : TypeId) (pos : String) (after : Array Edge) (guard : Option (Nat × Bool))
theorem execOp_allocForm : execOp ρ { dst := dst, op := .alloc 79, type := ty, pos := pos, after := after, guard := guard } = allocOp 79 := by unfold allocOp; rfl
theorem execOp_storeForm : execOp ρ { dst := dst, op := .store 79 x y, type := ty, pos := pos, after := after, guard := guard } = storeOp 79 (ρ x) (ρ y) := by unfold storeOp; rfl
theorem execOp_loadForm : execOp ρ { dst := dst, op := .load 79 x, type := ty, pos := pos, after := after, guard := guard } = loadOp 79 (ρ x) := by unfold loadOp; rfl
end
abbrev emp : ByteArray := ⟨#[]⟩
theorem form_zero1 : (Tryz.prog.info? 79).map (fun i => i.zero) = some (some (.agg #[.string emp, .string emp])) := by kernel_rfl
theorem form_size1 (s t : ByteArray) : (Tryz.prog.info? 79).map (fun i => i.size) = some (#[Value.string s, Value.string t] : Array Value).size := by kernel_rfl
theorem alloc_form (w : World) : (allocOp 79).run Tryz.prog w = .ok (.value (.pointer (some ⟨w.heap.size, 0, none⟩))) (w.alloc (.cells #[.string emp, .string emp] 79)) := run_allocOp w form_zero1
theorem store_form1 (w : World) (s t : ByteArray) : (storeOp 79 (.pointer (some ⟨w.heap.size, 0, none⟩)) (.agg #[.string s, .string t])).run Tryz.prog (w.alloc (.cells #[.string emp, .string emp] 79)) = .ok .skip (w.alloc (.cells #[.string s, .string t] 79)) :=
  run_storeNew w (form_size1 s t) rfl (by simp [Value.oneCell'])
theorem load_form {w : World} {g : Nat} {s t : ByteArray} (h : Blk w g [.string s, .string t] 79) : (loadOp 79 (.pointer (some ⟨g, 0, none⟩))).run Tryz.prog w = .ok (.value (.agg #[.string s, .string t])) w :=
  run_loadRow h Tryz.underlying79 rfl (form_size1 s t)
attribute [local go_sem ↓] execOp_boxFact execOp_allocForm execOp_storeForm execOp_loadForm execOp_loadFact
set_option maxRecDepth 100000 in
set_option maxHeartbeats 2000000 in
theorem pcheck_no (x : Fac) (q : Option Addr) (c : Nat) (m : Value) (w : World) (hm : Tab w m) (hx : sF.Good w x q c) (hk : ¬ (1 ≤ x.K ∧ x.K < 11)) :
    Calls Tryz.prog 42 #[m, .agg (fcells x q c).toArray] w fun e w' => e = .returned (.int .i64 (Fct.check x)) ∧ Below w.heap.size w w' := by
  have HQ := Lib.hid (show Fct.check x = 2 from check_no fun h => hk h.kind)
  have bx := run_boxOp (P := Tryz.prog) (t := 28) (cs := (fcells x q c).toArray) w
  have hb1 := (Below.refl w.heap.size w).alloc (Nat.le_refl _) (.cells (fcells x q c).toArray 28)
  have hk1 : Blk (w.alloc (.cells (fcells x q c).toArray 28)) w.heap.size (fcells x q c) 28 := Blk.new w (fcells x q c).toArray 28
  obtain ⟨w1, hw1⟩ : ∃ v, v = w.alloc (.cells (fcells x q c).toArray 28) := ⟨_, rfl⟩
  rw [← hw1] at bx hb1 hk1
  have lk := look_no (hm.below hb1) x.K hk true
  have c0 : w1.cell? ⟨w.heap.size, 0, none⟩ = some (.int .i64 x.K) := (hk1.cell 0).trans (fcells_K x q c)
  have al := alloc_form w1
  have st := store_form1 w1 emp emp
  have HB2 := Lib.hid (hb1.alloc hb1.size (.cells #[.string emp, .string emp] 79))
  clear hw1 hb1 hk1 hm hx hk
  generalize w1.alloc (.cells #[.string emp, .string emp] 79) = w2 at *
  go_enter Tryz.func42, Tryz.ntmps42
  go_wp2_with fail
  go_ret
  exact ⟨by rw [HQ.out]; rfl, HB2.out⟩
set_option maxRecDepth 100000 in
set_option maxHeartbeats 4000000 in
theorem pcheck_yes (x : Fac) (q : Option Addr) (c : Nat) (m : Value) (w : World) (hm : Tab w m) (hx : sF.Good w x q c) (hk : 1 ≤ x.K ∧ x.K < 11) :
    Calls Tryz.prog 42 #[m, .agg (fcells x q c).toArray] w fun e w' => e = .returned (.int .i64 (Fct.check x)) ∧ Below w.heap.size w w' := by
  have bx := run_boxOp (P := Tryz.prog) (t := 28) (cs := (fcells x q c).toArray) w
  have hb1 := (Below.refl w.heap.size w).alloc (Nat.le_refl _) (.cells (fcells x q c).toArray 28)
  have hk1 : Blk (w.alloc (.cells (fcells x q c).toArray 28)) w.heap.size (fcells x q c) 28 := Blk.new w (fcells x q c).toArray 28
  obtain ⟨w1, hw1⟩ : ∃ v, v = w.alloc (.cells (fcells x q c).toArray 28) := ⟨_, rfl⟩
  rw [← hw1] at bx hb1 hk1
  have lk := look_yes (hm.below hb1) x.K hk true
  have c0 : w1.cell? ⟨w.heap.size, 0, none⟩ = some (.int .i64 x.K) := (hk1.cell 0).trans (fcells_K x q c)
  have al := alloc_form w1
  have st := store_form1 w1 (kSh x.K) (kHas x.K)
  have HB3 := Lib.hid (hb1.alloc hb1.size (.cells #[.string (kSh x.K), .string (kHas x.K)] 79))
  have HK := Lib.hid (hk1.old (.cells #[.string (kSh x.K), .string (kHas x.K)] 79))
  have HF := Lib.hid (show Blk (w1.alloc (.cells #[.string (kSh x.K), .string (kHas x.K)] 79)) w1.heap.size [.string (kSh x.K), .string (kHas x.K)] 79 from Blk.new w1 _ 79)
  obtain ⟨g0, hg0⟩ : ∃ g0, g0 = w.heap.size := ⟨_, rfl⟩
  obtain ⟨g1, hg1⟩ : ∃ g1, g1 = w1.heap.size := ⟨_, rfl⟩
  rw [← hg0] at bx c0 HK
  rw [← hg1] at al st HF
  clear hw1 hb1 hk1 hm hg0 hg1
  generalize w1.alloc (.cells #[.string emp, .string emp] 79) = w2 at *
  generalize w1.alloc (.cells #[.string (kSh x.K), .string (kHas x.K)] 79) = w3 at *
  have HX := Lib.hid hx
  have lf := load_form HF.out
  have lq := load_factB HK.out HX.out.ok.len
  have HIT := Lib.hid (show Calls Tryz.prog 44 #[.agg #[.string (kSh x.K), .string (kHas x.K)], .agg (fcells x q c).toArray] w3 (PItems ((hasL x.K).map (hdrOf x q c)) w3) from pitems_any x.K x q c w3 (HX.out.below HB3.out))
  have HM := Lib.hid (show ((hasL x.K).map (hdrOf x q c)).map (·.1) = items x from by rw [hdrOf_map, itemsH_map])
  have HCN := Lib.hid (bnd_can x hk)
  have HDE := Lib.hid (show decide (facL (hasL x.K) (items x) (kindF x.K) = x) = decide (of x.K (items x) = x) from by rw [facL_of x hk])
  clear hx hk
  cases hbn : bndL (hasL x.K) (items x) with
  | false =>
    have HBN := Lib.hid hbn
    have HQ := Lib.hid (show Fct.check x = 2 from by
      have h1 := HCN.out
      rw [hbn, Bool.false_and] at h1
      exact check_no fun h => by rw [(can_iff x).2 h] at h1; cases h1)
    clear hbn
    go_enter Tryz.func42, Tryz.ntmps42
    go_wp2_with fail
    refine HIT.out.mono ?_
    rintro e w4 ⟨p, n, cp, rfl, hn, hA, hT, hb4⟩
    rw [HM.out] at hT
    have HN := Lib.hid (show n = (hasL x.K).length from by rw [hn, List.length_map])
    have HT := Lib.hid hT
    have HB4 := Lib.hid (HB3.out.trans (hb4.mono HB3.out.size))
    have HX4 := Lib.hid (HX.out.below HB4.out)
    have E0 := Lib.hid (fun W (hb : Below w4.heap.size w4 W) => load_form ((HF.out.below hb4 HF.out.lt).below hb (HF.out.below hb4 HF.out.lt).lt))
    have E1 := Lib.hid (fun W (hb : Below w4.heap.size w4 W) => (show W.cell? ⟨g0, 0, none⟩ = some (.int .i64 x.K) from (((HK.out.below hb4 HK.out.lt).below hb (HK.out.below hb4 HK.out.lt).lt).cell 0).trans (fcells_K x q c)))
    have E2 := Lib.hid (fun W (hb : Below w4.heap.size w4 W) => load_factB ((HK.out.below hb4 HK.out.lt).below hb (HK.out.below hb4 HK.out.lt).lt) HX4.out.ok.len)
    have H1 := Lib.hid (fun W (hb : Below w4.heap.size w4 W) => (show Calls Tryz.prog 77 #[form x.K, .slice p n cp] W (fun e w' => e = .returned (.bool false) ∧ Below W.heap.size W w') from by have h1 := pbounded_any x.K (items x) p n cp W (HT.out.below hb) HN.out; rw [HBN.out] at h1; exact h1))
    clear hn hA hT hb4
    go_wp2_with fail
    obtain ⟨I, W, hC⟩ := cls_of w4
    have hne : Nonempty I := hC.ne
    have e0 := fun n => E0.out _ (hC.back n)
    have QS := Lib.hid (hC.call (P := Tryz.prog) (f := 77) (args := #[form x.K, .slice p n cp]) (v := .bool false) (fun w' hb => H1.out w' hb))
    have HC := Lib.hid hC
    clear hC
    refine wp_region_cls W (by kernel_rfl) (by kernel_rfl) HC.out.one ?_
    repeat go_big_quiet_step ((go_at_call 77; exact QS.out _))
    refine wpQuiet_nil ?_
    rintro _ ⟨nr, rfl⟩
    go_wp2_with fail
    go_ret
    exact ⟨by rw [HQ.out]; rfl, HB4.out.trans ((HC.out.back nr).mono HB4.out.size)⟩
  | true =>
    have HBN := Lib.hid hbn
    cases hde : decide (of x.K (items x) = x) with
    | true =>
      have HQ := Lib.hid (show Fct.check x = 0 from by
        have h1 := HCN.out
        rw [hbn, hde] at h1
        exact check_ok ((can_iff x).1 h1.symm))
      rw [hde] at HDE
      clear hbn hde
      go_enter Tryz.func42, Tryz.ntmps42
      go_wp2_with fail
      refine HIT.out.mono ?_
      rintro e w4 ⟨p, n, cp, rfl, hn, hA, hT, hb4⟩
      rw [HM.out] at hT
      have HN := Lib.hid (show n = (hasL x.K).length from by rw [hn, List.length_map])
      have HT := Lib.hid hT
      have HB4 := Lib.hid (HB3.out.trans (hb4.mono HB3.out.size))
      have HX4 := Lib.hid (HX.out.below HB4.out)
      have E0 := Lib.hid (fun W (hb : Below w4.heap.size w4 W) => load_form ((HF.out.below hb4 HF.out.lt).below hb (HF.out.below hb4 HF.out.lt).lt))
      have E1 := Lib.hid (fun W (hb : Below w4.heap.size w4 W) => (show W.cell? ⟨g0, 0, none⟩ = some (.int .i64 x.K) from (((HK.out.below hb4 HK.out.lt).below hb (HK.out.below hb4 HK.out.lt).lt).cell 0).trans (fcells_K x q c)))
      have E2 := Lib.hid (fun W (hb : Below w4.heap.size w4 W) => load_factB ((HK.out.below hb4 HK.out.lt).below hb (HK.out.below hb4 HK.out.lt).lt) HX4.out.ok.len)
      have H1 := Lib.hid (fun W (hb : Below w4.heap.size w4 W) => (show Calls Tryz.prog 77 #[form x.K, .slice p n cp] W (fun e w' => e = .returned (.bool true) ∧ Below W.heap.size W w') from by have h1 := pbounded_any x.K (items x) p n cp W (HT.out.below hb) HN.out; rw [HBN.out] at h1; exact h1))
      have H2 := Lib.hid (fun W (hb : Below w4.heap.size w4 W) => pfact_any x.K HX4.out.ok.K (items x) p n cp W (HT.out.below hb) HN.out)
      clear hn hA hT hb4
      go_wp2_with fail
      go_region_held3 (fun w' => Below w4.heap.size w4 w' ∧ (loadOp 79 (.pointer (some ⟨g1, 0, none⟩))).run Tryz.prog w' = .ok (.value (form x.K)) w' ∧ w'.cell? ⟨g0, 0, none⟩ = some (.int .i64 x.K) ∧ (loadOp 28 (.pointer (some ⟨g0, 0, none⟩))).run Tryz.prog w' = .ok (.value (.agg (fcells x q c).toArray)) w')
        (exact ⟨(by (repeat (first | exact Below.refl _ _ | assumption | refine Below.drew ?_))), E0.out _ (by (repeat (first | exact Below.refl _ _ | assumption | refine Below.drew ?_))), E1.out _ (by (repeat (first | exact Below.refl _ _ | assumption | refine Below.drew ?_))), E2.out _ (by (repeat (first | exact Below.refl _ _ | assumption | refine Below.drew ?_)))⟩)
        ((first
          | (go_at_call 77; refine (H1.out _ (by (repeat (first | exact Below.refl _ _ | assumption | refine Below.drew ?_)))).mono ?_; rintro e w5 ⟨rfl, hb5⟩; (have hbw5 : Below w4.heap.size w4 w5 := below_next9 (by (repeat (first | exact Below.refl _ _ | assumption | refine Below.drew ?_))) hb5); (have a5 := E0.out _ hbw5); (have b5 := E1.out _ hbw5); (have c5 := E2.out _ hbw5); clear hb5)
          | (go_at_call 78; refine (H2.out _ (by (repeat (first | exact Below.refl _ _ | assumption | refine Below.drew ?_)))).mono ?_; rintro e w6 ⟨q6, c6, rfl, hg6, hb6⟩; (have hbw6 : Below w4.heap.size w4 w6 := below_next9 (by (repeat (first | exact Below.refl _ _ | assumption | refine Below.drew ?_))) hb6); (have a6 := E0.out _ hbw6); (have b6 := E1.out _ hbw6); (have c6' := E2.out _ hbw6); (have HG6 := Lib.hid hg6); clear hb6 hg6)
          | (go_at_call 81; refine (alike_any _ x q6 q c6 c w6 HG6.out (HX4.out.below hbw6)).mono ?_; rintro e w7 ⟨rfl, hb7⟩; (have hbw7 : Below w4.heap.size w4 w7 := below_next9 hbw6 hb7); (have a7 := E0.out _ hbw7); (have b7 := E1.out _ hbw7); (have c7 := E2.out _ hbw7); rw [HDE.out]; clear hb7)))
      all_goals (go_wp2_with fail; go_ret)
      all_goals exact ⟨by rw [HQ.out]; rfl, HB4.out.trans (hbw7.mono HB4.out.size)⟩
    | false =>
      have HQ := Lib.hid (show Fct.check x = 2 from by
        have h1 := HCN.out
        rw [hbn, hde] at h1
        exact check_no fun h => by rw [(can_iff x).2 h] at h1; cases h1)
      rw [hde] at HDE
      clear hbn hde
      go_enter Tryz.func42, Tryz.ntmps42
      go_wp2_with fail
      refine HIT.out.mono ?_
      rintro e w4 ⟨p, n, cp, rfl, hn, hA, hT, hb4⟩
      rw [HM.out] at hT
      have HN := Lib.hid (show n = (hasL x.K).length from by rw [hn, List.length_map])
      have HT := Lib.hid hT
      have HB4 := Lib.hid (HB3.out.trans (hb4.mono HB3.out.size))
      have HX4 := Lib.hid (HX.out.below HB4.out)
      have E0 := Lib.hid (fun W (hb : Below w4.heap.size w4 W) => load_form ((HF.out.below hb4 HF.out.lt).below hb (HF.out.below hb4 HF.out.lt).lt))
      have E1 := Lib.hid (fun W (hb : Below w4.heap.size w4 W) => (show W.cell? ⟨g0, 0, none⟩ = some (.int .i64 x.K) from (((HK.out.below hb4 HK.out.lt).below hb (HK.out.below hb4 HK.out.lt).lt).cell 0).trans (fcells_K x q c)))
      have E2 := Lib.hid (fun W (hb : Below w4.heap.size w4 W) => load_factB ((HK.out.below hb4 HK.out.lt).below hb (HK.out.below hb4 HK.out.lt).lt) HX4.out.ok.len)
      have H1 := Lib.hid (fun W (hb : Below w4.heap.size w4 W) => (show Calls Tryz.prog 77 #[form x.K, .slice p n cp] W (fun e w' => e = .returned (.bool true) ∧ Below W.heap.size W w') from by have h1 := pbounded_any x.K (items x) p n cp W (HT.out.below hb) HN.out; rw [HBN.out] at h1; exact h1))
      have H2 := Lib.hid (fun W (hb : Below w4.heap.size w4 W) => pfact_any x.K HX4.out.ok.K (items x) p n cp W (HT.out.below hb) HN.out)
      clear hn hA hT hb4
      go_wp2_with fail
      go_region_held3 (fun w' => Below w4.heap.size w4 w' ∧ (loadOp 79 (.pointer (some ⟨g1, 0, none⟩))).run Tryz.prog w' = .ok (.value (form x.K)) w' ∧ w'.cell? ⟨g0, 0, none⟩ = some (.int .i64 x.K) ∧ (loadOp 28 (.pointer (some ⟨g0, 0, none⟩))).run Tryz.prog w' = .ok (.value (.agg (fcells x q c).toArray)) w')
        (exact ⟨(by (repeat (first | exact Below.refl _ _ | assumption | refine Below.drew ?_))), E0.out _ (by (repeat (first | exact Below.refl _ _ | assumption | refine Below.drew ?_))), E1.out _ (by (repeat (first | exact Below.refl _ _ | assumption | refine Below.drew ?_))), E2.out _ (by (repeat (first | exact Below.refl _ _ | assumption | refine Below.drew ?_)))⟩)
        ((first
          | (go_at_call 77; refine (H1.out _ (by (repeat (first | exact Below.refl _ _ | assumption | refine Below.drew ?_)))).mono ?_; rintro e w5 ⟨rfl, hb5⟩; (have hbw5 : Below w4.heap.size w4 w5 := below_next9 (by (repeat (first | exact Below.refl _ _ | assumption | refine Below.drew ?_))) hb5); (have a5 := E0.out _ hbw5); (have b5 := E1.out _ hbw5); (have c5 := E2.out _ hbw5); clear hb5)
          | (go_at_call 78; refine (H2.out _ (by (repeat (first | exact Below.refl _ _ | assumption | refine Below.drew ?_)))).mono ?_; rintro e w6 ⟨q6, c6, rfl, hg6, hb6⟩; (have hbw6 : Below w4.heap.size w4 w6 := below_next9 (by (repeat (first | exact Below.refl _ _ | assumption | refine Below.drew ?_))) hb6); (have a6 := E0.out _ hbw6); (have b6 := E1.out _ hbw6); (have c6' := E2.out _ hbw6); (have HG6 := Lib.hid hg6); clear hb6 hg6)
          | (go_at_call 81; refine (alike_any _ x q6 q c6 c w6 HG6.out (HX4.out.below hbw6)).mono ?_; rintro e w7 ⟨rfl, hb7⟩; (have hbw7 : Below w4.heap.size w4 w7 := below_next9 hbw6 hb7); (have a7 := E0.out _ hbw7); (have b7 := E1.out _ hbw7); (have c7 := E2.out _ hbw7); rw [HDE.out]; clear hb7)))
      all_goals (go_wp2_with fail; go_ret)
      all_goals exact ⟨by rw [HQ.out]; rfl, HB4.out.trans (hbw7.mono HB4.out.size)⟩
theorem pcheck_any (x : Fac) (q : Option Addr) (c : Nat) (m : Value) (w : World) (hm : Tab w m) (hx : sF.Good w x q c) :
    Calls Tryz.prog 42 #[m, .agg (fcells x q c).toArray] w fun e w' => e = .returned (.int .i64 (Fct.check x)) ∧ Below w.heap.size w w' := by
  by_cases hk : 1 ≤ x.K ∧ x.K < 11
  · exact pcheck_yes x q c m w hm hx hk
  · exact pcheck_no x q c m w hm hx hk
end
end Go.Proofs.YtokpabkcaofahaaGreat
