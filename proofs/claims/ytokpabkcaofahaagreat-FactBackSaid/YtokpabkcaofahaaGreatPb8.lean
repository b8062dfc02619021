/-
  The kit's SameFact (written by mksame9.py).
  Rows of structs as a block: one cell of one struct written over. General: no function is named here.
  The kit's CopyFacts.
-/
import Derived.Test.YtokpabkcaofahaaGreatPb7
import Derived.Test.YtokpabkcaofahaaGreatPb2
import Derived.WalkSpells
import Derived.IntWalk
import Derived.WalkLawsBesides
import Derived.Laws.StructEq
import Derived.Test.YtokpabkcaofahaaGreatPb3
import Derived.Deep.RegionLaw
namespace Go.Proofs.YtokpabkcaofahaaGreat
section
set_option linter.unusedSimpArgs false
set_option linter.unusedVariables false
open Go.RowKit Sha Fct
theorem execOp_loadBal (ρ : Operand → Value) (dst : Option Tmp) (x : Operand) (ty : TypeId) (pos : String) (after : Array Edge) (guard : Option (Nat × Bool)) :
    execOp ρ { dst := dst, op := .load 23 x, type := ty, pos := pos, after := after, guard := guard } = loadOp 23 (ρ x) := by unfold loadOp; rfl
theorem execOp_loadFact (ρ : Operand → Value) (dst : Option Tmp) (x : Operand) (ty : TypeId) (pos : String) (after : Array Edge) (guard : Option (Nat × Bool)) :
    execOp ρ { dst := dst, op := .load 28 x, type := ty, pos := pos, after := after, guard := guard } = loadOp 28 (ρ x) := by unfold loadOp; rfl
theorem fact_size : (Tryz.prog.info? 28).map (fun i => i.size) = some 38 := by kernel_rfl
theorem bal_size : (Tryz.prog.info? 23).map (fun i => i.size) = some 2 := by kernel_rfl
theorem load_fact {w : World} {g o : Nat} {x : Fac} {q : Option Addr} {c : Nat} (hx : x.D.length = 32) (h : w.rangeAt g o (fcells x q c)) : (loadOp 28 (.pointer (some ⟨g, o, none⟩))).run Tryz.prog w = .ok (.value (.agg (fcells x q c).toArray)) w :=
  run_loadOp (run_loadAt_mid w g o 28 _ _ h Tryz.underlying28 rfl (by rw [fact_size, fcells_length hx]))
theorem rangeAt_sub {w : World} {g o : Nat} {cs : List Value} (h : w.rangeAt g o cs) (k : Nat) {ds : List Value} (hd : ∀ j v, ds[j]? = some v → cs[k + j]? = some v) : w.rangeAt g (o + k) ds := fun j v hv => by
  rw [Nat.add_assoc]; exact h _ v (hd j v hv)
theorem load_fid {w : World} {g o : Nat} {x : Fac} {q : Option Addr} {c : Nat} (hx : x.D.length = 32) (h : w.rangeAt g o (fcells x q c)) : (loadOp 25 (.pointer (some ⟨g, o + 5, none⟩))).run Tryz.prog w = .ok (.value (.agg (x.D.map v8).toArray)) w :=
  run_loadOp (run_loadAt_mid w g (o + 5) 25 _ _ (rangeAt_sub h 5 (fcells_D x q c)) Tryz.underlying25 rfl (by rw [id_size, List.length_map, hx]))
theorem load_fbal {w : World} {g o : Nat} {x : Fac} {q : Option Addr} {c : Nat} (h : w.rangeAt g o (fcells x q c)) : (loadOp 23 (.pointer (some ⟨g, o + 3, none⟩))).run Tryz.prog w = .ok (.value (.agg #[.int .i64 x.N, .int .i64 x.O])) w :=
  run_loadOp (run_loadAt_mid w g (o + 3) 23 [.int .i64 x.N, .int .i64 x.O] _ (rangeAt_sub h 3 (fun j v hv => by
    match j with
    | 0 => exact hv
    | 1 => exact hv
    | j + 2 => simp at hv)) Tryz.underlying23 rfl (by rw [bal_size]; rfl))
attribute [local go_sem ↓] execOp_loadBal execOp_loadId execOp_loadFact
theorem fac_ext (x y : Fac) : decide (x = y) = (decide (x.K = y.K) && decide (x.S = y.S) && decide (x.H = y.H) && (decide (x.N = y.N) && decide (x.O = y.O)) && decide (x.D = y.D) && decide (x.B = y.B)) := by
  cases x; cases y
  rw [Bool.eq_iff_iff]
  simp [and_assoc]
set_option maxRecDepth 100000 in
set_option maxHeartbeats 2000000 in
theorem sameFact_any (x y : Fac) (q r : Option Addr) (c d : Nat) (w : World) (hx : sF.Good w x q c) (hy : sF.Good w y r d) :
    Calls Tryz.prog 18 #[.agg (fcells x q c).toArray, .agg (fcells y r d).toArray] w fun e w' => e = .returned (.bool (decide (x = y))) ∧ Below w.heap.size w w' := by
  have HX : Hid (sF.Good w x q c) := Lib.hid hx
  have HY : Hid (sF.Good w y r d) := Lib.hid hy
  have HE := Lib.hid (fac_ext x y)
  obtain ⟨m, hm⟩ : ∃ m, m = x.B.length := ⟨_, rfl⟩
  obtain ⟨k, hk⟩ : ∃ k, k = y.B.length := ⟨_, rfl⟩
  have HM := Lib.hid hm
  have HK := Lib.hid hk
  clear hx hy hm hk
  obtain ⟨bb, hbb⟩ : ∃ b, b = decide (x.B = y.B) := ⟨_, rfl⟩
  obtain ⟨bd, hbd⟩ : ∃ b, b = decide (x.D = y.D) := ⟨_, rfl⟩
  have HBB := Lib.hid hbb
  have HBD := Lib.hid hbd
  clear hbb hbd
  by_cases eK : x.K = y.K
  · have tK : (x.K == y.K) = true := by rw [beq_iff_eq]; exact eK
    have EK := Lib.hid eK
    clear eK
    by_cases eS : x.S = y.S
    · have tS : (x.S == y.S) = true := by rw [beq_iff_eq]; exact eS
      have ES := Lib.hid eS
      clear eS
      by_cases eH : x.H = y.H
      · have tH : (x.H == y.H) = true := by rw [beq_iff_eq]; exact eH
        have EH := Lib.hid eH
        clear eH
        by_cases eN : x.N = y.N
        · have tN : (x.N == y.N) = true := by rw [beq_iff_eq]; exact eN
          have EN := Lib.hid eN
          clear eN
          by_cases eO : x.O = y.O
          · have tO : (x.O == y.O) = true := by rw [beq_iff_eq]; exact eO
            have EO := Lib.hid eO
            clear eO
            go_enter Tryz.func18, Tryz.ntmps18
            go_wp2_with (first
              | ((refine wpList_box_new rfl 28 (.tmp 0) rfl _ rfl ?_); (intro w1 g K1 B1 G1); (have HK1 := Lib.hid K1); (have HB1 := Lib.hid B1); clear K1 B1)
              | ((refine wpList_box_new rfl 28 (.tmp 1) rfl _ rfl ?_); (intro w2 g2 K2 B2 G2); (have hk2 := HK1.out.below B2 HK1.out.lt); (have HB2 := Lib.hid (HB1.out.trans (B2.mono HB1.out.size))); (have a0 : w2.cell? ⟨g, 0, none⟩ = some (.int .i64 x.K) := (hk2.cell 0).trans (fcells_K _ _ _)); (have b0 : w2.cell? ⟨g2, 0, none⟩ = some (.int .i64 y.K) := (K2.cell 0).trans (fcells_K _ _ _)); (have a1 : w2.cell? ⟨g, 1, none⟩ = some (.int .i64 x.S) := (hk2.cell 1).trans (fcells_S _ _ _)); (have b1 : w2.cell? ⟨g2, 1, none⟩ = some (.int .i64 y.S) := (K2.cell 1).trans (fcells_S _ _ _)); (have a2 : w2.cell? ⟨g, 2, none⟩ = some (.int .i64 x.H) := (hk2.cell 2).trans (fcells_H _ _ _)); (have b2 : w2.cell? ⟨g2, 2, none⟩ = some (.int .i64 y.H) := (K2.cell 2).trans (fcells_H _ _ _)); (have a3 : w2.cell? ⟨g, 3, none⟩ = some (.int .i64 x.N) := (hk2.cell 3).trans (fcells_N _ _ _)); (have b3 : w2.cell? ⟨g2, 3, none⟩ = some (.int .i64 y.N) := (K2.cell 3).trans (fcells_N _ _ _)); (have a4 : w2.cell? ⟨g, 4, none⟩ = some (.int .i64 x.O) := (hk2.cell 4).trans (fcells_O _ _ _)); (have b4 : w2.cell? ⟨g2, 4, none⟩ = some (.int .i64 y.O) := (K2.cell 4).trans (fcells_O _ _ _)); (have a5 : w2.cell? ⟨g, 37, none⟩ = some (.slice q m c) := (by rw [HM.out]; exact (hk2.cell 37).trans (fcells_B HX.out.ok.len _ _))); (have b5 : w2.cell? ⟨g2, 37, none⟩ = some (.slice r k d) := (by rw [HK.out]; exact (K2.cell 37).trans (fcells_B HY.out.ok.len _ _))); (have la : (loadOp 25 (.pointer (some ⟨g, 5, none⟩))).run Tryz.prog w2 = .ok (.value (.agg (x.D.map v8).toArray)) w2 := load_fid (o := 0) HX.out.ok.len hk2.range); (have lb : (loadOp 25 (.pointer (some ⟨g2, 5, none⟩))).run Tryz.prog w2 = .ok (.value (.agg (y.D.map v8).toArray)) w2 := load_fid (o := 0) HY.out.ok.len K2.range); (have lc : (loadOp 23 (.pointer (some ⟨g, 3, none⟩))).run Tryz.prog w2 = .ok (.value (.agg #[.int .i64 x.N, .int .i64 x.O])) w2 := load_fbal (o := 0) hk2.range); (have ld : (loadOp 23 (.pointer (some ⟨g2, 3, none⟩))).run Tryz.prog w2 = .ok (.value (.agg #[.int .i64 y.N, .int .i64 y.O])) w2 := load_fbal (o := 0) K2.range); clear K2 B2 hk2)
              | (go_at_call 14; refine (same_any x.B y.B m k q r c d w2 HM.out.symm HK.out.symm (HX.out.at_.below HB2.out) (HY.out.at_.below HB2.out) HX.out.ok.B HY.out.ok.B).mono ?_; rw [← HBB.out]; rintro e w' ⟨rfl, rfl⟩)
              | (refine BigFrame.wpList_want rfl (fun K hK => wp_eql_arr 25 (.tmp 33) (.tmp 35) _ rfl 5 32 .u8 Tryz.underlying25 Tryz.underlying5 kslice1 x.D y.D rfl rfl HX.out.ok.len HY.out.ok.len (hK _ _ ?_))))
            · rename_i hD
              go_ret
              exact ⟨congrArg (fun b => Ending.returned (Value.bool b)) (by rw [HE.out]; rw [← HBB.out, EK.out, ES.out, EH.out, EN.out, EO.out, decide_eq_true hD]; simp), HB2.out⟩
            · rename_i hD
              go_ret
              exact ⟨congrArg (fun b => Ending.returned (Value.bool b)) (by rw [HE.out]; rw [decide_eq_false hD]; simp), HB2.out⟩
          · have tO : (x.O == y.O) = false := by rw [beq_eq_false_iff_ne]; exact eO
            have EO := Lib.hid (show decide (x.O = y.O) = false from decide_eq_false eO)
            clear eO
            go_enter Tryz.func18, Tryz.ntmps18
            go_wp2_with (first
              | ((refine wpList_box_new rfl 28 (.tmp 0) rfl _ rfl ?_); (intro w1 g K1 B1 G1); (have HK1 := Lib.hid K1); (have HB1 := Lib.hid B1); clear K1 B1)
              | ((refine wpList_box_new rfl 28 (.tmp 1) rfl _ rfl ?_); (intro w2 g2 K2 B2 G2); (have hk2 := HK1.out.below B2 HK1.out.lt); (have HB2 := Lib.hid (HB1.out.trans (B2.mono HB1.out.size))); (have a0 : w2.cell? ⟨g, 0, none⟩ = some (.int .i64 x.K) := (hk2.cell 0).trans (fcells_K _ _ _)); (have b0 : w2.cell? ⟨g2, 0, none⟩ = some (.int .i64 y.K) := (K2.cell 0).trans (fcells_K _ _ _)); (have a1 : w2.cell? ⟨g, 1, none⟩ = some (.int .i64 x.S) := (hk2.cell 1).trans (fcells_S _ _ _)); (have b1 : w2.cell? ⟨g2, 1, none⟩ = some (.int .i64 y.S) := (K2.cell 1).trans (fcells_S _ _ _)); (have a2 : w2.cell? ⟨g, 2, none⟩ = some (.int .i64 x.H) := (hk2.cell 2).trans (fcells_H _ _ _)); (have b2 : w2.cell? ⟨g2, 2, none⟩ = some (.int .i64 y.H) := (K2.cell 2).trans (fcells_H _ _ _)); (have a3 : w2.cell? ⟨g, 3, none⟩ = some (.int .i64 x.N) := (hk2.cell 3).trans (fcells_N _ _ _)); (have b3 : w2.cell? ⟨g2, 3, none⟩ = some (.int .i64 y.N) := (K2.cell 3).trans (fcells_N _ _ _)); (have a4 : w2.cell? ⟨g, 4, none⟩ = some (.int .i64 x.O) := (hk2.cell 4).trans (fcells_O _ _ _)); (have b4 : w2.cell? ⟨g2, 4, none⟩ = some (.int .i64 y.O) := (K2.cell 4).trans (fcells_O _ _ _)); (have a5 : w2.cell? ⟨g, 37, none⟩ = some (.slice q m c) := (by rw [HM.out]; exact (hk2.cell 37).trans (fcells_B HX.out.ok.len _ _))); (have b5 : w2.cell? ⟨g2, 37, none⟩ = some (.slice r k d) := (by rw [HK.out]; exact (K2.cell 37).trans (fcells_B HY.out.ok.len _ _))); (have la : (loadOp 25 (.pointer (some ⟨g, 5, none⟩))).run Tryz.prog w2 = .ok (.value (.agg (x.D.map v8).toArray)) w2 := load_fid (o := 0) HX.out.ok.len hk2.range); (have lb : (loadOp 25 (.pointer (some ⟨g2, 5, none⟩))).run Tryz.prog w2 = .ok (.value (.agg (y.D.map v8).toArray)) w2 := load_fid (o := 0) HY.out.ok.len K2.range); (have lc : (loadOp 23 (.pointer (some ⟨g, 3, none⟩))).run Tryz.prog w2 = .ok (.value (.agg #[.int .i64 x.N, .int .i64 x.O])) w2 := load_fbal (o := 0) hk2.range); (have ld : (loadOp 23 (.pointer (some ⟨g2, 3, none⟩))).run Tryz.prog w2 = .ok (.value (.agg #[.int .i64 y.N, .int .i64 y.O])) w2 := load_fbal (o := 0) K2.range); clear K2 B2 hk2)
              | (go_at_call 14; refine (same_any x.B y.B m k q r c d w2 HM.out.symm HK.out.symm (HX.out.at_.below HB2.out) (HY.out.at_.below HB2.out) HX.out.ok.B HY.out.ok.B).mono ?_; rw [← HBB.out]; rintro e w' ⟨rfl, rfl⟩)
              | (refine BigFrame.wpList_want rfl (fun K hK => wp_eql_arr 25 (.tmp 33) (.tmp 35) _ rfl 5 32 .u8 Tryz.underlying25 Tryz.underlying5 kslice1 x.D y.D rfl rfl HX.out.ok.len HY.out.ok.len (hK _ _ ?_))))
            go_ret
            exact ⟨congrArg (fun b => Ending.returned (Value.bool b)) (by rw [HE.out]; rw [EO.out]; simp), HB2.out⟩
        · have tN : (x.N == y.N) = false := by rw [beq_eq_false_iff_ne]; exact eN
          have EN := Lib.hid (show decide (x.N = y.N) = false from decide_eq_false eN)
          clear eN
          go_enter Tryz.func18, Tryz.ntmps18
          go_wp2_with (first
            | ((refine wpList_box_new rfl 28 (.tmp 0) rfl _ rfl ?_); (intro w1 g K1 B1 G1); (have HK1 := Lib.hid K1); (have HB1 := Lib.hid B1); clear K1 B1)
            | ((refine wpList_box_new rfl 28 (.tmp 1) rfl _ rfl ?_); (intro w2 g2 K2 B2 G2); (have hk2 := HK1.out.below B2 HK1.out.lt); (have HB2 := Lib.hid (HB1.out.trans (B2.mono HB1.out.size))); (have a0 : w2.cell? ⟨g, 0, none⟩ = some (.int .i64 x.K) := (hk2.cell 0).trans (fcells_K _ _ _)); (have b0 : w2.cell? ⟨g2, 0, none⟩ = some (.int .i64 y.K) := (K2.cell 0).trans (fcells_K _ _ _)); (have a1 : w2.cell? ⟨g, 1, none⟩ = some (.int .i64 x.S) := (hk2.cell 1).trans (fcells_S _ _ _)); (have b1 : w2.cell? ⟨g2, 1, none⟩ = some (.int .i64 y.S) := (K2.cell 1).trans (fcells_S _ _ _)); (have a2 : w2.cell? ⟨g, 2, none⟩ = some (.int .i64 x.H) := (hk2.cell 2).trans (fcells_H _ _ _)); (have b2 : w2.cell? ⟨g2, 2, none⟩ = some (.int .i64 y.H) := (K2.cell 2).trans (fcells_H _ _ _)); (have a3 : w2.cell? ⟨g, 3, none⟩ = some (.int .i64 x.N) := (hk2.cell 3).trans (fcells_N _ _ _)); (have b3 : w2.cell? ⟨g2, 3, none⟩ = some (.int .i64 y.N) := (K2.cell 3).trans (fcells_N _ _ _)); (have a4 : w2.cell? ⟨g, 4, none⟩ = some (.int .i64 x.O) := (hk2.cell 4).trans (fcells_O _ _ _)); (have b4 : w2.cell? ⟨g2, 4, none⟩ = some (.int .i64 y.O) := (K2.cell 4).trans (fcells_O _ _ _)); (have a5 : w2.cell? ⟨g, 37, none⟩ = some (.slice q m c) := (by rw [HM.out]; exact (hk2.cell 37).trans (fcells_B HX.out.ok.len _ _))); (have b5 : w2.cell? ⟨g2, 37, none⟩ = some (.slice r k d) := (by rw [HK.out]; exact (K2.cell 37).trans (fcells_B HY.out.ok.len _ _))); (have la : (loadOp 25 (.pointer (some ⟨g, 5, none⟩))).run Tryz.prog w2 = .ok (.value (.agg (x.D.map v8).toArray)) w2 := load_fid (o := 0) HX.out.ok.len hk2.range); (have lb : (loadOp 25 (.pointer (some ⟨g2, 5, none⟩))).run Tryz.prog w2 = .ok (.value (.agg (y.D.map v8).toArray)) w2 := load_fid (o := 0) HY.out.ok.len K2.range); (have lc : (loadOp 23 (.pointer (some ⟨g, 3, none⟩))).run Tryz.prog w2 = .ok (.value (.agg #[.int .i64 x.N, .int .i64 x.O])) w2 := load_fbal (o := 0) hk2.range); (have ld : (loadOp 23 (.pointer (some ⟨g2, 3, none⟩))).run Tryz.prog w2 = .ok (.value (.agg #[.int .i64 y.N, .int .i64 y.O])) w2 := load_fbal (o := 0) K2.range); clear K2 B2 hk2)
            | (go_at_call 14; refine (same_any x.B y.B m k q r c d w2 HM.out.symm HK.out.symm (HX.out.at_.below HB2.out) (HY.out.at_.below HB2.out) HX.out.ok.B HY.out.ok.B).mono ?_; rw [← HBB.out]; rintro e w' ⟨rfl, rfl⟩)
            | (refine BigFrame.wpList_want rfl (fun K hK => wp_eql_arr 25 (.tmp 33) (.tmp 35) _ rfl 5 32 .u8 Tryz.underlying25 Tryz.underlying5 kslice1 x.D y.D rfl rfl HX.out.ok.len HY.out.ok.len (hK _ _ ?_))))
          go_ret
          exact ⟨congrArg (fun b => Ending.returned (Value.bool b)) (by rw [HE.out]; rw [EN.out]; simp), HB2.out⟩
      · have tH : (x.H == y.H) = false := by rw [beq_eq_false_iff_ne]; exact eH
        have EH := Lib.hid (show decide (x.H = y.H) = false from decide_eq_false eH)
        clear eH
        go_enter Tryz.func18, Tryz.ntmps18
        go_wp2_with (first
          | ((refine wpList_box_new rfl 28 (.tmp 0) rfl _ rfl ?_); (intro w1 g K1 B1 G1); (have HK1 := Lib.hid K1); (have HB1 := Lib.hid B1); clear K1 B1)
          | ((refine wpList_box_new rfl 28 (.tmp 1) rfl _ rfl ?_); (intro w2 g2 K2 B2 G2); (have hk2 := HK1.out.below B2 HK1.out.lt); (have HB2 := Lib.hid (HB1.out.trans (B2.mono HB1.out.size))); (have a0 : w2.cell? ⟨g, 0, none⟩ = some (.int .i64 x.K) := (hk2.cell 0).trans (fcells_K _ _ _)); (have b0 : w2.cell? ⟨g2, 0, none⟩ = some (.int .i64 y.K) := (K2.cell 0).trans (fcells_K _ _ _)); (have a1 : w2.cell? ⟨g, 1, none⟩ = some (.int .i64 x.S) := (hk2.cell 1).trans (fcells_S _ _ _)); (have b1 : w2.cell? ⟨g2, 1, none⟩ = some (.int .i64 y.S) := (K2.cell 1).trans (fcells_S _ _ _)); (have a2 : w2.cell? ⟨g, 2, none⟩ = some (.int .i64 x.H) := (hk2.cell 2).trans (fcells_H _ _ _)); (have b2 : w2.cell? ⟨g2, 2, none⟩ = some (.int .i64 y.H) := (K2.cell 2).trans (fcells_H _ _ _)); (have a3 : w2.cell? ⟨g, 3, none⟩ = some (.int .i64 x.N) := (hk2.cell 3).trans (fcells_N _ _ _)); (have b3 : w2.cell? ⟨g2, 3, none⟩ = some (.int .i64 y.N) := (K2.cell 3).trans (fcells_N _ _ _)); (have a4 : w2.cell? ⟨g, 4, none⟩ = some (.int .i64 x.O) := (hk2.cell 4).trans (fcells_O _ _ _)); (have b4 : w2.cell? ⟨g2, 4, none⟩ = some (.int .i64 y.O) := (K2.cell 4).trans (fcells_O _ _ _)); (have a5 : w2.cell? ⟨g, 37, none⟩ = some (.slice q m c) := (by rw [HM.out]; exact (hk2.cell 37).trans (fcells_B HX.out.ok.len _ _))); (have b5 : w2.cell? ⟨g2, 37, none⟩ = some (.slice r k d) := (by rw [HK.out]; exact (K2.cell 37).trans (fcells_B HY.out.ok.len _ _))); (have la : (loadOp 25 (.pointer (some ⟨g, 5, none⟩))).run Tryz.prog w2 = .ok (.value (.agg (x.D.map v8).toArray)) w2 := load_fid (o := 0) HX.out.ok.len hk2.range); (have lb : (loadOp 25 (.pointer (some ⟨g2, 5, none⟩))).run Tryz.prog w2 = .ok (.value (.agg (y.D.map v8).toArray)) w2 := load_fid (o := 0) HY.out.ok.len K2.range); (have lc : (loadOp 23 (.pointer (some ⟨g, 3, none⟩))).run Tryz.prog w2 = .ok (.value (.agg #[.int .i64 x.N, .int .i64 x.O])) w2 := load_fbal (o := 0) hk2.range); (have ld : (loadOp 23 (.pointer (some ⟨g2, 3, none⟩))).run Tryz.prog w2 = .ok (.value (.agg #[.int .i64 y.N, .int .i64 y.O])) w2 := load_fbal (o := 0) K2.range); clear K2 B2 hk2)
          | (go_at_call 14; refine (same_any x.B y.B m k q r c d w2 HM.out.symm HK.out.symm (HX.out.at_.below HB2.out) (HY.out.at_.below HB2.out) HX.out.ok.B HY.out.ok.B).mono ?_; rw [← HBB.out]; rintro e w' ⟨rfl, rfl⟩)
          | (refine BigFrame.wpList_want rfl (fun K hK => wp_eql_arr 25 (.tmp 33) (.tmp 35) _ rfl 5 32 .u8 Tryz.underlying25 Tryz.underlying5 kslice1 x.D y.D rfl rfl HX.out.ok.len HY.out.ok.len (hK _ _ ?_))))
        go_ret
        exact ⟨congrArg (fun b => Ending.returned (Value.bool b)) (by rw [HE.out]; rw [EH.out]; simp), HB2.out⟩
    · have tS : (x.S == y.S) = false := by rw [beq_eq_false_iff_ne]; exact eS
      have ES := Lib.hid (show decide (x.S = y.S) = false from decide_eq_false eS)
      clear eS
      go_enter Tryz.func18, Tryz.ntmps18
      go_wp2_with (first
        | ((refine wpList_box_new rfl 28 (.tmp 0) rfl _ rfl ?_); (intro w1 g K1 B1 G1); (have HK1 := Lib.hid K1); (have HB1 := Lib.hid B1); clear K1 B1)
        | ((refine wpList_box_new rfl 28 (.tmp 1) rfl _ rfl ?_); (intro w2 g2 K2 B2 G2); (have hk2 := HK1.out.below B2 HK1.out.lt); (have HB2 := Lib.hid (HB1.out.trans (B2.mono HB1.out.size))); (have a0 : w2.cell? ⟨g, 0, none⟩ = some (.int .i64 x.K) := (hk2.cell 0).trans (fcells_K _ _ _)); (have b0 : w2.cell? ⟨g2, 0, none⟩ = some (.int .i64 y.K) := (K2.cell 0).trans (fcells_K _ _ _)); (have a1 : w2.cell? ⟨g, 1, none⟩ = some (.int .i64 x.S) := (hk2.cell 1).trans (fcells_S _ _ _)); (have b1 : w2.cell? ⟨g2, 1, none⟩ = some (.int .i64 y.S) := (K2.cell 1).trans (fcells_S _ _ _)); (have a2 : w2.cell? ⟨g, 2, none⟩ = some (.int .i64 x.H) := (hk2.cell 2).trans (fcells_H _ _ _)); (have b2 : w2.cell? ⟨g2, 2, none⟩ = some (.int .i64 y.H) := (K2.cell 2).trans (fcells_H _ _ _)); (have a3 : w2.cell? ⟨g, 3, none⟩ = some (.int .i64 x.N) := (hk2.cell 3).trans (fcells_N _ _ _)); (have b3 : w2.cell? ⟨g2, 3, none⟩ = some (.int .i64 y.N) := (K2.cell 3).trans (fcells_N _ _ _)); (have a4 : w2.cell? ⟨g, 4, none⟩ = some (.int .i64 x.O) := (hk2.cell 4).trans (fcells_O _ _ _)); (have b4 : w2.cell? ⟨g2, 4, none⟩ = some (.int .i64 y.O) := (K2.cell 4).trans (fcells_O _ _ _)); (have a5 : w2.cell? ⟨g, 37, none⟩ = some (.slice q m c) := (by rw [HM.out]; exact (hk2.cell 37).trans (fcells_B HX.out.ok.len _ _))); (have b5 : w2.cell? ⟨g2, 37, none⟩ = some (.slice r k d) := (by rw [HK.out]; exact (K2.cell 37).trans (fcells_B HY.out.ok.len _ _))); (have la : (loadOp 25 (.pointer (some ⟨g, 5, none⟩))).run Tryz.prog w2 = .ok (.value (.agg (x.D.map v8).toArray)) w2 := load_fid (o := 0) HX.out.ok.len hk2.range); (have lb : (loadOp 25 (.pointer (some ⟨g2, 5, none⟩))).run Tryz.prog w2 = .ok (.value (.agg (y.D.map v8).toArray)) w2 := load_fid (o := 0) HY.out.ok.len K2.range); (have lc : (loadOp 23 (.pointer (some ⟨g, 3, none⟩))).run Tryz.prog w2 = .ok (.value (.agg #[.int .i64 x.N, .int .i64 x.O])) w2 := load_fbal (o := 0) hk2.range); (have ld : (loadOp 23 (.pointer (some ⟨g2, 3, none⟩))).run Tryz.prog w2 = .ok (.value (.agg #[.int .i64 y.N, .int .i64 y.O])) w2 := load_fbal (o := 0) K2.range); clear K2 B2 hk2)
        | (go_at_call 14; refine (same_any x.B y.B m k q r c d w2 HM.out.symm HK.out.symm (HX.out.at_.below HB2.out) (HY.out.at_.below HB2.out) HX.out.ok.B HY.out.ok.B).mono ?_; rw [← HBB.out]; rintro e w' ⟨rfl, rfl⟩)
        | (refine BigFrame.wpList_want rfl (fun K hK => wp_eql_arr 25 (.tmp 33) (.tmp 35) _ rfl 5 32 .u8 Tryz.underlying25 Tryz.underlying5 kslice1 x.D y.D rfl rfl HX.out.ok.len HY.out.ok.len (hK _ _ ?_))))
      go_ret
      exact ⟨congrArg (fun b => Ending.returned (Value.bool b)) (by rw [HE.out]; rw [ES.out]; simp), HB2.out⟩
  · have tK : (x.K == y.K) = false := by rw [beq_eq_false_iff_ne]; exact eK
    have EK := Lib.hid (show decide (x.K = y.K) = false from decide_eq_false eK)
    clear eK
    go_enter Tryz.func18, Tryz.ntmps18
    go_wp2_with (first
      | ((refine wpList_box_new rfl 28 (.tmp 0) rfl _ rfl ?_); (intro w1 g K1 B1 G1); (have HK1 := Lib.hid K1); (have HB1 := Lib.hid B1); clear K1 B1)
      | ((refine wpList_box_new rfl 28 (.tmp 1) rfl _ rfl ?_); (intro w2 g2 K2 B2 G2); (have hk2 := HK1.out.below B2 HK1.out.lt); (have HB2 := Lib.hid (HB1.out.trans (B2.mono HB1.out.size))); (have a0 : w2.cell? ⟨g, 0, none⟩ = some (.int .i64 x.K) := (hk2.cell 0).trans (fcells_K _ _ _)); (have b0 : w2.cell? ⟨g2, 0, none⟩ = some (.int .i64 y.K) := (K2.cell 0).trans (fcells_K _ _ _)); (have a1 : w2.cell? ⟨g, 1, none⟩ = some (.int .i64 x.S) := (hk2.cell 1).trans (fcells_S _ _ _)); (have b1 : w2.cell? ⟨g2, 1, none⟩ = some (.int .i64 y.S) := (K2.cell 1).trans (fcells_S _ _ _)); (have a2 : w2.cell? ⟨g, 2, none⟩ = some (.int .i64 x.H) := (hk2.cell 2).trans (fcells_H _ _ _)); (have b2 : w2.cell? ⟨g2, 2, none⟩ = some (.int .i64 y.H) := (K2.cell 2).trans (fcells_H _ _ _)); (have a3 : w2.cell? ⟨g, 3, none⟩ = some (.int .i64 x.N) := (hk2.cell 3).trans (fcells_N _ _ _)); (have b3 : w2.cell? ⟨g2, 3, none⟩ = some (.int .i64 y.N) := (K2.cell 3).trans (fcells_N _ _ _)); (have a4 : w2.cell? ⟨g, 4, none⟩ = some (.int .i64 x.O) := (hk2.cell 4).trans (fcells_O _ _ _)); (have b4 : w2.cell? ⟨g2, 4, none⟩ = some (.int .i64 y.O) := (K2.cell 4).trans (fcells_O _ _ _)); (have a5 : w2.cell? ⟨g, 37, none⟩ = some (.slice q m c) := (by rw [HM.out]; exact (hk2.cell 37).trans (fcells_B HX.out.ok.len _ _))); (have b5 : w2.cell? ⟨g2, 37, none⟩ = some (.slice r k d) := (by rw [HK.out]; exact (K2.cell 37).trans (fcells_B HY.out.ok.len _ _))); (have la : (loadOp 25 (.pointer (some ⟨g, 5, none⟩))).run Tryz.prog w2 = .ok (.value (.agg (x.D.map v8).toArray)) w2 := load_fid (o := 0) HX.out.ok.len hk2.range); (have lb : (loadOp 25 (.pointer (some ⟨g2, 5, none⟩))).run Tryz.prog w2 = .ok (.value (.agg (y.D.map v8).toArray)) w2 := load_fid (o := 0) HY.out.ok.len K2.range); (have lc : (loadOp 23 (.pointer (some ⟨g, 3, none⟩))).run Tryz.prog w2 = .ok (.value (.agg #[.int .i64 x.N, .int .i64 x.O])) w2 := load_fbal (o := 0) hk2.range); (have ld : (loadOp 23 (.pointer (some ⟨g2, 3, none⟩))).run Tryz.prog w2 = .ok (.value (.agg #[.int .i64 y.N, .int .i64 y.O])) w2 := load_fbal (o := 0) K2.range); clear K2 B2 hk2)
      | (go_at_call 14; refine (same_any x.B y.B m k q r c d w2 HM.out.symm HK.out.symm (HX.out.at_.below HB2.out) (HY.out.at_.below HB2.out) HX.out.ok.B HY.out.ok.B).mono ?_; rw [← HBB.out]; rintro e w' ⟨rfl, rfl⟩)
      | (refine BigFrame.wpList_want rfl (fun K hK => wp_eql_arr 25 (.tmp 33) (.tmp 35) _ rfl 5 32 .u8 Tryz.underlying25 Tryz.underlying5 kslice1 x.D y.D rfl rfl HX.out.ok.len HY.out.ok.len (hK _ _ ?_))))
    go_ret
    exact ⟨congrArg (fun b => Ending.returned (Value.bool b)) (by rw [HE.out]; rw [EK.out]; simp), HB2.out⟩
end
section
set_option linter.unusedSimpArgs false
set_option linter.unusedVariables false
open Go.RowKit Sha
variable {P : Program} {V : Type} {S : Shp V}
theorem row_kind {w : World} {B n size : Nat} {e : TypeId} {v : Value} {xs : List Value} (h : w.ownsRow B e size v n xs) : ∀ k, v.ownBlock = some k → ∃ c fz, w.heap[k]? = some (.cells c e fz) := by
  intro k hk
  rcases h.2 with ⟨hv, _⟩ | ⟨g, cap, cur, hv, _, hh, _⟩
  · rw [hv] at hk; cases hk
  · rw [hv] at hk; cases hk; exact ⟨_, _, hh⟩
theorem row_base {w : World} {B n size : Nat} {e : TypeId} {v : Value} {xs : List Value} (h : w.ownsRow B e size v n xs) : ∀ k, v.ownBlock = some k → B ≤ k := by
  intro k hk
  rcases h.2 with ⟨hv, _⟩ | ⟨g, cap, cur, hv, hg, hh, _⟩
  · rw [hv] at hk; cases hk
  · rw [hv] at hk; cases hk; exact hg
theorem row_carry {w w' : World} {B n size : Nat} {e : TypeId} {v : Value} {xs : List Value} (h : w.ownsRow B e size v n xs) (hc : ∀ k c fz, v.ownBlock = some k → w.heap[k]? = some (.cells c e fz) → w'.heap[k]? = some (.cells c e fz)) : w'.ownsRow B e size v n xs := by
  refine ⟨h.1, ?_⟩
  rcases h.2 with h | ⟨g, cap, cur, hv, hg, hh, h4⟩
  · exact Or.inl h
  · exact Or.inr ⟨g, cap, cur, hv, hg, hc g _ _ (by rw [hv]; rfl) hh, h4⟩
/-- Bytes that do not lie in a block. -/
def OutOf (g : Nat) (zs : List Int) (q : Option Addr) : Prop := zs ≠ [] → ∀ a, q = some a → a.block ≠ g
theorem At.ofBlk {w : World} {g : Nat} {xs rest : List Value} {t : TypeId} (h : Blk w g (xs ++ rest) t) : At w (some ⟨g, 0, none⟩) xs := by
  refine Or.inr ⟨g, 0, rfl, fun i v hi => ?_⟩
  rw [Nat.zero_add, h.cell, List.getElem?_append_left (List.getElem?_eq_some_iff.1 hi).1]
  exact hi
end
section
set_option linter.unusedSimpArgs false
set_option linter.unusedVariables false
open Go.RowKit Sha Fct
theorem own_at_s {w : World} {B n size : Nat} {e : TypeId} {v : Value} {xs : List Value} (h : w.ownsRow B e size v n xs) : ∃ p cap, v = .slice p n cap ∧ n ≤ cap ∧ cap ≤ maxLen ∧ At w p xs ∧ xs.length = n * size ∧ (p = none → cap = 0) := by
  have hx := h.1
  rcases h.2 with ⟨hv, h0⟩ | ⟨g, cap, cur, hv, hg, hh, h1, h2, h3, h4⟩
  · subst h0
    refine ⟨none, 0, hv, by omega, by decide, Or.inl (List.eq_nil_of_length_eq_zero (by simpa using hx)), hx, fun _ => rfl⟩
  · refine ⟨_, cap, hv, h1, h2, Or.inr ⟨g, 0, rfl, fun i u hu => ?_⟩, hx, fun h => by cases h⟩
    have := h.cells (g := g) (by rw [hv]; rfl) i u hu
    rwa [Addr.add_mid] at this
end
end Go.Proofs.YtokpabkcaofahaaGreat
