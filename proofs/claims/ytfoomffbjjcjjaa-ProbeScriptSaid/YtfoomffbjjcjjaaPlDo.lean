/-
  ProbeScript's act of both (written by mkpld14.py).
-/
import Derived.Test.YtfoomffbjjcjjaaPlC
import Derived.Test.YtfoomffbjjcjjaaHeldAt
namespace Go.Proofs.Ytfoomffbjjcjjaa
set_option linter.unusedSimpArgs false
set_option linter.unusedVariables false
open Go.RowKit Sha Lot
abbrev actT : TypeId := 43
theorem shufN_leP (n : Int) : shufN n ≤ 63 := by unfold shufN; split <;> omega
theorem pickN_leP (n : Int) : pickN n ≤ 1 := by unfold pickN; split <;> omega
theorem nextN_le (s : Rd.St) (N : Nat) : Rd.nextN s N ≤ N + 63 := by
  unfold Rd.nextN Rd.againN
  have := shufN_leP s.L.length
  split
  · omega
  · split <;> omega
theorem addN_le (s : Rd.St) (x : Int) (N : Nat) : Rd.addN s x N ≤ N + 1 := by
  unfold Rd.addN
  have := pickN_leP ((s.L.length : Int) - s.t + 1)
  split <;> omega
/-- Both are as one behind an act. -/
def DoesDone (C1 C2 : ObjRep Cst) (w0 : World) (b1 b2 : Nat) (Ls : List Int) (N : Nat) (e : Ending) (w' : World) : Prop :=
  e = .returned (.bool true) ∧ ∃ f1 f2 s' N', Pair C1 C2 w0 w' b1 f1 (s', (Ls, N')) b2 f2 (s', (Ls, N')) ∧ N' ≤ N + 63
section
set_option maxRecDepth 100000 in
set_option maxHeartbeats 16000000 in
theorem does_any {C1 C2 : ObjRep Cst} {bl bk : Nat} (F1 : CompOK 20 21 22 bl C1) (F2 : CompOK 32 33 34 bk C2)
    (kind x : Int) (w0 w : World) (b1 : Nat) (f1 : List Nat) (b2 : Nat) (f2 : List Nat) (s : Rd.St) (Ls : List Int) (N : Nat) (h : Pair C1 C2 w0 w b1 f1 (s, (Ls, N)) b2 f2 (s, (Ls, N))) (hN : N ≤ 1000000000) :
    Calls Try.prog 16 #[optr b1, optr b2, .agg #[v64 kind, v64 x], lptr bl, lptr bk] w (DoesDone C1 C2 w0 b1 b2 Ls N) := by
  have K1 := Lib.hid F1.held
  have K2 := Lib.hid F2.held
  have HX1 := Lib.hid (fun W f (hc : C1 W b1 f (s, (Ls, N))) => F1.next b1 f s Ls N W hc hN)
  have HX2 := Lib.hid (fun W f (hc : C2 W b2 f (s, (Ls, N))) => F2.next b2 f s Ls N W hc hN)
  have HA1 := Lib.hid (fun W f (hc : C1 W b1 f (s, (Ls, N))) => F1.add b1 f s x Ls N W hc hN)
  have HA2 := Lib.hid (fun W f (hc : C2 W b2 f (s, (Ls, N))) => F2.add b2 f s x Ls N W hc hN)
  have HR1 := Lib.hid (fun W f (hc : C1 W b1 f (s, (Ls, N))) => F1.rem b1 f s x Ls N W hc)
  have HR2 := Lib.hid (fun W f (hc : C2 W b2 f (s, (Ls, N))) => F2.rem b2 f s x Ls N W hc)
  have LX := nextN_le s N
  have LA := addN_le s x N
  generalize Rd.nextS s Ls N = sx at *
  generalize Rd.nextN s N = nx at *
  generalize Rd.nextV s Ls N = vx at *
  generalize Rd.addS s x Ls N = sa at *
  generalize Rd.addN s x N = na at *
  generalize Rd.addE s.L x = ea at *
  generalize Rd.remS s x = sr at *
  generalize Rd.remE s x = er at *
  have ux : (vx == vx) = true := by simp
  have ua : (ea == ea) = true := by simp
  have ur : (er == er) = true := by simp
  have T := Lib.hid (Trio.made K1.out K2.out h #[v64 kind, v64 x] (t := actT))
  have c0 : (w.alloc (.cells #[v64 kind, v64 x] actT)).cell? ⟨w.heap.size, 0, none⟩ = some (v64 kind) := T.out.blk.cell 0
  have HC := Lib.hid (fun W f1 s1 f2 s2 (hT : Trio C1 C2 w0 W b1 f1 s1 b2 f2 s2 w.heap.size #[v64 kind, v64 x].toList actT) => (show W.cell? ⟨w.heap.size, 1, none⟩ = some (v64 x) from hT.blk.cell 1))
  clear h
  by_cases k0 : kind = 0
  · subst k0
    clear HC HA1 HA2 HR1 HR2
    go_enter Try.func16, Try.ntmps16
    go_wp2_with fail
    refine (HX1.out _ _ T.out.pair.one).mono ?_
    rintro e wa ⟨rfl, f1a, hr, ht, hf⟩
    have TA := Lib.hid (T.out.step1 K2.out hr ht hf)
    clear hr ht hf T c0
    go_wp2_with fail
    refine (HX2.out _ _ TA.out.pair.two).mono ?_
    rintro e wb ⟨rfl, f2a, hr, ht, hf⟩
    have TB := Lib.hid (TA.out.step2 K1.out hr ht hf)
    clear hr ht hf TA
    go_wp2_with fail
    try rw [Exit.noGoto_ret]
    go_ret
    exact ⟨rfl, f1a, f2a, sx, nx, TB.out.pair, LX⟩
  by_cases k1 : kind = 1
  · subst k1
    clear HC HA1 HA2 HR1 HR2
    go_enter Try.func16, Try.ntmps16
    go_wp2_with fail
    refine (HX1.out _ _ T.out.pair.one).mono ?_
    rintro e wa ⟨rfl, f1a, hr, ht, hf⟩
    have TA := Lib.hid (T.out.step1 K2.out hr ht hf)
    clear hr ht hf T c0
    go_wp2_with fail
    refine (HX2.out _ _ TA.out.pair.two).mono ?_
    rintro e wb ⟨rfl, f2a, hr, ht, hf⟩
    have TB := Lib.hid (TA.out.step2 K1.out hr ht hf)
    clear hr ht hf TA
    go_wp2_with fail
    try rw [Exit.noGoto_ret]
    go_ret
    exact ⟨rfl, f1a, f2a, sx, nx, TB.out.pair, LX⟩
  by_cases k2 : kind = 2
  · subst k2
    clear HC HA1 HA2 HR1 HR2
    go_enter Try.func16, Try.ntmps16
    go_wp2_with fail
    refine (HX1.out _ _ T.out.pair.one).mono ?_
    rintro e wa ⟨rfl, f1a, hr, ht, hf⟩
    have TA := Lib.hid (T.out.step1 K2.out hr ht hf)
    clear hr ht hf T c0
    go_wp2_with fail
    refine (HX2.out _ _ TA.out.pair.two).mono ?_
    rintro e wb ⟨rfl, f2a, hr, ht, hf⟩
    have TB := Lib.hid (TA.out.step2 K1.out hr ht hf)
    clear hr ht hf TA
    go_wp2_with fail
    try rw [Exit.noGoto_ret]
    go_ret
    exact ⟨rfl, f1a, f2a, sx, nx, TB.out.pair, LX⟩
  by_cases k3 : kind = 3
  · subst k3
    clear HX1 HX2 HR1 HR2
    go_enter Try.func16, Try.ntmps16
    go_wp2_with fail
    have TD := Lib.hid (show Trio C1 C2 w0 (w.alloc (.cells #[v64 3, v64 x] actT)).drew b1 f1 (s, (Ls, N)) b2 f2 (s, (Ls, N)) w.heap.size #[v64 3, v64 x].toList actT from T.out.drewN K1.out K2.out 1)
    clear c0 T
    refine wp_region_held_drew (S := (fun w' => w'.cell? ⟨w.heap.size, 1, none⟩ = some (v64 x))) (by kernel_rfl) (HC.out _ _ _ _ _ TD.out) (fun hHeld => ?_)
    refine take_at 0 (by kernel_rfl) (v := ?v1) (by kernel_rfl) (by kernel_rfl) (by kernel_rfl) (fun _ _ _ h => h) (by rfl) ?y1 (by assumption) ?r1
    case y1 => (intro w hSw; (try dsimp only at hSw); simp only [List.getElem_cons_succ, List.getElem_cons_zero]; go_simp; (try with_reducible rfl))
    try simp only [List.getElem_cons_succ, List.getElem_cons_zero, Act.put, List.setIfInBounds_toArray, List.set_cons_zero, List.set_cons_succ]
    refine take_at 1 (by kernel_rfl) (v := ?v2) (by kernel_rfl) (by kernel_rfl) (by kernel_rfl) (fun _ _ _ h => h) (by rfl) ?y2 (by assumption) ?r2
    case y2 => (intro w hSw; (try dsimp only at hSw); simp only [List.getElem_cons_succ, List.getElem_cons_zero]; go_simp; (try with_reducible rfl))
    try simp only [List.getElem_cons_succ, List.getElem_cons_zero, Act.put, List.setIfInBounds_toArray, List.set_cons_zero, List.set_cons_succ]
    refine take_at 2 (by kernel_rfl) (v := ?v3) (by kernel_rfl) (by kernel_rfl) (by kernel_rfl) (fun _ _ _ h => h) (by rfl) ?y3 (by assumption) ?r3
    case y3 => (intro w hSw; (try dsimp only at hSw); simp only [List.getElem_cons_succ, List.getElem_cons_zero]; go_simp; (try with_reducible rfl))
    try simp only [List.getElem_cons_succ, List.getElem_cons_zero, Act.put, List.setIfInBounds_toArray, List.set_cons_zero, List.set_cons_succ]
    refine take_at 3 (by kernel_rfl) (v := ?v4) (by kernel_rfl) (by kernel_rfl) (by kernel_rfl) (fun _ _ _ h => h) (by rfl) ?y4 (by assumption) ?r4
    case y4 => (intro w hSw; (try dsimp only at hSw); simp only [List.getElem_cons_succ, List.getElem_cons_zero]; go_simp; (try with_reducible rfl))
    try simp only [List.getElem_cons_succ, List.getElem_cons_zero, Act.put, List.setIfInBounds_toArray, List.set_cons_zero, List.set_cons_succ]
    refine take_at 5 (by kernel_rfl) (v := ?v5) (by kernel_rfl) (by kernel_rfl) (by kernel_rfl) (fun _ _ _ h => h) (by rfl) ?y5 (by assumption) ?r5
    case y5 => (intro w hSw; (try dsimp only at hSw); simp only [List.getElem_cons_succ, List.getElem_cons_zero]; go_simp; (try with_reducible rfl))
    try simp only [List.getElem_cons_succ, List.getElem_cons_zero, Act.put, List.setIfInBounds_toArray, List.set_cons_zero, List.set_cons_succ]
    refine take_at 6 (by kernel_rfl) (v := ?v6) (by kernel_rfl) (by kernel_rfl) (by kernel_rfl) (fun _ _ _ h => h) (by rfl) ?y6 (by assumption) ?r6
    case y6 => (intro w hSw; (try dsimp only at hSw); simp only [List.getElem_cons_succ, List.getElem_cons_zero]; go_simp; (try with_reducible rfl))
    try simp only [List.getElem_cons_succ, List.getElem_cons_zero, Act.put, List.setIfInBounds_toArray, List.set_cons_zero, List.set_cons_succ]
    refine take_at 7 (by kernel_rfl) (v := ?v7) (by kernel_rfl) (by kernel_rfl) (by kernel_rfl) (fun _ _ _ h => h) (by rfl) ?y7 (by assumption) ?r7
    case y7 => (intro w hSw; (try dsimp only at hSw); simp only [List.getElem_cons_succ, List.getElem_cons_zero]; go_simp; (try with_reducible rfl))
    try simp only [List.getElem_cons_succ, List.getElem_cons_zero, Act.put, List.setIfInBounds_toArray, List.set_cons_zero, List.set_cons_succ]
    refine take_at 8 (by kernel_rfl) (v := ?v8) (by kernel_rfl) (by kernel_rfl) (by kernel_rfl) (fun _ _ _ h => h) (by rfl) ?y8 (by assumption) ?r8
    case y8 => (intro w hSw; (try dsimp only at hSw); simp only [List.getElem_cons_succ, List.getElem_cons_zero]; go_simp; (try with_reducible rfl))
    try simp only [List.getElem_cons_succ, List.getElem_cons_zero, Act.put, List.setIfInBounds_toArray, List.set_cons_zero, List.set_cons_succ]
    refine ready_at 4 (by kernel_rfl) (by kernel_rfl) (fun K hK => ?_)
    simp only [List.getElem_cons_succ, List.getElem_cons_zero]
    go_simp
    go_at_call 21
    refine (HA1.out _ _ TD.out.pair.one).mono ?_
    rintro e wa ⟨rfl, f1a, hr, ht, hf⟩
    have TA := Lib.hid (TD.out.step1 K2.out hr ht hf)
    clear hr ht hf TD
    (try go_wp2_with fail)
    refine hK.out _ _ (HC.out _ _ _ _ _ TA.out) (fun hHeld => ?_)
    clear hK K
    try simp only [List.getElem_cons_succ, List.getElem_cons_zero, Act.put, List.setIfInBounds_toArray, List.set_cons_zero, List.set_cons_succ]
    refine ready_at 9 (by kernel_rfl) (by kernel_rfl) (fun K hK => ?_)
    simp only [List.getElem_cons_succ, List.getElem_cons_zero]
    go_simp
    go_at_call 33
    refine (HA2.out _ _ TA.out.pair.two).mono ?_
    rintro e wb ⟨rfl, f2a, hr, ht, hf⟩
    have TB := Lib.hid (TA.out.step2 K1.out hr ht hf)
    clear hr ht hf TA
    (try go_wp2_with fail)
    refine hK.out _ _ (HC.out _ _ _ _ _ TB.out) (fun hHeld => ?_)
    clear hK K
    try simp only [List.getElem_cons_succ, List.getElem_cons_zero, Act.put, List.setIfInBounds_toArray, List.set_cons_zero, List.set_cons_succ]
    refine take_at 10 (by kernel_rfl) (v := ?v9) (by kernel_rfl) (by kernel_rfl) (by kernel_rfl) (fun _ _ _ h => h) (by rfl) ?y9 (by assumption) ?r9
    case y9 => (intro w hSw; (try dsimp only at hSw); simp only [List.getElem_cons_succ, List.getElem_cons_zero]; go_simp; (try with_reducible rfl))
    try simp only [List.getElem_cons_succ, List.getElem_cons_zero, Act.put, List.setIfInBounds_toArray, List.set_cons_zero, List.set_cons_succ]
    refine take_at 11 (by kernel_rfl) (v := ?v10) (by kernel_rfl) (by kernel_rfl) (by kernel_rfl) (fun _ _ _ h => h) (by rfl) ?y10 (by assumption) ?r10
    case y10 => (intro w hSw; (try dsimp only at hSw); simp only [List.getElem_cons_succ, List.getElem_cons_zero]; go_simp; (try with_reducible rfl))
    try simp only [List.getElem_cons_succ, List.getElem_cons_zero, Act.put, List.setIfInBounds_toArray, List.set_cons_zero, List.set_cons_succ]
    refine wpAnyH_done (by kernel_rfl) ?_ _
    go_wp2_with fail
    try rw [Exit.noGoto_ret]
    go_ret
    exact ⟨rfl, f1a, f2a, sa, na, TB.out.pair, (by omega)⟩
  by_cases k4 : kind = 4
  · subst k4
    clear HX1 HX2 HA1 HA2
    go_enter Try.func16, Try.ntmps16
    go_wp2_with fail
    have TD := Lib.hid (show Trio C1 C2 w0 (w.alloc (.cells #[v64 4, v64 x] actT)).drew b1 f1 (s, (Ls, N)) b2 f2 (s, (Ls, N)) w.heap.size #[v64 4, v64 x].toList actT from T.out.drewN K1.out K2.out 1)
    clear c0 T
    refine wp_region_held_drew (S := (fun w' => w'.cell? ⟨w.heap.size, 1, none⟩ = some (v64 x))) (by kernel_rfl) (HC.out _ _ _ _ _ TD.out) (fun hHeld => ?_)
    refine take_at 0 (by kernel_rfl) (v := ?v11) (by kernel_rfl) (by kernel_rfl) (by kernel_rfl) (fun _ _ _ h => h) (by rfl) ?y11 (by assumption) ?r11
    case y11 => (intro w hSw; (try dsimp only at hSw); simp only [List.getElem_cons_succ, List.getElem_cons_zero]; go_simp; (try with_reducible rfl))
    try simp only [List.getElem_cons_succ, List.getElem_cons_zero, Act.put, List.setIfInBounds_toArray, List.set_cons_zero, List.set_cons_succ]
    refine take_at 1 (by kernel_rfl) (v := ?v12) (by kernel_rfl) (by kernel_rfl) (by kernel_rfl) (fun _ _ _ h => h) (by rfl) ?y12 (by assumption) ?r12
    case y12 => (intro w hSw; (try dsimp only at hSw); simp only [List.getElem_cons_succ, List.getElem_cons_zero]; go_simp; (try with_reducible rfl))
    try simp only [List.getElem_cons_succ, List.getElem_cons_zero, Act.put, List.setIfInBounds_toArray, List.set_cons_zero, List.set_cons_succ]
    refine take_at 2 (by kernel_rfl) (v := ?v13) (by kernel_rfl) (by kernel_rfl) (by kernel_rfl) (fun _ _ _ h => h) (by rfl) ?y13 (by assumption) ?r13
    case y13 => (intro w hSw; (try dsimp only at hSw); simp only [List.getElem_cons_succ, List.getElem_cons_zero]; go_simp; (try with_reducible rfl))
    try simp only [List.getElem_cons_succ, List.getElem_cons_zero, Act.put, List.setIfInBounds_toArray, List.set_cons_zero, List.set_cons_succ]
    refine take_at 4 (by kernel_rfl) (v := ?v14) (by kernel_rfl) (by kernel_rfl) (by kernel_rfl) (fun _ _ _ h => h) (by rfl) ?y14 (by assumption) ?r14
    case y14 => (intro w hSw; (try dsimp only at hSw); simp only [List.getElem_cons_succ, List.getElem_cons_zero]; go_simp; (try with_reducible rfl))
    try simp only [List.getElem_cons_succ, List.getElem_cons_zero, Act.put, List.setIfInBounds_toArray, List.set_cons_zero, List.set_cons_succ]
    refine take_at 5 (by kernel_rfl) (v := ?v15) (by kernel_rfl) (by kernel_rfl) (by kernel_rfl) (fun _ _ _ h => h) (by rfl) ?y15 (by assumption) ?r15
    case y15 => (intro w hSw; (try dsimp only at hSw); simp only [List.getElem_cons_succ, List.getElem_cons_zero]; go_simp; (try with_reducible rfl))
    try simp only [List.getElem_cons_succ, List.getElem_cons_zero, Act.put, List.setIfInBounds_toArray, List.set_cons_zero, List.set_cons_succ]
    refine take_at 6 (by kernel_rfl) (v := ?v16) (by kernel_rfl) (by kernel_rfl) (by kernel_rfl) (fun _ _ _ h => h) (by rfl) ?y16 (by assumption) ?r16
    case y16 => (intro w hSw; (try dsimp only at hSw); simp only [List.getElem_cons_succ, List.getElem_cons_zero]; go_simp; (try with_reducible rfl))
    try simp only [List.getElem_cons_succ, List.getElem_cons_zero, Act.put, List.setIfInBounds_toArray, List.set_cons_zero, List.set_cons_succ]
    refine ready_at 3 (by kernel_rfl) (by kernel_rfl) (fun K hK => ?_)
    simp only [List.getElem_cons_succ, List.getElem_cons_zero]
    go_simp
    go_at_call 22
    refine (HR1.out _ _ TD.out.pair.one).mono ?_
    rintro e wa ⟨rfl, f1a, hr, ht, hf⟩
    have TA := Lib.hid (TD.out.step1 K2.out hr ht hf)
    clear hr ht hf TD
    (try go_wp2_with fail)
    refine hK.out _ _ (HC.out _ _ _ _ _ TA.out) (fun hHeld => ?_)
    clear hK K
    try simp only [List.getElem_cons_succ, List.getElem_cons_zero, Act.put, List.setIfInBounds_toArray, List.set_cons_zero, List.set_cons_succ]
    refine ready_at 7 (by kernel_rfl) (by kernel_rfl) (fun K hK => ?_)
    simp only [List.getElem_cons_succ, List.getElem_cons_zero]
    go_simp
    go_at_call 34
    refine (HR2.out _ _ TA.out.pair.two).mono ?_
    rintro e wb ⟨rfl, f2a, hr, ht, hf⟩
    have TB := Lib.hid (TA.out.step2 K1.out hr ht hf)
    clear hr ht hf TA
    (try go_wp2_with fail)
    refine hK.out _ _ (HC.out _ _ _ _ _ TB.out) (fun hHeld => ?_)
    clear hK K
    try simp only [List.getElem_cons_succ, List.getElem_cons_zero, Act.put, List.setIfInBounds_toArray, List.set_cons_zero, List.set_cons_succ]
    refine take_at 8 (by kernel_rfl) (v := ?v17) (by kernel_rfl) (by kernel_rfl) (by kernel_rfl) (fun _ _ _ h => h) (by rfl) ?y17 (by assumption) ?r17
    case y17 => (intro w hSw; (try dsimp only at hSw); simp only [List.getElem_cons_succ, List.getElem_cons_zero]; go_simp; (try with_reducible rfl))
    try simp only [List.getElem_cons_succ, List.getElem_cons_zero, Act.put, List.setIfInBounds_toArray, List.set_cons_zero, List.set_cons_succ]
    refine take_at 9 (by kernel_rfl) (v := ?v18) (by kernel_rfl) (by kernel_rfl) (by kernel_rfl) (fun _ _ _ h => h) (by rfl) ?y18 (by assumption) ?r18
    case y18 => (intro w hSw; (try dsimp only at hSw); simp only [List.getElem_cons_succ, List.getElem_cons_zero]; go_simp; (try with_reducible rfl))
    try simp only [List.getElem_cons_succ, List.getElem_cons_zero, Act.put, List.setIfInBounds_toArray, List.set_cons_zero, List.set_cons_succ]
    refine wpAnyH_done (by kernel_rfl) ?_ _
    go_wp2_with fail
    try rw [Exit.noGoto_ret]
    go_ret
    exact ⟨rfl, f1a, f2a, sr, N, TB.out.pair, (by omega)⟩
  · have t0 : (kind == 0) = false := by rw [beq_eq_false_iff_ne]; exact k0
    have t1 : (kind == 1) = false := by rw [beq_eq_false_iff_ne]; exact k1
    have t2 : (kind == 2) = false := by rw [beq_eq_false_iff_ne]; exact k2
    have t3 : (kind == 3) = false := by rw [beq_eq_false_iff_ne]; exact k3
    have t4 : (kind == 4) = false := by rw [beq_eq_false_iff_ne]; exact k4
    have D := Lib.hid T.out.pair
    clear k0 k1 k2 k3 k4 T HC HX1 HX2 HA1 HA2 HR1 HR2
    go_enter Try.func16, Try.ntmps16
    go_wp2_with fail
    go_ret
    exact ⟨rfl, f1, f2, s, N, D.out, by omega⟩
end
end Go.Proofs.Ytfoomffbjjcjjaa
