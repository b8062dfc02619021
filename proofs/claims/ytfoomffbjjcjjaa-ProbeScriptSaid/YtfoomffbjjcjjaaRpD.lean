/-
  The reference's Add (written by mkrpd14.py).
-/
import Derived.Test.YtfoomffbjjcjjaaRpQ
import Derived.Test.YtfoomffbjjcjjaaHeldZ2
import Derived.Test.YtfoomffbjjcjjaaHeldAt
namespace Go.Proofs.Ytfoomffbjjcjjaa
set_option linter.unusedSimpArgs false
set_option linter.unusedVariables false
open Go.RowKit Sha Lot
theorem pickV_bd {Ls : List Int} {N : Nat} {n : Int} (hL : ∀ x ∈ Ls, 0 ≤ x) (hn : 1 ≤ n) : 0 ≤ pickV Ls N n ∧ pickV Ls N n < n := by
  unfold pickV
  split
  · omega
  · have h1 := Int.emod_lt_of_pos (lotAt Ls N) (show (0 : Int) < n by omega)
    have h2 := Int.emod_nonneg (lotAt Ls N) (show n ≠ 0 by omega)
    exact ⟨h2, h1⟩
section
attribute [local go_sem ↓] execOp_sliceI execOp_buildI
set_option maxRecDepth 100000 in
set_option maxHeartbeats 16000000 in
theorem radd_any (b : Nat) (fp : List Nat) (s : Rd.St) (x : Int) (bl : Nat) (fl : List Nat) (Ls : List Int) (N : Nat) (w : World) (h : RRep w b fp s) (hl : RefLot w bl fl Ls N) (ha : Apart fp fl) (hN : N ≤ 1000000000) :
    Calls Try.prog 33 #[optr b, v64 x, lptr bl] w (RLDone b fp bl fl Ls (Rd.addS s x Ls N) (Rd.addN s x N) (v64 (Rd.addE s.L x)) w) := by
  obtain ⟨⟨v, hr⟩, hok⟩ := h
  have HOK := Lib.hid (Rd.add_OK hok x Ls N)
  have hn64 := hok.len
  have htl := hok.told
  have X := Lib.hid (RLx.start hr hl ha)
  have HAT := Lib.hid (rat_any b fp s.L s.t v x w hr (by omega))
  have hLs := (refLotOK.lots hl).2.1
  by_cases hx : 1 ≤ x ∧ x ≤ 64
  · have t1 : decide (x < 1) = false := decide_eq_false (by omega)
    have t2 : decide (64 < x) = false := decide_eq_false (by omega)
    by_cases hin : x ∈ s.L
    · have hE : Rd.addE s.L x = 7 := by unfold Rd.addE; rw [if_pos hx, if_pos hin]
      have hS : Rd.addS s x Ls N = s := by unfold Rd.addS; rw [if_neg (by rw [hE]; decide)]
      have hNN : Rd.addN s x N = N := by unfold Rd.addN; rw [if_neg (by rw [hE]; decide)]
      rw [hS] at HOK ⊢
      rw [hE, hNN]
      have hat := Rd.at_mem.2 hin
      rw [show Rd.idx s.L x = (Rd.at_ s.L x : Int) from if_pos hat] at HAT
      have t3 : decide ((0 : Int) ≤ (Rd.at_ s.L x : Int)) = true := decide_eq_true (by omega)
      generalize Rd.at_ s.L x = k at *
      have D := Lib.hid (X.out.done (u := v64 7) hok)
      clear X hE hS hNN hat hin hr hl ha hok hLs hx
      go_enter Try.func33, Try.ntmps33
      go_wp2_with fail
      refine HAT.out.mono ?_
      rintro e w1 ⟨rfl, hw1⟩
      obtain rfl := hw1.symm
      clear hw1
      go_wp2_with fail
      go_ret
      exact D.out
    · have hE : Rd.addE s.L x = 0 := by unfold Rd.addE; rw [if_pos hx, if_neg hin]
      have hS : Rd.addS s x Ls N = ⟨s.L.take (Rd.addK s Ls N) ++ x :: s.L.drop (Rd.addK s Ls N), s.t⟩ := by unfold Rd.addS; rw [if_pos hE]
      have hNN : Rd.addN s x N = N + pickN ((s.L.length : Int) - s.t + 1) := by unfold Rd.addN; rw [if_pos hE]
      rw [hS] at HOK ⊢
      rw [hE, hNN]
      rw [show Rd.idx s.L x = -1 from if_neg (fun h => hin (Rd.at_mem.1 h))] at HAT
      obtain ⟨L, t⟩ := s
      dsimp only at *
      have hpb := pickV_bd (N := N) hLs (show (1 : Int) ≤ (L.length : Int) - t + 1 by omega)
      have HPK := Lib.hid (fun W f0 (hX : RLx w W f0 b fp L t v bl fl Ls N) => refLotOK.pick bl fl Ls N ((L.length : Int) - t + 1) W hX.lt hN (by omega))
      obtain ⟨k, hk⟩ : ∃ k, k = Rd.addK ⟨L, t⟩ Ls N := ⟨_, rfl⟩
      rw [← hk] at HOK ⊢
      have hk2 : (t : Int) + pickV Ls N ((L.length : Int) - t + 1) = (k : Int) := by rw [hk]; unfold Rd.addK; dsimp only; omega
      have hkl : k ≤ L.length := by omega
      have i3 : IntKind.i64.wrap ((t : Int) + pickV Ls N ((L.length : Int) - t + 1)) = (k : Int) := by rw [hk2]; exact IntWalk.i64_in _ (by omega)
      have i1 : IntKind.i64.wrap ((L.length : Int) - t) = (L.length : Int) - t := IntWalk.i64_in _ (by omega)
      have i2 : IntKind.i64.wrap ((L.length : Int) - t + 1) = (L.length : Int) - t + 1 := IntWalk.i64_in _ (by omega)
      generalize pickV Ls N ((L.length : Int) - t + 1) = pv at *
      generalize hpn : pickN ((L.length : Int) - t + 1) = pn at *
      obtain ⟨qT, cT, rfl, hb, hAT, l3, l4, nT⟩ := hr.cells
      obtain ⟨n, hn⟩ : ∃ n, n = L.length := ⟨_, rfl⟩
      have hlT : (L.map v64).length = n * 1 := by rw [List.length_map, hn, Nat.mul_one]
      have HQL := Lib.hid (show (L.take k ++ x :: L.drop k).length = n + 1 from by rw [List.length_append, List.length_cons, List.length_take, List.length_drop]; omega)
      have HER := Lib.hid (show ((L.map v64).take k ++ [v64 x]) ++ (L.map v64).drop k = (L.take k ++ x :: L.drop k).map v64 from by rw [List.map_append, List.map_cons, List.map_take, List.map_drop, List.append_assoc]; rfl)
      have HE3 := Lib.hid (show ((L.map v64).take k).length = k * 1 by rw [List.length_take, List.length_map]; omega)
      have HE4 := Lib.hid (show ((L.map v64).drop k).length = (n - k) * 1 by rw [List.length_drop, List.length_map]; omega)
      have HAX := Lib.hid (fun W fl' N' f0 (hX : RLx w W f0 b fp L t (.slice qT n cT) bl fl' Ls N') => (show At W qT (L.map v64) from by obtain ⟨q', c', hv, _, hA, _⟩ := hX.rr.cells; cases hv; exact hA))
      rw [← hn] at X HPK hn64 htl hkl l3 i1 i2
      have HN3 := Lib.hid nT
      have HN4 := Lib.hid (rest_nil (k := k) (s := 1) (n := n) nT)
      unfold maxLen at l4
      have HLN := Lib.hid hn
      clear hS hE hNN hr hl ha hok hLs hx hk hk2 hpb hpn hb hAT nT hn hin hlT
      go_enter Try.func33, Try.ntmps33
      go_wp2_with fail
      refine HAT.out.mono ?_
      rintro e w1 ⟨rfl, hw1⟩
      obtain rfl := hw1.symm
      clear hw1 HAT
      go_wp2_with fail
      have XD := Lib.hid (X.out.on (Below.refl _ _).drew)
      have HPD := Lib.hid (HPK.out _ _ XD.out)
      clear X HPK
      refine wp_region_held_drew (S := (fun w' => w'.cell? ⟨b, 0, none⟩ = some (.slice qT n cT) ∧ w'.cell? ⟨b, 1, none⟩ = some (v64 t))) (by kernel_rfl) ⟨XD.out.rr.blk.cell 0, XD.out.rr.blk.cell 1⟩ (fun hHeld => ?_)
      refine take_at 0 (by kernel_rfl) (v := ?v101) (by kernel_rfl) (by kernel_rfl) (by kernel_rfl) (fun _ _ _ h => h) (by rfl) ?y101 (by assumption) ?r101
      case y101 => (intro w hSw; (try dsimp only at hSw); (obtain ⟨hSa, hSb⟩ := hSw); simp only [List.getElem_cons_succ, List.getElem_cons_zero]; go_simp; (try with_reducible rfl))
      try simp only [List.getElem_cons_succ, List.getElem_cons_zero, Act.put, List.setIfInBounds_toArray, List.set_cons_zero, List.set_cons_succ]
      refine take_at 1 (by kernel_rfl) (v := ?v102) (by kernel_rfl) (by kernel_rfl) (by kernel_rfl) (fun _ _ _ h => h) (by rfl) ?y102 (by assumption) ?r102
      case y102 => (intro w hSw; (try dsimp only at hSw); (obtain ⟨hSa, hSb⟩ := hSw); simp only [List.getElem_cons_succ, List.getElem_cons_zero]; go_simp; (try with_reducible rfl))
      try simp only [List.getElem_cons_succ, List.getElem_cons_zero, Act.put, List.setIfInBounds_toArray, List.set_cons_zero, List.set_cons_succ]
      refine take_at 2 (by kernel_rfl) (v := ?v103) (by kernel_rfl) (by kernel_rfl) (by kernel_rfl) (fun _ _ _ h => h) (by rfl) ?y103 (by assumption) ?r103
      case y103 => (intro w hSw; (try dsimp only at hSw); (obtain ⟨hSa, hSb⟩ := hSw); simp only [List.getElem_cons_succ, List.getElem_cons_zero]; go_simp; (try with_reducible rfl))
      try simp only [List.getElem_cons_succ, List.getElem_cons_zero, Act.put, List.setIfInBounds_toArray, List.set_cons_zero, List.set_cons_succ]
      refine take_at 3 (by kernel_rfl) (v := ?v104) (by kernel_rfl) (by kernel_rfl) (by kernel_rfl) (fun _ _ _ h => h) (by rfl) ?y104 (by assumption) ?r104
      case y104 => (intro w hSw; (try dsimp only at hSw); (obtain ⟨hSa, hSb⟩ := hSw); simp only [List.getElem_cons_succ, List.getElem_cons_zero]; go_simp; (try with_reducible rfl))
      try simp only [List.getElem_cons_succ, List.getElem_cons_zero, Act.put, List.setIfInBounds_toArray, List.set_cons_zero, List.set_cons_succ]
      refine take_at 4 (by kernel_rfl) (v := ?v105) (by kernel_rfl) (by kernel_rfl) (by kernel_rfl) (fun _ _ _ h => h) (by rfl) ?y105 (by assumption) ?r105
      case y105 => (intro w hSw; (try dsimp only at hSw); (obtain ⟨hSa, hSb⟩ := hSw); simp only [List.getElem_cons_succ, List.getElem_cons_zero]; go_simp; (try with_reducible rfl))
      try simp only [List.getElem_cons_succ, List.getElem_cons_zero, Act.put, List.setIfInBounds_toArray, List.set_cons_zero, List.set_cons_succ]
      refine take_at 5 (by kernel_rfl) (v := ?v106) (by kernel_rfl) (by kernel_rfl) (by kernel_rfl) (fun _ _ _ h => h) (by rfl) ?y106 (by assumption) ?r106
      case y106 => (intro w hSw; (try dsimp only at hSw); (obtain ⟨hSa, hSb⟩ := hSw); simp only [List.getElem_cons_succ, List.getElem_cons_zero]; go_simp; (try with_reducible rfl))
      try simp only [List.getElem_cons_succ, List.getElem_cons_zero, Act.put, List.setIfInBounds_toArray, List.set_cons_zero, List.set_cons_succ]
      refine take_at 6 (by kernel_rfl) (v := ?v107) (by kernel_rfl) (by kernel_rfl) (by kernel_rfl) (fun _ _ _ h => h) (by rfl) ?y107 (by assumption) ?r107
      case y107 => (intro w hSw; (try dsimp only at hSw); (obtain ⟨hSa, hSb⟩ := hSw); simp only [List.getElem_cons_succ, List.getElem_cons_zero]; go_simp; (try with_reducible rfl))
      try simp only [List.getElem_cons_succ, List.getElem_cons_zero, Act.put, List.setIfInBounds_toArray, List.set_cons_zero, List.set_cons_succ]
      refine take_at 7 (by kernel_rfl) (v := ?v108) (by kernel_rfl) (by kernel_rfl) (by kernel_rfl) (fun _ _ _ h => h) (by rfl) ?y108 (by assumption) ?r108
      case y108 => (intro w hSw; (try dsimp only at hSw); (obtain ⟨hSa, hSb⟩ := hSw); simp only [List.getElem_cons_succ, List.getElem_cons_zero]; go_simp; (try with_reducible rfl))
      try simp only [List.getElem_cons_succ, List.getElem_cons_zero, Act.put, List.setIfInBounds_toArray, List.set_cons_zero, List.set_cons_succ]
      refine take_at 8 (by kernel_rfl) (v := ?v109) (by kernel_rfl) (by kernel_rfl) (by kernel_rfl) (fun _ _ _ h => h) (by rfl) ?y109 (by assumption) ?r109
      case y109 => (intro w hSw; (try dsimp only at hSw); (obtain ⟨hSa, hSb⟩ := hSw); simp only [List.getElem_cons_succ, List.getElem_cons_zero]; go_simp; (try with_reducible rfl))
      try simp only [List.getElem_cons_succ, List.getElem_cons_zero, Act.put, List.setIfInBounds_toArray, List.set_cons_zero, List.set_cons_succ]
      refine take_at 9 (by kernel_rfl) (v := ?v110) (by kernel_rfl) (by kernel_rfl) (by kernel_rfl) (fun _ _ _ h => h) (by rfl) ?y110 (by assumption) ?r110
      case y110 => (intro w hSw; (try dsimp only at hSw); (obtain ⟨hSa, hSb⟩ := hSw); simp only [List.getElem_cons_succ, List.getElem_cons_zero]; go_simp; (try with_reducible rfl))
      try simp only [List.getElem_cons_succ, List.getElem_cons_zero, Act.put, List.setIfInBounds_toArray, List.set_cons_zero, List.set_cons_succ]
      refine take_at 10 (by kernel_rfl) (v := ?v111) (by kernel_rfl) (by kernel_rfl) (by kernel_rfl) (fun _ _ _ h => h) (by rfl) ?y111 (by assumption) ?r111
      case y111 => (intro w hSw; (try dsimp only at hSw); (obtain ⟨hSa, hSb⟩ := hSw); simp only [List.getElem_cons_succ, List.getElem_cons_zero]; go_simp; (try with_reducible rfl))
      try simp only [List.getElem_cons_succ, List.getElem_cons_zero, Act.put, List.setIfInBounds_toArray, List.set_cons_zero, List.set_cons_succ]
      refine take_at 11 (by kernel_rfl) (v := ?v112) (by kernel_rfl) (by kernel_rfl) (by kernel_rfl) (fun _ _ _ h => h) (by rfl) ?y112 (by assumption) ?r112
      case y112 => (intro w hSw; (try dsimp only at hSw); (obtain ⟨hSa, hSb⟩ := hSw); simp only [List.getElem_cons_succ, List.getElem_cons_zero]; go_simp; (try with_reducible rfl))
      try simp only [List.getElem_cons_succ, List.getElem_cons_zero, Act.put, List.setIfInBounds_toArray, List.set_cons_zero, List.set_cons_succ]
      refine take_at 12 (by kernel_rfl) (v := ?v113) (by kernel_rfl) (by kernel_rfl) (by kernel_rfl) (fun _ _ _ h => h) (by rfl) ?y113 (by assumption) ?r113
      case y113 => (intro w hSw; (try dsimp only at hSw); (obtain ⟨hSa, hSb⟩ := hSw); simp only [List.getElem_cons_succ, List.getElem_cons_zero]; go_simp; (try with_reducible rfl))
      try simp only [List.getElem_cons_succ, List.getElem_cons_zero, Act.put, List.setIfInBounds_toArray, List.set_cons_zero, List.set_cons_succ]
      refine take_at 13 (by kernel_rfl) (v := ?v114) (by kernel_rfl) (by kernel_rfl) (by kernel_rfl) (fun _ _ _ h => h) (by rfl) ?y114 (by assumption) ?r114
      case y114 => (intro w hSw; (try dsimp only at hSw); (obtain ⟨hSa, hSb⟩ := hSw); simp only [List.getElem_cons_succ, List.getElem_cons_zero]; go_simp; (try with_reducible rfl))
      try simp only [List.getElem_cons_succ, List.getElem_cons_zero, Act.put, List.setIfInBounds_toArray, List.set_cons_zero, List.set_cons_succ]
      refine take_at 14 (by kernel_rfl) (v := ?v115) (by kernel_rfl) (by kernel_rfl) (by kernel_rfl) (fun _ _ _ h => h) (by rfl) ?y115 (by assumption) ?r115
      case y115 => (intro w hSw; (try dsimp only at hSw); (obtain ⟨hSa, hSb⟩ := hSw); simp only [List.getElem_cons_succ, List.getElem_cons_zero]; go_simp; (try with_reducible rfl))
      try simp only [List.getElem_cons_succ, List.getElem_cons_zero, Act.put, List.setIfInBounds_toArray, List.set_cons_zero, List.set_cons_succ]
      refine take_at 15 (by kernel_rfl) (v := ?v116) (by kernel_rfl) (by kernel_rfl) (by kernel_rfl) (fun _ _ _ h => h) (by rfl) ?y116 (by assumption) ?r116
      case y116 => (intro w hSw; (try dsimp only at hSw); (obtain ⟨hSa, hSb⟩ := hSw); simp only [List.getElem_cons_succ, List.getElem_cons_zero]; go_simp; (try with_reducible rfl))
      try simp only [List.getElem_cons_succ, List.getElem_cons_zero, Act.put, List.setIfInBounds_toArray, List.set_cons_zero, List.set_cons_succ]
      refine ready_at 16 (by kernel_rfl) (by kernel_rfl) (fun K hK => ?_)
      simp only [List.getElem_cons_succ, List.getElem_cons_zero]
      go_simp
      go_at_call 45
      refine HPD.out.mono ?_
      rintro e wt ⟨rfl, fl2, hr, ht, hf⟩
      have X2 := Lib.hid (XD.out.lots hr ht hf)
      clear hr ht hf HPD XD
      (try go_wp2_with fail)
      refine hK.out _ _ ⟨X2.out.rr.blk.cell 0, X2.out.rr.blk.cell 1⟩ (fun hHeld => ?_)
      clear hK K
      try simp only [List.getElem_cons_succ, List.getElem_cons_zero, Act.put, List.setIfInBounds_toArray, List.set_cons_zero, List.set_cons_succ]
      refine take_at 17 (by kernel_rfl) (v := ?v117) (by kernel_rfl) (by kernel_rfl) (by kernel_rfl) (fun _ _ _ h => h) (by rfl) ?y117 (by assumption) ?r117
      case y117 => (intro w hSw; (try dsimp only at hSw); (obtain ⟨hSa, hSb⟩ := hSw); simp only [List.getElem_cons_succ, List.getElem_cons_zero]; go_simp; (try with_reducible rfl))
      try simp only [List.getElem_cons_succ, List.getElem_cons_zero, Act.put, List.setIfInBounds_toArray, List.set_cons_zero, List.set_cons_succ]
      refine take_at 18 (by kernel_rfl) (v := ?v118) (by kernel_rfl) (by kernel_rfl) (by kernel_rfl) (fun _ _ _ h => h) (by rfl) ?y118 (by assumption) ?r118
      case y118 => (intro w hSw; (try dsimp only at hSw); (obtain ⟨hSa, hSb⟩ := hSw); simp only [List.getElem_cons_succ, List.getElem_cons_zero]; go_simp; (try with_reducible rfl))
      try simp only [List.getElem_cons_succ, List.getElem_cons_zero, Act.put, List.setIfInBounds_toArray, List.set_cons_zero, List.set_cons_succ]
      refine wpAnyH_done (by kernel_rfl) ?_ _
      have HB := Lib.hid X2.out.rr.blk
      have HA3 := Lib.hid (at_first (HAX.out _ _ _ _ X2.out) k)
      have HA4 := Lib.hid (show At wt (if cT = k then qT else qT.map (·.add (k * 1))) ((L.map v64).drop k) from by have := at_rest (HAX.out _ _ _ _ X2.out) (show (L.map v64).length = n * 1 by rw [List.length_map, ← HLN.out, Nat.mul_one]) (show k ≤ n by omega) l3; rwa [Nat.mul_one k] at this ⊢)
      have kT1 := fun W => run_sliceOp (run_cutS_h (P := Try.prog) Try.underlying22 isize qT n cT k (by omega) W)
      have kT2 := fun W => run_sliceOp (run_cutS_l (P := Try.prog) Try.underlying22 isize qT n cT k hkl l3 W)
      generalize (if cT = k then qT else qT.map (·.add (k * 1))) = q4 at *
      have HS := Lib.hid (fun W (hb2 : Below wt.heap.size wt W) => (show W.cell? ⟨b, 0, none⟩ = some (.slice qT n cT) ∧ True from ⟨(HB.out.upon hb2).cell 0, trivial⟩))
      clear hHeld HAX
      go_wp2_with fail
      refine wp_region_Z 21 (S := (fun w' => w'.cell? ⟨b, 0, none⟩ = some (.slice qT n cT) ∧ True)) (by kernel_rfl) (HS.out _ ((Below.refl _ _).drew)) (fun hHeld hInv => ?_)
      refine z_take 0 (by kernel_rfl) (v := ?v201) (by kernel_rfl) (by kernel_rfl) (by kernel_rfl) (by kernel_rfl) (fun _ _ _ h => h) (by rfl) ?y201 (by assumption) (by assumption) ?r201
      case y201 => (intro w hSw; (try dsimp only at hSw); (obtain ⟨hSa, hSb⟩ := hSw); simp only [List.getElem_cons_succ, List.getElem_cons_zero]; go_simp; (try with_reducible rfl))
      clear hInv; intro hInv
      try simp only [List.getElem_cons_succ, List.getElem_cons_zero, Act.put, List.setIfInBounds_toArray, List.set_cons_zero, List.set_cons_succ]
      refine z_take 2 (by kernel_rfl) (v := ?v202) (by kernel_rfl) (by kernel_rfl) (by kernel_rfl) (by kernel_rfl) (fun _ _ _ h => h) (by rfl) ?y202 (by assumption) (by assumption) ?r202
      case y202 => (intro w hSw; (try dsimp only at hSw); (obtain ⟨hSa, hSb⟩ := hSw); simp only [List.getElem_cons_succ, List.getElem_cons_zero]; go_simp; (try with_reducible rfl))
      clear hInv; intro hInv
      try simp only [List.getElem_cons_succ, List.getElem_cons_zero, Act.put, List.setIfInBounds_toArray, List.set_cons_zero, List.set_cons_succ]
      refine z_take 3 (by kernel_rfl) (v := ?v203) (by kernel_rfl) (by kernel_rfl) (by kernel_rfl) (by kernel_rfl) (fun _ _ _ h => h) (by rfl) ?y203 (by assumption) (by assumption) ?r203
      case y203 => (intro w hSw; (try dsimp only at hSw); (obtain ⟨hSa, hSb⟩ := hSw); simp only [List.getElem_cons_succ, List.getElem_cons_zero]; go_simp; (try with_reducible rfl))
      clear hInv; intro hInv
      try simp only [List.getElem_cons_succ, List.getElem_cons_zero, Act.put, List.setIfInBounds_toArray, List.set_cons_zero, List.set_cons_succ]
      refine z_take 4 (by kernel_rfl) (v := ?v204) (by kernel_rfl) (by kernel_rfl) (by kernel_rfl) (by kernel_rfl) (fun _ _ _ h => h) (by rfl) ?y204 (by assumption) (by assumption) ?r204
      case y204 => (intro w hSw; (try dsimp only at hSw); (obtain ⟨hSa, hSb⟩ := hSw); simp only [List.getElem_cons_succ, List.getElem_cons_zero]; go_simp; (try with_reducible rfl))
      clear hInv; intro hInv
      try simp only [List.getElem_cons_succ, List.getElem_cons_zero, Act.put, List.setIfInBounds_toArray, List.set_cons_zero, List.set_cons_succ]
      refine z_take 5 (by kernel_rfl) (v := ?v205) (by kernel_rfl) (by kernel_rfl) (by kernel_rfl) (by kernel_rfl) (fun _ _ _ h => h) (by rfl) ?y205 (by assumption) (by assumption) ?r205
      case y205 => (intro w hSw; (try dsimp only at hSw); (obtain ⟨hSa, hSb⟩ := hSw); simp only [List.getElem_cons_succ, List.getElem_cons_zero]; go_simp; (try with_reducible rfl))
      clear hInv; intro hInv
      try simp only [List.getElem_cons_succ, List.getElem_cons_zero, Act.put, List.setIfInBounds_toArray, List.set_cons_zero, List.set_cons_succ]
      refine z_take 6 (by kernel_rfl) (v := ?v206) (by kernel_rfl) (by kernel_rfl) (by kernel_rfl) (by kernel_rfl) (fun _ _ _ h => h) (by rfl) ?y206 (by assumption) (by assumption) ?r206
      case y206 => (intro w hSw; (try dsimp only at hSw); (obtain ⟨hSa, hSb⟩ := hSw); simp only [List.getElem_cons_succ, List.getElem_cons_zero]; go_simp; (try with_reducible rfl))
      clear hInv; intro hInv
      try simp only [List.getElem_cons_succ, List.getElem_cons_zero, Act.put, List.setIfInBounds_toArray, List.set_cons_zero, List.set_cons_succ]
      refine z_take 7 (by kernel_rfl) (v := ?v207) (by kernel_rfl) (by kernel_rfl) (by kernel_rfl) (by kernel_rfl) (fun _ _ _ h => h) (by rfl) ?y207 (by assumption) (by assumption) ?r207
      case y207 => (intro w hSw; (try dsimp only at hSw); (obtain ⟨hSa, hSb⟩ := hSw); simp only [List.getElem_cons_succ, List.getElem_cons_zero]; go_simp; (try with_reducible rfl))
      clear hInv; intro hInv
      try simp only [List.getElem_cons_succ, List.getElem_cons_zero, Act.put, List.setIfInBounds_toArray, List.set_cons_zero, List.set_cons_succ]
      refine z_take 9 (by kernel_rfl) (v := ?v208) (by kernel_rfl) (by kernel_rfl) (by kernel_rfl) (by kernel_rfl) (fun _ _ _ h => h) (by rfl) ?y208 (by assumption) (by assumption) ?r208
      case y208 => (intro w hSw; (try dsimp only at hSw); (obtain ⟨hSa, hSb⟩ := hSw); simp only [List.getElem_cons_succ, List.getElem_cons_zero]; go_simp; (try with_reducible rfl))
      clear hInv; intro hInv
      try simp only [List.getElem_cons_succ, List.getElem_cons_zero, Act.put, List.setIfInBounds_toArray, List.set_cons_zero, List.set_cons_succ]
      refine z_take 12 (by kernel_rfl) (v := ?v209) (by kernel_rfl) (by kernel_rfl) (by kernel_rfl) (by kernel_rfl) (fun _ _ _ h => h) (by rfl) ?y209 (by assumption) (by assumption) ?r209
      case y209 => (intro w hSw; (try dsimp only at hSw); (obtain ⟨hSa, hSb⟩ := hSw); simp only [List.getElem_cons_succ, List.getElem_cons_zero]; go_simp; (try with_reducible rfl))
      clear hInv; intro hInv
      try simp only [List.getElem_cons_succ, List.getElem_cons_zero, Act.put, List.setIfInBounds_toArray, List.set_cons_zero, List.set_cons_succ]
      refine z_take 13 (by kernel_rfl) (v := ?v210) (by kernel_rfl) (by kernel_rfl) (by kernel_rfl) (by kernel_rfl) (fun _ _ _ h => h) (by rfl) ?y210 (by assumption) (by assumption) ?r210
      case y210 => (intro w hSw; (try dsimp only at hSw); (obtain ⟨hSa, hSb⟩ := hSw); simp only [List.getElem_cons_succ, List.getElem_cons_zero]; go_simp; (try with_reducible rfl))
      clear hInv; intro hInv
      try simp only [List.getElem_cons_succ, List.getElem_cons_zero, Act.put, List.setIfInBounds_toArray, List.set_cons_zero, List.set_cons_succ]
      refine z_take 14 (by kernel_rfl) (v := ?v211) (by kernel_rfl) (by kernel_rfl) (by kernel_rfl) (by kernel_rfl) (fun _ _ _ h => h) (by rfl) ?y211 (by assumption) (by assumption) ?r211
      case y211 => (intro w hSw; (try dsimp only at hSw); (obtain ⟨hSa, hSb⟩ := hSw); simp only [List.getElem_cons_succ, List.getElem_cons_zero]; go_simp; (try with_reducible rfl))
      clear hInv; intro hInv
      try simp only [List.getElem_cons_succ, List.getElem_cons_zero, Act.put, List.setIfInBounds_toArray, List.set_cons_zero, List.set_cons_succ]
      refine z_take 15 (by kernel_rfl) (v := ?v212) (by kernel_rfl) (by kernel_rfl) (by kernel_rfl) (by kernel_rfl) (fun _ _ _ h => h) (by rfl) ?y212 (by assumption) (by assumption) ?r212
      case y212 => (intro w hSw; (try dsimp only at hSw); (obtain ⟨hSa, hSb⟩ := hSw); simp only [List.getElem_cons_succ, List.getElem_cons_zero]; go_simp; (try with_reducible rfl))
      clear hInv; intro hInv
      try simp only [List.getElem_cons_succ, List.getElem_cons_zero, Act.put, List.setIfInBounds_toArray, List.set_cons_zero, List.set_cons_succ]
      refine z_take 16 (by kernel_rfl) (v := ?v213) (by kernel_rfl) (by kernel_rfl) (by kernel_rfl) (by kernel_rfl) (fun _ _ _ h => h) (by rfl) ?y213 (by assumption) (by assumption) ?r213
      case y213 => (intro w hSw; (try dsimp only at hSw); (obtain ⟨hSa, hSb⟩ := hSw); simp only [List.getElem_cons_succ, List.getElem_cons_zero]; go_simp; (try with_reducible rfl))
      clear hInv; intro hInv
      try simp only [List.getElem_cons_succ, List.getElem_cons_zero, Act.put, List.setIfInBounds_toArray, List.set_cons_zero, List.set_cons_succ]
      refine z_take 17 (by kernel_rfl) (v := ?v214) (by kernel_rfl) (by kernel_rfl) (by kernel_rfl) (by kernel_rfl) (fun _ _ _ h => h) (by rfl) ?y214 (by assumption) (by assumption) ?r214
      case y214 => (intro w hSw; (try dsimp only at hSw); (obtain ⟨hSa, hSb⟩ := hSw); simp only [List.getElem_cons_succ, List.getElem_cons_zero]; go_simp; (try with_reducible rfl))
      clear hInv; intro hInv
      try simp only [List.getElem_cons_succ, List.getElem_cons_zero, Act.put, List.setIfInBounds_toArray, List.set_cons_zero, List.set_cons_succ]
      refine z_ready2 1 10 (by kernel_rfl) (by kernel_rfl) (by kernel_rfl) (by kernel_rfl) (by kernel_rfl) (by assumption) ?_ ?_
      · intro K hK
        simp only [List.getElem_cons_succ, List.getElem_cons_zero]
        go_simp
        have cB := run_buildI0 wt.drew
        have O0 := own_emptyI wt.drew wt.heap.size (Nat.le_refl _)
        have B0 := Lib.hid (show Below wt.heap.size wt (wt.drew.alloc (.cells #[] it)) from (Below.refl _ _).drew.alloc (Nat.le_refl _) _)
        have HO0 := Lib.hid O0
        clear O0
        rw [show wt.drew.heap.size = wt.heap.size from rfl] at cB HO0
        generalize wt.drew.alloc (.cells #[] it) = w3 at *
        go_simp
        refine hK.out _ _ (HS.out _ B0.out) (fun hHeld hInv => ?_)
        clear hK K
        try simp only [List.getElem_cons_succ, List.getElem_cons_zero, Act.put, List.setIfInBounds_toArray, List.set_cons_zero, List.set_cons_succ]
        refine z_ready2 8 10 (by kernel_rfl) (by kernel_rfl) (by kernel_rfl) (by kernel_rfl) (by kernel_rfl) (by assumption) ?_ ?_
        · intro K hK
          simp only [List.getElem_cons_succ, List.getElem_cons_zero]
          rw [if_pos (by rfl)]
          refine wp_app_s (.tmp 37) (.tmp 43) 22 rfl wt.heap.size it (z := .int .i64 0) (by decide) Try.underlying22 knum_info rfl _ 0 [] (by simp [Act.eval, Act.put]) HO0.out qT k cT ((L.map v64).take k) (by simp [Act.eval, Act.put]; try rfl) (HA3.out.below B0.out) (by rw [HE3.out]) HN3.out (by omega) (fun u hu => one64 _ u (by first | exact List.mem_of_mem_take hu | exact List.mem_of_mem_drop hu)) (by omega) (by unfold maxLen; omega) (B0.out.size) ?_
          intro v4 w4 hvv4 hgv4 _
          have B4 := Lib.hid (grown_below B0.out hgv4 (fun g e => (own_base_w HO0.out g e).1) B0.out.size)
          have O4 := Lib.hid hvv4
          clear hvv4 hgv4
          refine hK.out _ _ (HS.out _ B4.out) (fun hHeld hInv => ?_)
          clear hK K
          try simp only [List.getElem_cons_succ, List.getElem_cons_zero, Act.put, List.setIfInBounds_toArray, List.set_cons_zero, List.set_cons_succ]
          refine z_ready 10 (by kernel_rfl) (by kernel_rfl) (by kernel_rfl) (by assumption) (fun K hK => ?_)
          simp only [List.getElem_cons_succ, List.getElem_cons_zero]
          go_simp
          have cI := run_buildI1 w4 x
          have HA1 := Lib.hid (at_newR w4 [.int .i64 x] it)
          have B1 := Lib.hid (show Below wt.heap.size wt (w4.alloc (.cells #[.int .i64 x] it)) from B4.out.alloc B4.out.size _)
          have O5 := Lib.hid (ownsRow_keepR O4.out fun g e => (((Below.refl w4.heap.size w4).alloc (Nat.le_refl _) (.cells #[.int .i64 x] it))).block g (own_base_w O4.out g e).2)
          generalize w4.alloc (.cells #[.int .i64 x] it) = w5 at *
          go_simp
          refine hK.out _ _ (HS.out _ B1.out) (fun hHeld hInv => ?_)
          clear hK K
          try simp only [List.getElem_cons_succ, List.getElem_cons_zero, Act.put, List.setIfInBounds_toArray, List.set_cons_zero, List.set_cons_succ]
          refine z_ready 11 (by kernel_rfl) (by kernel_rfl) (by kernel_rfl) (by assumption) (fun K hK => ?_)
          simp only [List.getElem_cons_succ, List.getElem_cons_zero]
          rw [if_pos (by rfl)]
          refine wp_app_s (.tmp 44) (.tmp 46) 22 rfl wt.heap.size it (z := .int .i64 0) (by decide) Try.underlying22 knum_info rfl _ (0 + k) ([] ++ (L.map v64).take k) (by simp [Act.eval, Act.put]) O5.out (some ⟨w4.heap.size, 0, none⟩) 1 1 [.int .i64 x] (by simp [Act.eval, Act.put]; try rfl) HA1.out rfl (fun h => by cases h) (by omega) (by intro u hu; rw [List.mem_singleton.1 hu]; rfl) (by omega) (by unfold maxLen; omega) (B1.out.size) ?_
          intro va wa hvva hgva _
          have Ba := Lib.hid (grown_below B1.out hgva (fun g e => (own_base_w O5.out g e).1) B1.out.size)
          have Oa := Lib.hid hvva
          clear hvva hgva
          refine hK.out _ _ (HS.out _ Ba.out) (fun hHeld hInv => ?_)
          clear hK K
          try simp only [List.getElem_cons_succ, List.getElem_cons_zero, Act.put, List.setIfInBounds_toArray, List.set_cons_zero, List.set_cons_succ]
          refine z_ready 18 (by kernel_rfl) (by kernel_rfl) (by kernel_rfl) (by assumption) (fun K hK => ?_)
          simp only [List.getElem_cons_succ, List.getElem_cons_zero]
          rw [if_pos (by rfl)]
          refine wp_app_s (.tmp 47) (.tmp 53) 22 rfl wt.heap.size it (z := .int .i64 0) (by decide) Try.underlying22 knum_info rfl _ (0 + k + 1) ([] ++ (L.map v64).take k ++ [.int .i64 x]) (by simp [Act.eval, Act.put]) Oa.out q4 (n - k) (cT - k) ((L.map v64).drop k) (by simp [Act.eval, Act.put]; try rfl) (HA4.out.below Ba.out) (by rw [HE4.out]) HN4.out (by omega) (fun u hu => one64 _ u (by first | exact List.mem_of_mem_take hu | exact List.mem_of_mem_drop hu)) (by omega) (by unfold maxLen; omega) (Ba.out.size) ?_
          intro vb wb hvvb hgvb _
          have Bb := Lib.hid (grown_below Ba.out hgvb (fun g e => (own_base_w Oa.out g e).1) Ba.out.size)
          have Ob := Lib.hid hvvb
          clear hvvb hgvb
          refine hK.out _ _ (HS.out _ Bb.out) (fun hHeld hInv => ?_)
          clear hK K
          try simp only [List.getElem_cons_succ, List.getElem_cons_zero, Act.put, List.setIfInBounds_toArray, List.set_cons_zero, List.set_cons_succ]
          refine z_take 19 (by kernel_rfl) (v := ?v215) (by kernel_rfl) (by kernel_rfl) (by kernel_rfl) (by kernel_rfl) (fun _ _ _ h => h) (by rfl) ?y215 (by assumption) (by assumption) ?r215
          case y215 => (intro w hSw; (try dsimp only at hSw); (obtain ⟨hSa, hSb⟩ := hSw); simp only [List.getElem_cons_succ, List.getElem_cons_zero]; go_simp; (try with_reducible rfl))
          clear hInv; intro hInv
          try simp only [List.getElem_cons_succ, List.getElem_cons_zero, Act.put, List.setIfInBounds_toArray, List.set_cons_zero, List.set_cons_succ]
          refine z_take 20 (by kernel_rfl) (v := ?v216) (by kernel_rfl) (by kernel_rfl) (by kernel_rfl) (by kernel_rfl) (fun _ _ _ h => h) (by rfl) ?y216 (by assumption) (by assumption) ?r216
          case y216 => (intro w hSw; (try dsimp only at hSw); (obtain ⟨hSa, hSb⟩ := hSw); simp only [List.getElem_cons_succ, List.getElem_cons_zero]; go_simp; (try with_reducible rfl))
          clear hInv; intro hInv
          try simp only [List.getElem_cons_succ, List.getElem_cons_zero, Act.put, List.setIfInBounds_toArray, List.set_cons_zero, List.set_cons_succ]
          refine z_last 21 (by kernel_rfl) rfl (by kernel_rfl) (by kernel_rfl) (fun K hK => ?_)
          simp only [List.getElem_cons_succ, List.getElem_cons_zero]
          go_simp
          have Oc := Lib.hid (show wb.ownsRow wt.heap.size it 1 vb (n + 1) ((L.take k ++ x :: L.drop k).map v64) from by have h1 := Ob.out; rw [List.nil_append, HER.out, show 0 + k + 1 + (n - k) = n + 1 by omega] at h1; exact h1)
          obtain ⟨p9, c9, hv9, _, _, _, _, _⟩ := own_at_s Oc.out
          subst hv9
          have d9 : wb.cell? ⟨b, 0, none⟩ = some (.slice qT n cT) := (HB.out.upon Bb.out).cell 0
          have f9 : wb.frozen? ⟨b, 0, none⟩ = false := (HB.out.upon Bb.out).free 0
          (try go_simp)
          refine hK.out _ _ ?_
          clear hK K
          have XE := Lib.hid ((X2.out.on Bb.out).row Oc.out HQL.out X2.out.rr.low X2.out.touch.size (fun g e hin => by have h1 := (own_base_w Oc.out g e).1; have h2 := refLotOK.low X2.out.lt g hin; omega))
          go_wp2_with fail
          go_ret
          exact XE.out.done (s' := ⟨L.take k ++ x :: L.drop k, t⟩) HOK.out
        · intro K hK
          simp only [List.getElem_cons_succ, List.getElem_cons_zero]
          go_simp
          have cI := run_buildI1 w3 x
          have HA1 := Lib.hid (at_newR w3 [.int .i64 x] it)
          have B1 := Lib.hid (show Below wt.heap.size wt (w3.alloc (.cells #[.int .i64 x] it)) from B0.out.alloc B0.out.size _)
          have O3 := Lib.hid (ownsRow_keepR HO0.out fun g e => (((Below.refl w3.heap.size w3).alloc (Nat.le_refl _) (.cells #[.int .i64 x] it))).block g (own_base_w HO0.out g e).2)
          have HLT3 := Lib.hid (show w3.heap.size < (w3.alloc (.cells #[.int .i64 x] it)).heap.size from by simp)
          have NEQ3 := Lib.hid (fun g (e : (Value.slice (some ⟨wt.heap.size, 0, none⟩) 0 0).ownBlock = some g) => (own_base_w HO0.out g e).2)
          generalize w3.alloc (.cells #[.int .i64 x] it) = w4 at *
          go_simp
          refine hK.out _ _ (HS.out _ B1.out) (fun hHeld hInv => ?_)
          clear hK K
          try simp only [List.getElem_cons_succ, List.getElem_cons_zero, Act.put, List.setIfInBounds_toArray, List.set_cons_zero, List.set_cons_succ]
          refine z_ready 8 (by kernel_rfl) (by kernel_rfl) (by kernel_rfl) (by assumption) (fun K hK => ?_)
          simp only [List.getElem_cons_succ, List.getElem_cons_zero]
          rw [if_pos (by rfl)]
          refine wp_app_s (.tmp 37) (.tmp 43) 22 rfl wt.heap.size it (z := .int .i64 0) (by decide) Try.underlying22 knum_info rfl _ 0 [] (by simp [Act.eval, Act.put]) O3.out qT k cT ((L.map v64).take k) (by simp [Act.eval, Act.put]; try rfl) (HA3.out.below B1.out) (by rw [HE3.out]) HN3.out (by omega) (fun u hu => one64 _ u (by first | exact List.mem_of_mem_take hu | exact List.mem_of_mem_drop hu)) (by omega) (by unfold maxLen; omega) (B1.out.size) ?_
          intro v5 w5 hvv5 hgv5 _
          have B5 := Lib.hid (grown_below B1.out hgv5 (fun g e => (own_base_w O3.out g e).1) B1.out.size)
          have O5 := Lib.hid hvv5
          have HA5 := Lib.hid (HA1.out.blocks fun a e => by cases e; exact hgv5.block _ HLT3.out (fun e2 => absurd (NEQ3.out _ e2.symm) (Nat.lt_irrefl _)))
          clear hvv5 hgv5
          refine hK.out _ _ (HS.out _ B5.out) (fun hHeld hInv => ?_)
          clear hK K
          try simp only [List.getElem_cons_succ, List.getElem_cons_zero, Act.put, List.setIfInBounds_toArray, List.set_cons_zero, List.set_cons_succ]
          refine z_ready 11 (by kernel_rfl) (by kernel_rfl) (by kernel_rfl) (by assumption) (fun K hK => ?_)
          simp only [List.getElem_cons_succ, List.getElem_cons_zero]
          rw [if_pos (by rfl)]
          refine wp_app_s (.tmp 44) (.tmp 46) 22 rfl wt.heap.size it (z := .int .i64 0) (by decide) Try.underlying22 knum_info rfl _ (0 + k) ([] ++ (L.map v64).take k) (by simp [Act.eval, Act.put]) O5.out (some ⟨w3.heap.size, 0, none⟩) 1 1 [.int .i64 x] (by simp [Act.eval, Act.put]; try rfl) HA5.out rfl (fun h => by cases h) (by omega) (by intro u hu; rw [List.mem_singleton.1 hu]; rfl) (by omega) (by unfold maxLen; omega) (B5.out.size) ?_
          intro va wa hvva hgva _
          have Ba := Lib.hid (grown_below B5.out hgva (fun g e => (own_base_w O5.out g e).1) B5.out.size)
          have Oa := Lib.hid hvva
          clear hvva hgva
          refine hK.out _ _ (HS.out _ Ba.out) (fun hHeld hInv => ?_)
          clear hK K
          try simp only [List.getElem_cons_succ, List.getElem_cons_zero, Act.put, List.setIfInBounds_toArray, List.set_cons_zero, List.set_cons_succ]
          refine z_ready 18 (by kernel_rfl) (by kernel_rfl) (by kernel_rfl) (by assumption) (fun K hK => ?_)
          simp only [List.getElem_cons_succ, List.getElem_cons_zero]
          rw [if_pos (by rfl)]
          refine wp_app_s (.tmp 47) (.tmp 53) 22 rfl wt.heap.size it (z := .int .i64 0) (by decide) Try.underlying22 knum_info rfl _ (0 + k + 1) ([] ++ (L.map v64).take k ++ [.int .i64 x]) (by simp [Act.eval, Act.put]) Oa.out q4 (n - k) (cT - k) ((L.map v64).drop k) (by simp [Act.eval, Act.put]; try rfl) (HA4.out.below Ba.out) (by rw [HE4.out]) HN4.out (by omega) (fun u hu => one64 _ u (by first | exact List.mem_of_mem_take hu | exact List.mem_of_mem_drop hu)) (by omega) (by unfold maxLen; omega) (Ba.out.size) ?_
          intro vb wb hvvb hgvb _
          have Bb := Lib.hid (grown_below Ba.out hgvb (fun g e => (own_base_w Oa.out g e).1) Ba.out.size)
          have Ob := Lib.hid hvvb
          clear hvvb hgvb
          refine hK.out _ _ (HS.out _ Bb.out) (fun hHeld hInv => ?_)
          clear hK K
          try simp only [List.getElem_cons_succ, List.getElem_cons_zero, Act.put, List.setIfInBounds_toArray, List.set_cons_zero, List.set_cons_succ]
          refine z_take 19 (by kernel_rfl) (v := ?v217) (by kernel_rfl) (by kernel_rfl) (by kernel_rfl) (by kernel_rfl) (fun _ _ _ h => h) (by rfl) ?y217 (by assumption) (by assumption) ?r217
          case y217 => (intro w hSw; (try dsimp only at hSw); (obtain ⟨hSa, hSb⟩ := hSw); simp only [List.getElem_cons_succ, List.getElem_cons_zero]; go_simp; (try with_reducible rfl))
          clear hInv; intro hInv
          try simp only [List.getElem_cons_succ, List.getElem_cons_zero, Act.put, List.setIfInBounds_toArray, List.set_cons_zero, List.set_cons_succ]
          refine z_take 20 (by kernel_rfl) (v := ?v218) (by kernel_rfl) (by kernel_rfl) (by kernel_rfl) (by kernel_rfl) (fun _ _ _ h => h) (by rfl) ?y218 (by assumption) (by assumption) ?r218
          case y218 => (intro w hSw; (try dsimp only at hSw); (obtain ⟨hSa, hSb⟩ := hSw); simp only [List.getElem_cons_succ, List.getElem_cons_zero]; go_simp; (try with_reducible rfl))
          clear hInv; intro hInv
          try simp only [List.getElem_cons_succ, List.getElem_cons_zero, Act.put, List.setIfInBounds_toArray, List.set_cons_zero, List.set_cons_succ]
          refine z_last 21 (by kernel_rfl) rfl (by kernel_rfl) (by kernel_rfl) (fun K hK => ?_)
          simp only [List.getElem_cons_succ, List.getElem_cons_zero]
          go_simp
          have Oc := Lib.hid (show wb.ownsRow wt.heap.size it 1 vb (n + 1) ((L.take k ++ x :: L.drop k).map v64) from by have h1 := Ob.out; rw [List.nil_append, HER.out, show 0 + k + 1 + (n - k) = n + 1 by omega] at h1; exact h1)
          obtain ⟨p9, c9, hv9, _, _, _, _, _⟩ := own_at_s Oc.out
          subst hv9
          have d9 : wb.cell? ⟨b, 0, none⟩ = some (.slice qT n cT) := (HB.out.upon Bb.out).cell 0
          have f9 : wb.frozen? ⟨b, 0, none⟩ = false := (HB.out.upon Bb.out).free 0
          (try go_simp)
          refine hK.out _ _ ?_
          clear hK K
          have XE := Lib.hid ((X2.out.on Bb.out).row Oc.out HQL.out X2.out.rr.low X2.out.touch.size (fun g e hin => by have h1 := (own_base_w Oc.out g e).1; have h2 := refLotOK.low X2.out.lt g hin; omega))
          go_wp2_with fail
          go_ret
          exact XE.out.done (s' := ⟨L.take k ++ x :: L.drop k, t⟩) HOK.out
      · intro K hK
        simp only [List.getElem_cons_succ, List.getElem_cons_zero]
        go_simp
        have cI := run_buildI1 wt.drew x
        have HA1 := Lib.hid (at_newR wt.drew [.int .i64 x] it)
        have B1 := Lib.hid (show Below wt.heap.size wt (wt.drew.alloc (.cells #[.int .i64 x] it)) from (Below.refl _ _).drew.alloc (Nat.le_refl _) _)
        rw [show wt.drew.heap.size = wt.heap.size from rfl] at cI HA1
        generalize wt.drew.alloc (.cells #[.int .i64 x] it) = w3 at *
        go_simp
        refine hK.out _ _ (HS.out _ B1.out) (fun hHeld hInv => ?_)
        clear hK K
        try simp only [List.getElem_cons_succ, List.getElem_cons_zero, Act.put, List.setIfInBounds_toArray, List.set_cons_zero, List.set_cons_succ]
        refine z_ready 1 (by kernel_rfl) (by kernel_rfl) (by kernel_rfl) (by assumption) (fun K hK => ?_)
        simp only [List.getElem_cons_succ, List.getElem_cons_zero]
        go_simp
        have cB := run_buildI0 w3
        have O0 := own_emptyI w3 wt.heap.size (B1.out.size)
        have B0 := Lib.hid (show Below wt.heap.size wt (w3.alloc (.cells #[] it)) from B1.out.alloc B1.out.size _)
        have HO0 := Lib.hid O0
        clear O0
        have HA2 := Lib.hid (HA1.out.below ((Below.refl w3.heap.size w3).alloc (Nat.le_refl _) (.cells #[] it)))
        have HLT4 := Lib.hid (show wt.heap.size < w3.heap.size from by rcases HA1.out with h1 | ⟨g1, o1, e1, hc1⟩; exact absurd h1 (by simp); have h2 := World.block_lt_of_cell? w3 _ (hc1 0 _ rfl); cases e1; exact h2)
        have NEQ4 := Lib.hid (fun g (e : (Value.slice (some ⟨w3.heap.size, 0, none⟩) 0 0).ownBlock = some g) => (show g = w3.heap.size from by cases e; rfl))
        have HSZ4 := Lib.hid (show w3.heap.size < (w3.alloc (.cells #[] it)).heap.size from by simp)
        generalize w3.alloc (.cells #[] it) = w4 at *
        go_simp
        refine hK.out _ _ (HS.out _ B0.out) (fun hHeld hInv => ?_)
        clear hK K
        try simp only [List.getElem_cons_succ, List.getElem_cons_zero, Act.put, List.setIfInBounds_toArray, List.set_cons_zero, List.set_cons_succ]
        refine z_ready 8 (by kernel_rfl) (by kernel_rfl) (by kernel_rfl) (by assumption) (fun K hK => ?_)
        simp only [List.getElem_cons_succ, List.getElem_cons_zero]
        rw [if_pos (by rfl)]
        refine wp_app_s (.tmp 37) (.tmp 43) 22 rfl wt.heap.size it (z := .int .i64 0) (by decide) Try.underlying22 knum_info rfl _ 0 [] (by simp [Act.eval, Act.put]) HO0.out qT k cT ((L.map v64).take k) (by simp [Act.eval, Act.put]; try rfl) (HA3.out.below B0.out) (by rw [HE3.out]) HN3.out (by omega) (fun u hu => one64 _ u (by first | exact List.mem_of_mem_take hu | exact List.mem_of_mem_drop hu)) (by omega) (by unfold maxLen; omega) (B0.out.size) ?_
        intro v5 w5 hvv5 hgv5 _
        have B5 := Lib.hid (grown_below B0.out hgv5 (fun g e => (own_base_w HO0.out g e).1) B0.out.size)
        have O5 := Lib.hid hvv5
        have HA5 := Lib.hid (HA2.out.blocks fun a e => by cases e; exact hgv5.block _ (by have := HLT4.out; have := HSZ4.out; show wt.heap.size < _; omega) (fun e2 => by have h1 := NEQ4.out _ e2.symm; have h2 := HLT4.out; have h1 : wt.heap.size = w3.heap.size := h1; omega))
        clear hvv5 hgv5
        refine hK.out _ _ (HS.out _ B5.out) (fun hHeld hInv => ?_)
        clear hK K
        try simp only [List.getElem_cons_succ, List.getElem_cons_zero, Act.put, List.setIfInBounds_toArray, List.set_cons_zero, List.set_cons_succ]
        refine z_ready 11 (by kernel_rfl) (by kernel_rfl) (by kernel_rfl) (by assumption) (fun K hK => ?_)
        simp only [List.getElem_cons_succ, List.getElem_cons_zero]
        rw [if_pos (by rfl)]
        refine wp_app_s (.tmp 44) (.tmp 46) 22 rfl wt.heap.size it (z := .int .i64 0) (by decide) Try.underlying22 knum_info rfl _ (0 + k) ([] ++ (L.map v64).take k) (by simp [Act.eval, Act.put]) O5.out (some ⟨wt.heap.size, 0, none⟩) 1 1 [.int .i64 x] (by simp [Act.eval, Act.put]; try rfl) HA5.out rfl (fun h => by cases h) (by omega) (by intro u hu; rw [List.mem_singleton.1 hu]; rfl) (by omega) (by unfold maxLen; omega) (B5.out.size) ?_
        intro va wa hvva hgva _
        have Ba := Lib.hid (grown_below B5.out hgva (fun g e => (own_base_w O5.out g e).1) B5.out.size)
        have Oa := Lib.hid hvva
        clear hvva hgva
        refine hK.out _ _ (HS.out _ Ba.out) (fun hHeld hInv => ?_)
        clear hK K
        try simp only [List.getElem_cons_succ, List.getElem_cons_zero, Act.put, List.setIfInBounds_toArray, List.set_cons_zero, List.set_cons_succ]
        refine z_ready 18 (by kernel_rfl) (by kernel_rfl) (by kernel_rfl) (by assumption) (fun K hK => ?_)
        simp only [List.getElem_cons_succ, List.getElem_cons_zero]
        rw [if_pos (by rfl)]
        refine wp_app_s (.tmp 47) (.tmp 53) 22 rfl wt.heap.size it (z := .int .i64 0) (by decide) Try.underlying22 knum_info rfl _ (0 + k + 1) ([] ++ (L.map v64).take k ++ [.int .i64 x]) (by simp [Act.eval, Act.put]) Oa.out q4 (n - k) (cT - k) ((L.map v64).drop k) (by simp [Act.eval, Act.put]; try rfl) (HA4.out.below Ba.out) (by rw [HE4.out]) HN4.out (by omega) (fun u hu => one64 _ u (by first | exact List.mem_of_mem_take hu | exact List.mem_of_mem_drop hu)) (by omega) (by unfold maxLen; omega) (Ba.out.size) ?_
        intro vb wb hvvb hgvb _
        have Bb := Lib.hid (grown_below Ba.out hgvb (fun g e => (own_base_w Oa.out g e).1) Ba.out.size)
        have Ob := Lib.hid hvvb
        clear hvvb hgvb
        refine hK.out _ _ (HS.out _ Bb.out) (fun hHeld hInv => ?_)
        clear hK K
        try simp only [List.getElem_cons_succ, List.getElem_cons_zero, Act.put, List.setIfInBounds_toArray, List.set_cons_zero, List.set_cons_succ]
        refine z_take 19 (by kernel_rfl) (v := ?v219) (by kernel_rfl) (by kernel_rfl) (by kernel_rfl) (by kernel_rfl) (fun _ _ _ h => h) (by rfl) ?y219 (by assumption) (by assumption) ?r219
        case y219 => (intro w hSw; (try dsimp only at hSw); (obtain ⟨hSa, hSb⟩ := hSw); simp only [List.getElem_cons_succ, List.getElem_cons_zero]; go_simp; (try with_reducible rfl))
        clear hInv; intro hInv
        try simp only [List.getElem_cons_succ, List.getElem_cons_zero, Act.put, List.setIfInBounds_toArray, List.set_cons_zero, List.set_cons_succ]
        refine z_take 20 (by kernel_rfl) (v := ?v220) (by kernel_rfl) (by kernel_rfl) (by kernel_rfl) (by kernel_rfl) (fun _ _ _ h => h) (by rfl) ?y220 (by assumption) (by assumption) ?r220
        case y220 => (intro w hSw; (try dsimp only at hSw); (obtain ⟨hSa, hSb⟩ := hSw); simp only [List.getElem_cons_succ, List.getElem_cons_zero]; go_simp; (try with_reducible rfl))
        clear hInv; intro hInv
        try simp only [List.getElem_cons_succ, List.getElem_cons_zero, Act.put, List.setIfInBounds_toArray, List.set_cons_zero, List.set_cons_succ]
        refine z_last 21 (by kernel_rfl) rfl (by kernel_rfl) (by kernel_rfl) (fun K hK => ?_)
        simp only [List.getElem_cons_succ, List.getElem_cons_zero]
        go_simp
        have Oc := Lib.hid (show wb.ownsRow wt.heap.size it 1 vb (n + 1) ((L.take k ++ x :: L.drop k).map v64) from by have h1 := Ob.out; rw [List.nil_append, HER.out, show 0 + k + 1 + (n - k) = n + 1 by omega] at h1; exact h1)
        obtain ⟨p9, c9, hv9, _, _, _, _, _⟩ := own_at_s Oc.out
        subst hv9
        have d9 : wb.cell? ⟨b, 0, none⟩ = some (.slice qT n cT) := (HB.out.upon Bb.out).cell 0
        have f9 : wb.frozen? ⟨b, 0, none⟩ = false := (HB.out.upon Bb.out).free 0
        (try go_simp)
        refine hK.out _ _ ?_
        clear hK K
        have XE := Lib.hid ((X2.out.on Bb.out).row Oc.out HQL.out X2.out.rr.low X2.out.touch.size (fun g e hin => by have h1 := (own_base_w Oc.out g e).1; have h2 := refLotOK.low X2.out.lt g hin; omega))
        go_wp2_with fail
        go_ret
        exact XE.out.done (s' := ⟨L.take k ++ x :: L.drop k, t⟩) HOK.out
  · have hE : Rd.addE s.L x = 2 := if_neg hx
    have hS : Rd.addS s x Ls N = s := by unfold Rd.addS; rw [if_neg (by rw [hE]; decide)]
    have hNN : Rd.addN s x N = N := by unfold Rd.addN; rw [if_neg (by rw [hE]; decide)]
    rw [hS, hE, hNN]
    have D := Lib.hid (X.out.done (u := v64 2) hok)
    clear X hE hS hNN hr hl ha hok hLs HAT HOK
    by_cases h1 : x < 1
    · have t1 : decide (x < 1) = true := decide_eq_true h1
      clear hx h1
      go_enter Try.func33, Try.ntmps33
      go_wp2_with fail
      go_ret
      exact D.out
    · have t1 : decide (x < 1) = false := decide_eq_false h1
      have t2 : decide (64 < x) = true := decide_eq_true (by omega)
      clear hx h1
      go_enter Try.func33, Try.ntmps33
      go_wp2_with fail
      go_ret
      exact D.out
end
end Go.Proofs.Ytfoomffbjjcjjaa
