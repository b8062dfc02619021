/-
  The program's Add (written by mkpvg14.py).
-/
import Derived.Test.YtfoomffbjjcjjaaPvF
import Derived.Test.YtfoomffbjjcjjaaInsI
import Derived.Test.YtfoomffbjjcjjaaHeldAt
namespace Go.Proofs.Ytfoomffbjjcjjaa
set_option linter.unusedSimpArgs false
set_option linter.unusedVariables false
open Go.RowKit Sha Lot
theorem lpick_any (lv : Value) (fl : List Nat) (Ls : List Int) (N : Nat) (n : Int) (w : World) (h : LArg ProgLot w lv fl Ls N) (hN : N ≤ 1000000000) (hn : -9223372036854775808 ≤ n ∧ n ≤ 9223372036854775807) :
    Calls Try.prog 38 #[lv, .int .i64 n] w fun e w' => e = .returned (v64 (pickV Ls N n)) ∧ ∃ fl', LArg ProgLot w' lv fl' Ls (N + pickN n) ∧ Touch fl w w' ∧ From fl fl' w := by
  rcases h with ⟨rfl, rfl, rfl⟩ | ⟨bl, rfl, hr⟩
  · refine (zpick_any none n w (noLot w) hn).mono ?_
    rintro e w' ⟨rfl, hb⟩
    refine ⟨?_, [], LArg.bare _ _ _, Touch.of_below hb, From.refl _ _⟩
    congr 1
    unfold pickV lotAt
    split <;> simp
  · refine (lotsOK.ok.pick bl fl Ls N n w hr hN hn).mono ?_
    rintro e w' ⟨rfl, fl', hr', ht, hf⟩
    exact ⟨rfl, fl', Or.inr ⟨bl, rfl, hr'⟩, ht, hf⟩
theorem larg_lots {w : World} {lv : Value} {fl : List Nat} {Ls : List Int} {N : Nat} (h : LArg ProgLot w lv fl Ls N) : ∀ x ∈ Ls, 0 ≤ x := by
  rcases h with ⟨_, _, rfl⟩ | ⟨bl, _, hr⟩
  · intro x hx; simp at hx
  · exact (lotsOK.ok.lots hr).2.1
theorem ppickV_bd {Ls : List Int} {N : Nat} {n : Int} (hL : ∀ x ∈ Ls, 0 ≤ x) (hn : 1 ≤ n) : 0 ≤ pickV Ls N n ∧ pickV Ls N n < n := by
  unfold pickV
  split
  · omega
  · have h1 := Int.emod_lt_of_pos (lotAt Ls N) (show (0 : Int) < n by omega)
    have h2 := Int.emod_nonneg (lotAt Ls N) (show n ≠ 0 by omega)
    exact ⟨h2, h1⟩
theorem one64p (l : List Int) : ∀ u ∈ l.map v64, u.oneCell' = true := fun u hu => by obtain ⟨n, _, rfl⟩ := List.mem_map.1 hu; rfl
theorem PLx.grow {w0 w w' : World} {f0 fp fl : List Nat} {b t N n : Nat} {L Ls Q : List Int} {v v' lv : Value} (h : PLx w0 w f0 b fp L t v lv fl Ls N) (hg : w.grownBy w' v.ownBlock) (O : w'.ownsRow 0 it 1 v' n (Q.map v64)) (hn : Q.length = n) (hb : ∀ g, v'.ownBlock = some g → v.ownBlock = some g ∨ w.heap.size ≤ g) :
    PLx w0 (w'.setCell ⟨b, 1, none⟩ v') f0 b (b :: v'.ownBlock.toList) Q t v' lv fl Ls N := by
  obtain ⟨h1, h2, h3⟩ := h.rr.grewT hg O hn hb
  have hfl := larg_low h.lt
  have hap : Apart (b :: v'.ownBlock.toList) fl := fun k a c => by
    rcases h3 k a with h4 | h4
    · exact h.ap k h4 c
    · have := hfl k c; omega
  refine ⟨h1, larg_keep h.lt fun k hk => ?_, hap, h.touch.trans h2 fun k hk => h.from_ k (List.mem_append.2 (.inl hk)), fun k hk => ?_⟩
  · exact h2.block k (hfl k hk) fun e => h.ap k e hk
  · rcases List.mem_append.1 hk with h4 | h4
    · rcases h3 k h4 with h5 | h5
      · exact h.from_ k (List.mem_append.2 (.inl h5))
      · exact .inr (Nat.le_trans h.touch.size h5)
    · exact h.from_ k (List.mem_append.2 (.inr h4))
section
attribute [local go_sem ↓] execOp_sliceI execOp_buildI
set_option maxRecDepth 100000 in
set_option maxHeartbeats 8000000 in
theorem padd_any (b : Nat) (fp : List Nat) (s : Rd.St) (x : Int) (lv : Value) (fl : List Nat) (Ls : List Int) (N : Nat) (w : World) (h : PRep w b fp s) (hl : LArg ProgLot w lv fl Ls N) (ha : Apart fp fl) (hN : N ≤ 1000000000) :
    Calls Try.prog 21 #[optr b, v64 x, lv] w (PbDone PRep ProgLot b fp lv fl Ls (Rd.addS s x Ls N) (Rd.addN s x N) (v64 (Rd.addE s.L x)) w) := by
  obtain ⟨⟨v, hr⟩, hok⟩ := h
  have HOK := Lib.hid (Rd.add_OK hok x Ls N)
  have hn64 := hok.len
  have htl := hok.told
  have X := Lib.hid (PLx.start hr hl ha)
  have hLs := larg_lots hl
  obtain ⟨q, c, rfl, hb, hA, l1, l2, _⟩ := hr.cells
  have HNO := Lib.hid (rnone_any b _ w hb)
  have c0 : w.cell? ⟨b, 1, none⟩ = some (.slice q s.L.length c) := hb.cell 1
  have HPL := Lib.hid (place_any s.L s.L.length q c x w rfl hA (by omega))
  by_cases hx : 1 ≤ x ∧ x ≤ 64
  · have HMY := Lib.hid (may_any x w)
    rw [decide_eq_true hx] at HMY
    by_cases hin : x ∈ s.L
    · have hE : Rd.addE s.L x = 7 := by unfold Rd.addE; rw [if_pos hx, if_pos hin]
      have hS : Rd.addS s x Ls N = s := by unfold Rd.addS; rw [if_neg (by rw [hE]; decide)]
      have hNN : Rd.addN s x N = N := by unfold Rd.addN; rw [if_neg (by rw [hE]; decide)]
      rw [hS] at HOK ⊢
      rw [hE, hNN]
      rw [show plcIs s.L x = true from decide_eq_true (Rd.at_mem.2 hin)] at HPL
      generalize plcAt s.L x = k at *
      have D := Lib.hid (X.out.pdone (u := v64 7) hok)
      clear X hE hS hNN hin hr hl ha hok hLs hx hb hA
      go_enter Try.func21, Try.ntmps21
      go_wp2_with fail
      refine HNO.out.mono ?_
      rintro e w' ⟨rfl, hw⟩
      obtain rfl := hw.symm
      clear hw HNO
      go_wp2_with fail
      refine HMY.out.mono ?_
      rintro e w' ⟨rfl, hw⟩
      obtain rfl := hw.symm
      clear hw HMY
      go_wp2_with fail
      refine HPL.out.mono ?_
      rintro e w' ⟨rfl, hw⟩
      obtain rfl := hw.symm
      clear hw HPL
      go_wp2_with fail
      go_ret
      exact D.out
    · have hE : Rd.addE s.L x = 0 := by unfold Rd.addE; rw [if_pos hx, if_neg hin]
      have hS : Rd.addS s x Ls N = ⟨s.L.take (Rd.addK s Ls N) ++ x :: s.L.drop (Rd.addK s Ls N), s.t⟩ := by unfold Rd.addS; rw [if_pos hE]
      have hNN : Rd.addN s x N = N + pickN ((s.L.length : Int) - s.t + 1) := by unfold Rd.addN; rw [if_pos hE]
      rw [hS] at HOK ⊢
      rw [hE, hNN]
      rw [show plcIs s.L x = false from decide_eq_false (fun h => hin (Rd.at_mem.1 h))] at HPL
      generalize plcAt s.L x = k0 at *
      obtain ⟨L, t⟩ := s
      dsimp only at *
      have hpb := ppickV_bd (N := N) hLs (show (1 : Int) ≤ (L.length : Int) - t + 1 by omega)
      have HPK := Lib.hid (fun W f0 (hX : PLx w W f0 b fp L t (.slice q L.length c) lv fl Ls N) => lpick_any lv fl Ls N ((L.length : Int) - t + 1) W hX.lt hN (by omega))
      obtain ⟨k, hk⟩ : ∃ k, k = Rd.addK ⟨L, t⟩ Ls N := ⟨_, rfl⟩
      rw [← hk] at HOK ⊢
      have hk2 : (t : Int) + pickV Ls N ((L.length : Int) - t + 1) = (k : Int) := by rw [hk]; unfold Rd.addK; dsimp only; omega
      have hkl : k ≤ L.length := by omega
      have i3 : IntKind.i64.wrap ((t : Int) + pickV Ls N ((L.length : Int) - t + 1)) = (k : Int) := by rw [hk2]; exact IntWalk.i64_in _ (by omega)
      have i1 : IntKind.i64.wrap ((L.length : Int) - t) = (L.length : Int) - t := IntWalk.i64_in _ (by omega)
      have i2 : IntKind.i64.wrap ((L.length : Int) - t + 1) = (L.length : Int) - t + 1 := IntWalk.i64_in _ (by omega)
      generalize pickV Ls N ((L.length : Int) - t + 1) = pv at *
      generalize hpn : pickN ((L.length : Int) - t + 1) = pn at *
      obtain ⟨n, hn⟩ : ∃ n, n = L.length := ⟨_, rfl⟩
      have HQL := Lib.hid (show (L.take k ++ x :: L.drop k).length = n + 1 from by rw [List.length_append, List.length_cons, List.length_take, List.length_drop]; omega)
      have HER := Lib.hid (show (L.map v64).take (k * 1) ++ [v64 x] ++ (L.map v64).drop (k * 1) = (L.take k ++ x :: L.drop k).map v64 from by rw [Nat.mul_one, List.map_append, List.map_cons, List.map_take, List.map_drop, List.append_assoc]; rfl)
      have HIN := Lib.hid (fun W f0 fl' N' (hX : PLx w W f0 b fp L t (.slice q L.length c) lv fl' Ls N') (pb : Nat) (hb : Blk W pb [v64 x] it) (hnp : (Value.slice q L.length c).ownBlock ≠ some pb) => ins_I W 0 (.slice q L.length c) L.length (L.map v64) hX.rr.row (one64p L) k hkl pb [v64 x] rfl (by intro u hu; rw [List.mem_singleton.1 hu]; rfl) hb hnp (by omega) (Nat.zero_le _))
      rw [HER.out] at HIN
      rw [← hn] at X HPK hn64 htl hkl l1 i1 i2 c0 HPL HIN
      have HLN := Lib.hid hn
      clear hS hE hNN hr hl ha hok hLs hx hk hk2 hpb hpn hb hA hn hin HER l2
      go_enter Try.func21, Try.ntmps21
      go_wp2_with fail
      refine HNO.out.mono ?_
      rintro e w' ⟨rfl, hw⟩
      obtain rfl := hw.symm
      clear hw HNO
      go_wp2_with fail
      refine HMY.out.mono ?_
      rintro e w' ⟨rfl, hw⟩
      obtain rfl := hw.symm
      clear hw HMY
      go_wp2_with fail
      refine HPL.out.mono ?_
      rintro e w' ⟨rfl, hw⟩
      obtain rfl := hw.symm
      clear hw HPL
      go_wp2_with fail
      have XD := Lib.hid (X.out.on (Below.refl _ _).drew)
      have HPD := Lib.hid (HPK.out _ _ XD.out)
      clear X HPK
      refine wp_region_held_drew (S := (fun w' => w'.cell? ⟨b, 1, none⟩ = some (.slice q n c) ∧ w'.cell? ⟨b, 2, none⟩ = some (v64 t))) (by kernel_rfl) ⟨XD.out.rr.blk.cell 1, XD.out.rr.blk.cell 2⟩ (fun hHeld => ?_)
      refine take_at 0 (by kernel_rfl) (v := ?v1) (by kernel_rfl) (by kernel_rfl) (by kernel_rfl) (fun _ _ _ h => h) (by rfl) ?y1 (by assumption) ?r1
      case y1 => (intro w hSw; (try dsimp only at hSw); (obtain ⟨hSa, hSb⟩ := hSw); simp only [List.getElem_cons_succ, List.getElem_cons_zero]; go_simp; (try with_reducible rfl))
      try simp only [List.getElem_cons_succ, List.getElem_cons_zero, Act.put, List.setIfInBounds_toArray, List.set_cons_zero, List.set_cons_succ]
      refine take_at 1 (by kernel_rfl) (v := ?v2) (by kernel_rfl) (by kernel_rfl) (by kernel_rfl) (fun _ _ _ h => h) (by rfl) ?y2 (by assumption) ?r2
      case y2 => (intro w hSw; (try dsimp only at hSw); (obtain ⟨hSa, hSb⟩ := hSw); simp only [List.getElem_cons_succ, List.getElem_cons_zero]; go_simp; (try with_reducible rfl))
      try simp only [List.getElem_cons_succ, List.getElem_cons_zero, Act.put, List.setIfInBounds_toArray, List.set_cons_zero, List.set_cons_succ]
      refine take_at 2 (by kernel_rfl) (v := ?v3) (by kernel_rfl) (by kernel_rfl) (by kernel_rfl) (fun _ _ _ h => h) (by rfl) ?y3 (by assumption) ?r3
      case y3 => (intro w hSw; (try dsimp only at hSw); (obtain ⟨hSa, hSb⟩ := hSw); simp only [List.getElem_cons_succ, List.getElem_cons_zero]; go_simp; (try with_reducible rfl))
      try simp only [List.getElem_cons_succ, List.getElem_cons_zero, Act.put, List.setIfInBounds_toArray, List.set_cons_zero, List.set_cons_succ]
      refine take_at 3 (by kernel_rfl) (v := ?v4) (by kernel_rfl) (by kernel_rfl) (by kernel_rfl) (fun _ _ _ h => h) (by rfl) ?y4 (by assumption) ?r4
      case y4 => (intro w hSw; (try dsimp only at hSw); (obtain ⟨hSa, hSb⟩ := hSw); simp only [List.getElem_cons_succ, List.getElem_cons_zero]; go_simp; (try with_reducible rfl))
      try simp only [List.getElem_cons_succ, List.getElem_cons_zero, Act.put, List.setIfInBounds_toArray, List.set_cons_zero, List.set_cons_succ]
      refine take_at 4 (by kernel_rfl) (v := ?v5) (by kernel_rfl) (by kernel_rfl) (by kernel_rfl) (fun _ _ _ h => h) (by rfl) ?y5 (by assumption) ?r5
      case y5 => (intro w hSw; (try dsimp only at hSw); (obtain ⟨hSa, hSb⟩ := hSw); simp only [List.getElem_cons_succ, List.getElem_cons_zero]; go_simp; (try with_reducible rfl))
      try simp only [List.getElem_cons_succ, List.getElem_cons_zero, Act.put, List.setIfInBounds_toArray, List.set_cons_zero, List.set_cons_succ]
      refine take_at 5 (by kernel_rfl) (v := ?v6) (by kernel_rfl) (by kernel_rfl) (by kernel_rfl) (fun _ _ _ h => h) (by rfl) ?y6 (by assumption) ?r6
      case y6 => (intro w hSw; (try dsimp only at hSw); (obtain ⟨hSa, hSb⟩ := hSw); simp only [List.getElem_cons_succ, List.getElem_cons_zero]; go_simp; (try with_reducible rfl))
      try simp only [List.getElem_cons_succ, List.getElem_cons_zero, Act.put, List.setIfInBounds_toArray, List.set_cons_zero, List.set_cons_succ]
      refine take_at 6 (by kernel_rfl) (v := ?v7) (by kernel_rfl) (by kernel_rfl) (by kernel_rfl) (fun _ _ _ h => h) (by rfl) ?y7 (by assumption) ?r7
      case y7 => (intro w hSw; (try dsimp only at hSw); (obtain ⟨hSa, hSb⟩ := hSw); simp only [List.getElem_cons_succ, List.getElem_cons_zero]; go_simp; (try with_reducible rfl))
      try simp only [List.getElem_cons_succ, List.getElem_cons_zero, Act.put, List.setIfInBounds_toArray, List.set_cons_zero, List.set_cons_succ]
      refine take_at 7 (by kernel_rfl) (v := ?v8) (by kernel_rfl) (by kernel_rfl) (by kernel_rfl) (fun _ _ _ h => h) (by rfl) ?y8 (by assumption) ?r8
      case y8 => (intro w hSw; (try dsimp only at hSw); (obtain ⟨hSa, hSb⟩ := hSw); simp only [List.getElem_cons_succ, List.getElem_cons_zero]; go_simp; (try with_reducible rfl))
      try simp only [List.getElem_cons_succ, List.getElem_cons_zero, Act.put, List.setIfInBounds_toArray, List.set_cons_zero, List.set_cons_succ]
      refine take_at 8 (by kernel_rfl) (v := ?v9) (by kernel_rfl) (by kernel_rfl) (by kernel_rfl) (fun _ _ _ h => h) (by rfl) ?y9 (by assumption) ?r9
      case y9 => (intro w hSw; (try dsimp only at hSw); (obtain ⟨hSa, hSb⟩ := hSw); simp only [List.getElem_cons_succ, List.getElem_cons_zero]; go_simp; (try with_reducible rfl))
      try simp only [List.getElem_cons_succ, List.getElem_cons_zero, Act.put, List.setIfInBounds_toArray, List.set_cons_zero, List.set_cons_succ]
      refine take_at 9 (by kernel_rfl) (v := ?v10) (by kernel_rfl) (by kernel_rfl) (by kernel_rfl) (fun _ _ _ h => h) (by rfl) ?y10 (by assumption) ?r10
      case y10 => (intro w hSw; (try dsimp only at hSw); (obtain ⟨hSa, hSb⟩ := hSw); simp only [List.getElem_cons_succ, List.getElem_cons_zero]; go_simp; (try with_reducible rfl))
      try simp only [List.getElem_cons_succ, List.getElem_cons_zero, Act.put, List.setIfInBounds_toArray, List.set_cons_zero, List.set_cons_succ]
      refine take_at 10 (by kernel_rfl) (v := ?v11) (by kernel_rfl) (by kernel_rfl) (by kernel_rfl) (fun _ _ _ h => h) (by rfl) ?y11 (by assumption) ?r11
      case y11 => (intro w hSw; (try dsimp only at hSw); (obtain ⟨hSa, hSb⟩ := hSw); simp only [List.getElem_cons_succ, List.getElem_cons_zero]; go_simp; (try with_reducible rfl))
      try simp only [List.getElem_cons_succ, List.getElem_cons_zero, Act.put, List.setIfInBounds_toArray, List.set_cons_zero, List.set_cons_succ]
      refine take_at 11 (by kernel_rfl) (v := ?v12) (by kernel_rfl) (by kernel_rfl) (by kernel_rfl) (fun _ _ _ h => h) (by rfl) ?y12 (by assumption) ?r12
      case y12 => (intro w hSw; (try dsimp only at hSw); (obtain ⟨hSa, hSb⟩ := hSw); simp only [List.getElem_cons_succ, List.getElem_cons_zero]; go_simp; (try with_reducible rfl))
      try simp only [List.getElem_cons_succ, List.getElem_cons_zero, Act.put, List.setIfInBounds_toArray, List.set_cons_zero, List.set_cons_succ]
      refine take_at 12 (by kernel_rfl) (v := ?v13) (by kernel_rfl) (by kernel_rfl) (by kernel_rfl) (fun _ _ _ h => h) (by rfl) ?y13 (by assumption) ?r13
      case y13 => (intro w hSw; (try dsimp only at hSw); (obtain ⟨hSa, hSb⟩ := hSw); simp only [List.getElem_cons_succ, List.getElem_cons_zero]; go_simp; (try with_reducible rfl))
      try simp only [List.getElem_cons_succ, List.getElem_cons_zero, Act.put, List.setIfInBounds_toArray, List.set_cons_zero, List.set_cons_succ]
      refine take_at 13 (by kernel_rfl) (v := ?v14) (by kernel_rfl) (by kernel_rfl) (by kernel_rfl) (fun _ _ _ h => h) (by rfl) ?y14 (by assumption) ?r14
      case y14 => (intro w hSw; (try dsimp only at hSw); (obtain ⟨hSa, hSb⟩ := hSw); simp only [List.getElem_cons_succ, List.getElem_cons_zero]; go_simp; (try with_reducible rfl))
      try simp only [List.getElem_cons_succ, List.getElem_cons_zero, Act.put, List.setIfInBounds_toArray, List.set_cons_zero, List.set_cons_succ]
      refine take_at 14 (by kernel_rfl) (v := ?v15) (by kernel_rfl) (by kernel_rfl) (by kernel_rfl) (fun _ _ _ h => h) (by rfl) ?y15 (by assumption) ?r15
      case y15 => (intro w hSw; (try dsimp only at hSw); (obtain ⟨hSa, hSb⟩ := hSw); simp only [List.getElem_cons_succ, List.getElem_cons_zero]; go_simp; (try with_reducible rfl))
      try simp only [List.getElem_cons_succ, List.getElem_cons_zero, Act.put, List.setIfInBounds_toArray, List.set_cons_zero, List.set_cons_succ]
      refine take_at 15 (by kernel_rfl) (v := ?v16) (by kernel_rfl) (by kernel_rfl) (by kernel_rfl) (fun _ _ _ h => h) (by rfl) ?y16 (by assumption) ?r16
      case y16 => (intro w hSw; (try dsimp only at hSw); (obtain ⟨hSa, hSb⟩ := hSw); simp only [List.getElem_cons_succ, List.getElem_cons_zero]; go_simp; (try with_reducible rfl))
      try simp only [List.getElem_cons_succ, List.getElem_cons_zero, Act.put, List.setIfInBounds_toArray, List.set_cons_zero, List.set_cons_succ]
      refine ready_at 16 (by kernel_rfl) (by kernel_rfl) (fun K hK => ?_)
      simp only [List.getElem_cons_succ, List.getElem_cons_zero]
      go_simp
      go_at_call 38
      refine HPD.out.mono ?_
      rintro e wt ⟨rfl, fl2, hr, ht, hf⟩
      have X2 := Lib.hid (XD.out.lots hr ht hf)
      clear hr ht hf HPD XD
      (try go_wp2_with fail)
      refine hK.out _ _ ⟨X2.out.rr.blk.cell 1, X2.out.rr.blk.cell 2⟩ (fun hHeld => ?_)
      clear hK K
      try simp only [List.getElem_cons_succ, List.getElem_cons_zero, Act.put, List.setIfInBounds_toArray, List.set_cons_zero, List.set_cons_succ]
      refine take_at 17 (by kernel_rfl) (v := ?v17) (by kernel_rfl) (by kernel_rfl) (by kernel_rfl) (fun _ _ _ h => h) (by rfl) ?y17 (by assumption) ?r17
      case y17 => (intro w hSw; (try dsimp only at hSw); (obtain ⟨hSa, hSb⟩ := hSw); simp only [List.getElem_cons_succ, List.getElem_cons_zero]; go_simp; (try with_reducible rfl))
      try simp only [List.getElem_cons_succ, List.getElem_cons_zero, Act.put, List.setIfInBounds_toArray, List.set_cons_zero, List.set_cons_succ]
      refine take_at 18 (by kernel_rfl) (v := ?v18) (by kernel_rfl) (by kernel_rfl) (by kernel_rfl) (fun _ _ _ h => h) (by rfl) ?y18 (by assumption) ?r18
      case y18 => (intro w hSw; (try dsimp only at hSw); (obtain ⟨hSa, hSb⟩ := hSw); simp only [List.getElem_cons_succ, List.getElem_cons_zero]; go_simp; (try with_reducible rfl))
      try simp only [List.getElem_cons_succ, List.getElem_cons_zero, Act.put, List.setIfInBounds_toArray, List.set_cons_zero, List.set_cons_succ]
      refine wpAnyH_done (by kernel_rfl) ?_ _
      have cI : (buildM 22 1 #[(0, v64 x)]).run Try.prog wt = .ok (.value (.slice (some ⟨wt.heap.size, 0, none⟩) 1 1)) (wt.alloc (.cells #[.int .i64 x] it)) := run_buildI1 wt x
      have X3 := Lib.hid (X2.out.on ((Below.refl wt.heap.size wt).alloc (Nat.le_refl _) (.cells #[.int .i64 x] it)))
      have hbl := Blk.new wt #[.int .i64 x] it
      have hnp : (Value.slice q n c).ownBlock ≠ some wt.heap.size := fun e => by
        have h1 := X2.out.rr.low wt.heap.size (by rw [X2.out.rr.fps, e]; simp)
        omega
      have HI := Lib.hid (HIN.out _ _ _ _ X3.out _ hbl hnp)
      have d0 : wt.cell? ⟨b, 1, none⟩ = some (.slice q n c) := X2.out.rr.blk.cell 1
      clear hbl hnp HIN hHeld
      generalize wt.alloc (.cells #[.int .i64 x] it) = w3 at *
      go_wp2_with fail
      refine HI.out.mono ?_
      rintro e w4 ⟨v4, rfl, ho, hg, hbk⟩
      have X4 := Lib.hid (X3.out.grow hg ho HQL.out hbk)
      have c4 : w4.cell? ⟨b, 1, none⟩ = some (.slice q n c) := by
        have h3 := (hg.block b X3.out.rr.blk.lt (fun e => X3.out.rr.ne e.symm)).trans X3.out.rr.blk
        exact (show Blk w4 b _ prt from h3).cell 1
      have f4 : w4.frozen? ⟨b, 1, none⟩ = false := by
        have h3 := (hg.block b X3.out.rr.blk.lt (fun e => X3.out.rr.ne e.symm)).trans X3.out.rr.blk
        exact (show Blk w4 b _ prt from h3).free 1
      obtain ⟨p4, k4, hv4, _⟩ := own_at_s ho
      subst hv4
      clear ho hg hbk HI X3 d0
      go_wp2_with fail
      go_ret
      exact X4.out.pdone (s' := ⟨L.take k ++ x :: L.drop k, t⟩) HOK.out
  · have hE : Rd.addE s.L x = 2 := if_neg hx
    have hS : Rd.addS s x Ls N = s := by unfold Rd.addS; rw [if_neg (by rw [hE]; decide)]
    have hNN : Rd.addN s x N = N := by unfold Rd.addN; rw [if_neg (by rw [hE]; decide)]
    rw [hS, hE, hNN]
    have HMY := Lib.hid (may_any x w)
    rw [decide_eq_false hx] at HMY
    have D := Lib.hid (X.out.pdone (u := v64 2) hok)
    clear X hE hS hNN hr hl ha hok hLs hx hb hA HOK HPL
    go_enter Try.func21, Try.ntmps21
    go_wp2_with fail
    refine HNO.out.mono ?_
    rintro e w' ⟨rfl, hw⟩
    obtain rfl := hw.symm
    clear hw HNO
    go_wp2_with fail
    refine HMY.out.mono ?_
    rintro e w' ⟨rfl, hw⟩
    obtain rfl := hw.symm
    clear hw HMY
    go_wp2_with fail
    go_ret
    exact D.out
end
end Go.Proofs.Ytfoomffbjjcjjaa
