/-
  Rounds that nobody made; numbers from 1 on; the law ProbeNone.
-/
import Derived.Test.YtfoomffbjjcjjaaPvH
import Derived.Test.YtfoomffbjjcjjaaPlQ
import Derived.Test.YtfoomffbjjcjjaaPlC
namespace Go.Proofs.Ytfoomffbjjcjjaa
set_option linter.unusedSimpArgs false
set_option linter.unusedVariables false
open Go.RowKit Sha Lot
/-! ### The numbers from 1 on -/
def ups (n : Nat) : List Int := (List.range n).map fun (i : Nat) => (i : Int) + 1
theorem ups_length (n : Nat) : (ups n).length = n := by simp [ups]
theorem ups_succ (n : Nat) : ups (n + 1) = ups n ++ [(n : Int) + 1] := by simp [ups, List.range_succ]
theorem ups_mem {n : Nat} {x : Int} (h : x ∈ ups n) : 1 ≤ x ∧ x ≤ n := by
  obtain ⟨i, hi, rfl⟩ := List.mem_map.1 h
  have := List.mem_range.1 hi
  omega
theorem ups_new {n : Nat} (hn : n ≤ 64) : PbNew (ups n) := by
  refine ⟨?_, fun x hx => by have := ups_mem hx; omega⟩
  unfold ups
  rw [List.Nodup, List.pairwise_map]
  exact List.Pairwise.imp (fun h => by omega) (List.pairwise_lt_range (n := n))
/-! ### Rounds that nobody made -/
def zeroP : Array Value := #[.pointer none, .slice none 0 0, .int .i64 0]
theorem built_zeroP : Try.prog.built prt [] = some zeroP := by kernel_rfl
def NoP (p : Option Addr) (w : World) : Prop := ∀ a, p = some a → ∃ b, a = ⟨b, 0, none⟩ ∧ Blk w b zeroP.toList prt
theorem noneP_any (p : Option Addr) (w : World) (h : NoP p w) : Calls Try.prog 35 #[.pointer p] w fun e w' => e = .returned (.bool true) ∧ w' = w := by
  cases p with
  | none =>
    go_enter Try.func35, Try.ntmps35
    go_wp2_with fail
    go_ret
    exact ⟨rfl, rfl⟩
  | some a =>
    obtain ⟨b, rfl, hb⟩ := h a rfl
    have c0 : w.cell? ⟨b, 0, none⟩ = some (.pointer none) := hb.cell 0
    have hq := Go.Proofs.Ytfoomffbjjcjjaa.run_neq_ptr_nil (P := Try.prog) ⟨b, 0, none⟩ Try.underlying33
    clear h hb
    go_enter Try.func35, Try.ntmps35
    go_wp2_with fail
    go_ret
    exact ⟨rfl, rfl⟩
def Quiet1 (v : Value) (w : World) (e : Ending) (w' : World) : Prop := e = .returned v ∧ w = w'
theorem noNext (p : Option Addr) (lv : Value) (w : World) (h : NoP p w) : Calls Try.prog 20 #[.pointer p, lv] w (Quiet1 (v64 0) w) := by
  have HC := Lib.hid (noneP_any p w h)
  clear h
  go_enter Try.func20, Try.ntmps20
  go_wp2_with (go_at_call 35; refine HC.out.mono ?_; rintro e w1 ⟨rfl, rfl⟩)
  go_ret
  exact ⟨rfl, rfl⟩
theorem noAddP (p : Option Addr) (x : Int) (lv : Value) (w : World) (h : NoP p w) : Calls Try.prog 21 #[.pointer p, v64 x, lv] w (Quiet1 (v64 1) w) := by
  have HC := Lib.hid (noneP_any p w h)
  clear h
  go_enter Try.func21, Try.ntmps21
  go_wp2_with (go_at_call 35; refine HC.out.mono ?_; rintro e w1 ⟨rfl, rfl⟩)
  go_ret
  exact ⟨rfl, rfl⟩
theorem noRem (p : Option Addr) (x : Int) (w : World) (h : NoP p w) : Calls Try.prog 22 #[.pointer p, v64 x] w (Quiet1 (v64 1) w) := by
  have HC := Lib.hid (noneP_any p w h)
  clear h
  go_enter Try.func22, Try.ntmps22
  go_wp2_with (go_at_call 35; refine HC.out.mono ?_; rintro e w1 ⟨rfl, rfl⟩)
  go_ret
  exact ⟨rfl, rfl⟩
theorem noOrder (p : Option Addr) (w : World) (h : NoP p w) : Calls Try.prog 17 #[.pointer p] w (Quiet1 (.slice none 0 0) w) := by
  have HC := Lib.hid (noneP_any p w h)
  clear h
  go_enter Try.func17, Try.ntmps17
  go_wp2_with (go_at_call 35; refine HC.out.mono ?_; rintro e w1 ⟨rfl, rfl⟩)
  go_ret
  exact ⟨rfl, rfl⟩
theorem noTold (p : Option Addr) (w : World) (h : NoP p w) : Calls Try.prog 18 #[.pointer p] w (Quiet1 (v64 0) w) := by
  have HC := Lib.hid (noneP_any p w h)
  clear h
  go_enter Try.func18, Try.ntmps18
  go_wp2_with (go_at_call 35; refine HC.out.mono ?_; rintro e w1 ⟨rfl, rfl⟩)
  go_ret
  exact ⟨rfl, rfl⟩
/-! ### Without lots, as with noughts -/
theorem ordered_nil (L : List Int) (N M : Nat) : Rd.ordered L [] N = Rd.ordered L [] M := by unfold Rd.ordered; rw [shuf_nil N M]
theorem again_nil (s : Rd.St) (N M : Nat) : Rd.again s [] N = Rd.again s [] M := by unfold Rd.again; rw [ordered_nil s.L N M]
theorem next_nil (s : Rd.St) (N M : Nat) : Rd.nextS s [] N = Rd.nextS s [] M ∧ Rd.nextV s [] N = Rd.nextV s [] M := by unfold Rd.nextS Rd.nextV; rw [again_nil s N M]; exact ⟨rfl, rfl⟩
theorem nextN_leP (s : Rd.St) (N : Nat) : Rd.nextN s N ≤ N + 63 := by
  have h : shufN s.L.length ≤ 63 := by unfold shufN; split <;> omega
  unfold Rd.nextN Rd.againN
  split
  · omega
  · split <;> omega
set_option maxRecDepth 100000 in
set_option maxHeartbeats 8000000 in
theorem pnonelaw_any (x nd : Int) (w : World) (hx : -9223372036854775808 ≤ x ∧ x ≤ 9223372036854775807) (hnd : -9223372036854775808 ≤ nd ∧ nd ≤ 9223372036854775807) :
    Calls Try.prog 4 #[v64 x, v64 nd] w (PlTrue w) := by
  have HND := Lib.hid hnd
  clear hnd
  go_enter Try.func4, Try.ntmps4
  go_wp2_with (first
    | (refine wpList_build' rfl prt _ rfl zeroP built_zeroP ?_)
    | (refine wpList_box_arr rfl prt _ rfl zeroP rfl ?_))
  obtain ⟨gz, hgz⟩ : ∃ g, g = w.heap.size := ⟨_, rfl⟩
  obtain ⟨gs, hgs⟩ : ∃ g, g = w.heap.size + 1 := ⟨_, rfl⟩
  have K1 := Blk.new (w.alloc (.cells zeroP prt)) #[Value.pointer none, optr w.heap.size] 33
  have K2 := Blk.new w zeroP prt
  have K3 := K2.old (.cells #[Value.pointer none, optr w.heap.size] 33)
  have BW := Lib.hid (((Below.refl w.heap.size w).alloc (Nat.le_refl _) (.cells zeroP prt)).alloc (by simp) (.cells #[Value.pointer none, optr w.heap.size] 33))
  simp only [World.size_alloc] at K1
  rw [← hgs, ← hgz] at K1
  rw [← hgz] at K3
  rw [← hgs]
  rw [← hgz] at BW
  rw [← hgz]
  clear K2 hgs
  generalize (w.alloc (.cells zeroP prt)).alloc (.cells #[Value.pointer none, optr gz] 33) = w2 at *
  have r0 : w2.cell? ⟨gs, 0, none⟩ = some (.pointer none) := K1.cell 0
  have r1 : w2.cell? ⟨gs, 1, none⟩ = some (optr gz) := K1.cell 1
  have HZ := Lib.hid (show NoP (some ⟨gz, 0, none⟩) w2 from fun a e => by cases e; exact ⟨gz, rfl, K3⟩)
  have HZ0 := Lib.hid (show NoP none w2 from fun a e => by cases e)
  have HG := Lib.hid hgz
  clear K1 K3 hgz
  go_loop [6, 7] (fun iv rv => ∃ k : Nat, iv = .int .i64 k ∧ k ≤ 2) (fun iv _ => 2 - (intOf iv).toNat)
  case atStart => exact ⟨0, rfl, by omega⟩
  case round =>
    obtain ⟨k, rfl, hk⟩ := hrel
    have hk3 : k = 0 ∨ k = 1 ∨ k = 2 := by omega
    rcases hk3 with rfl | rfl | rfl
    · go_wp2_with (first
        | (go_at_call 20; refine (noNext _ _ _ HZ0.out).mono ?_; rintro e w' ⟨rfl, rfl⟩)
        | (go_at_call 21; refine (noAddP _ x _ _ HZ0.out).mono ?_; rintro e w' ⟨rfl, rfl⟩)
        | (go_at_call 22; refine (noRem _ x _ HZ0.out).mono ?_; rintro e w' ⟨rfl, rfl⟩)
        | (go_at_call 17; refine (noOrder _ _ HZ0.out).mono ?_; rintro e w' ⟨rfl, rfl⟩)
        | (go_at_call 18; refine (noTold _ _ HZ0.out).mono ?_; rintro e w' ⟨rfl, rfl⟩))
      go_round
      case rel => exact ⟨1, by go_num, by omega⟩
      case measure => simp [intOf]
    · go_wp2_with (first
        | (go_at_call 20; refine (noNext _ _ _ HZ.out).mono ?_; rintro e w' ⟨rfl, rfl⟩)
        | (go_at_call 21; refine (noAddP _ x _ _ HZ.out).mono ?_; rintro e w' ⟨rfl, rfl⟩)
        | (go_at_call 22; refine (noRem _ x _ HZ.out).mono ?_; rintro e w' ⟨rfl, rfl⟩)
        | (go_at_call 17; refine (noOrder _ _ HZ.out).mono ?_; rintro e w' ⟨rfl, rfl⟩)
        | (go_at_call 18; refine (noTold _ _ HZ.out).mono ?_; rintro e w' ⟨rfl, rfl⟩))
      go_round
      case rel => exact ⟨2, by go_num, by omega⟩
      case measure => simp [intOf]
    · clear r0 r1 HZ HZ0
      go_wp2_with fail
      obtain ⟨m, hm⟩ : ∃ m : Nat, pickOf nd 65 = (m : Int) := ⟨(pickOf nd 65).toNat, by have := pickOf_bd nd 65 (by omega); omega⟩
      have hm64 : m ≤ 64 := by have := pickOf_bd nd 65 (by omega); omega
      have HPK := Lib.hid (fun W => (show Calls Try.prog 23 #[v64 nd, .int .i64 65] W fun e w' => e = .returned (.int .i64 (m : Int)) ∧ W = w' from by rw [← hm]; exact pick_any nd 65 W (by omega) (by omega) HND.out))
      clear hm
      go_loopw [8, 9] (fun v iv wr => ∃ k : Nat, iv = .int .i64 ((k : Int) + 1) ∧ k ≤ m ∧ Hid (Own64 wr w2.heap.size it v k ((ups k).map v64)) ∧ Hid (Below w2.heap.size w2 wr)) (fun _ iv _ => m + 1 - (intOf iv).toNat)
      case atStart => exact ⟨0, rfl, by omega, Lib.hid (Own64.nil _ _ _), Lib.hid (Below.refl _ _)⟩
      case round =>
        obtain ⟨k, rfl, hk, HV, HB⟩ := hrel
        by_cases hlt : k < m
        · have t1 : decide ((k : Int) + 1 ≤ (m : Int)) = true := decide_eq_true (by omega)
          have HUP := Lib.hid (show (ups k).map v64 ++ [v64 ((k : Int) + 1)] = (ups (k + 1)).map v64 from by rw [ups_succ, List.map_append]; rfl)
          have i2 : IntKind.i64.wrap ((k : Int) + 1 + 1) = (k : Int) + 1 + 1 := IntWalk.i64_in _ (by omega)
          obtain ⟨qv, cv, hv, _⟩ := own_at_s HV.out.row
          subst hv
          go_wp2_with (first
            | (go_at_call 23; refine (HPK.out _).mono ?_; rintro e w' ⟨rfl, rfl⟩)
            | (at_builtin; refine wpList_app64 rfl (.tmp 62) (.tmp 64) 22 rfl w2.heap.size 3 Try.underlying22 knum_info _ k _ rfl (HV.out.alloc _) (some ⟨wr.heap.size, 0, none⟩) 1 1 [v64 ((k : Int) + 1)] rfl (at_newR wr [v64 ((k : Int) + 1)] it) rfl (fun h => by cases h) (by omega) (by intro u hu; rw [List.mem_singleton.1 hu]; exact ⟨_, rfl⟩) (by omega) (by unfold maxLen; omega) (by have := HB.out.size; simp; omega) ?_; intro v4 w4 hown4 _ hb4 hs4; (have O4 := Lib.hid hown4); (have B4 := Lib.hid ((HB.out.alloc HB.out.size _).trans hb4)); clear hown4 hb4 hs4))
          rw [HUP.out] at O4
          go_roundw
          case rel => exact ⟨k + 1, by go_num, by omega, O4, B4⟩
          case measure => simp [intOf]; omega
        · obtain rfl : k = m := by omega
          have t1 : decide ((k : Int) + 1 ≤ (k : Int)) = false := decide_eq_false (by omega)
          have BW2 := Lib.hid (below_next (show Below w.heap.size w w2 from by have := BW.out; rw [HG.out] at this; exact this) HB.out)
          obtain ⟨qv, cv, hv, _, hgv⟩ := HV.out.good (bd_of (ups_new hm64).2)
          subst hv
          have GV := Lib.hid hgv
          have HULEN := Lib.hid (ups_length k)
          have HNEW := Lib.hid (ups_new hm64)
          clear hgv hlt
          generalize ups k = us at *
          have HQL := Lib.hid (show ∀ a, qv = some a → a.block < wr.heap.size from fun a e => (HV.out.row.lt a.block (by rw [e]; rfl)).2)
          clear HV HB
          go_wp2_with (go_at_call 23; refine (HPK.out _).mono ?_; rintro e w' ⟨rfl, rfl⟩)
          refine (lotsOK.ok.new [] 0 none 0 wr rfl (good_nilN wr)).mono ?_
          rintro e W1 ⟨hb1, ⟨_, bn, fl, rfl, hr1, hn1⟩ | ⟨hz, _⟩⟩
          rotate_left
          · exact absurd (show newErr [] = 0 by decide) hz
          have B1 := Lib.hid (below_next BW2.out hb1)
          have HR1 := Lib.hid hr1
          have HN1 := Lib.hid hn1
          have G1 := Lib.hid (GV.out.below hb1)
          have HS1 := Lib.hid hb1.size
          clear hb1 hr1 hn1 GV HPK
          go_wp2_with fail
          refine (probeOK.newN us k qv cv W1 HULEN.out G1.out (by omega) HNEW.out).mono ?_
          rintro e W2 ⟨b1, fp1, rfl, hr2, hb2, hn2⟩
          have B2 := Lib.hid (below_next B1.out hb2)
          have HR2 := Lib.hid hr2
          have HN2 := Lib.hid hn2
          have HL2 := Lib.hid (lotsOK.ok.rep.on HR1.out hb2)
          have HF2 := Lib.hid (show ∀ k ∈ fl, k < W1.heap.size from lotsOK.ok.rep.low HR1.out)
          have G2 := Lib.hid (G1.out.below hb2)
          have HS2 := Lib.hid hb2.size
          clear hr2 hb2 hn2 HR1 G1
          go_wp2_with fail
          refine (pnewR_any us k qv cv (lptr bn) fl [] 0 W2 HULEN.out G2.out (by omega) (Or.inr ⟨bn, rfl, HL2.out⟩) (by omega) (fun a e h => by have h1 := HQL.out a e; have h2 := HN1.out _ h; omega)).mono ?_
          rintro e W3 (⟨_, b2, fp2, fl3, rfl, hr3, hl3, ha3, ht3, hf3, hk3⟩ | ⟨h4, _⟩)
          rotate_left
          · exact absurd HNEW.out h4
          have P := Lib.hid (show Pair PRep (CRep PRep ProgLot bn) w W3 b1 fp1 ⟨Rd.ordered us [] 0, 0⟩ b2 (fp2 ++ fl3) (⟨Rd.ordered us [] 0, 0⟩, ([], 0 + shufN k)) from by
            have hlow := prHeld.low HR2.out
            refine ⟨prHeld.keep HR2.out (ht3.keep (fun i h5 h6 => by have h7 := HN2.out i h6; have h8 := HF2.out i h5; omega) hlow), ⟨fp2, fl3, rfl, ha3, hr3, hl3.obj⟩, fun i h5 h6 => ?_, fun i h5 => Nat.le_trans B1.out.size (HN2.out i h5), fun i h5 => ?_, B2.out.trans (ht3.below (fun i h5 => Nat.le_trans BW2.out.size (HN1.out i h5)) B2.out.size)⟩
            · have h7 := hlow i h5
              have h8 := HN2.out i h5
              rcases List.mem_append.1 h6 with h9 | h9
              · have := hk3 i h9; omega
              · rcases hf3 i h9 with h10 | h10
                · have := HF2.out i h10; omega
                · omega
            · rcases List.mem_append.1 h5 with h9 | h9
              · exact Nat.le_trans B2.out.size (hk3 i h9)
              · rcases hf3 i h9 with h10 | h10
                · exact Nat.le_trans BW2.out.size (HN1.out i h10)
                · exact Nat.le_trans B2.out.size h10)
          have hsh : shufN (k : Int) ≤ 63 := by unfold shufN; split <;> omega
          obtain ⟨N0, hN0⟩ : ∃ N0, N0 = 0 + shufN k := ⟨_, rfl⟩
          rw [← hN0] at P
          have hN63 : N0 ≤ 63 := by omega
          clear hr3 hl3 ha3 ht3 hf3 hk3 HR2 HN2 HL2 HF2 G2 B1 B2 HN1 HNEW HS1 HS2 HQL hsh hN0
          generalize (⟨Rd.ordered us [] 0, 0⟩ : Rd.St) = st0 at *
          generalize fp2 ++ fl3 = f2 at *
          go_wp2_with fail
          go_loopw [16] (fun iv wr => ∃ (j N : Nat) (s : Rd.St) (g1 g2 : List Nat), iv = .int .i64 j ∧ j ≤ 100 ∧ N ≤ 63 + 63 * j ∧ Hid (Pair PRep (CRep PRep ProgLot bn) w wr b1 g1 s b2 g2 (s, ([], N)))) (fun iv _ => 100 - (intOf iv).toNat)
          case atStart => exact ⟨0, N0, st0, fp1, f2, rfl, by omega, by omega, P⟩
          case round =>
            clear P
            obtain ⟨j, N, s, g1, g2, rfl, hj, hN, P⟩ := hrel
            by_cases hlt : j < 100
            · have HX1 := Lib.hid (fun W f (h : PRep W b1 f s) => probeOK.nextN b1 f s W h)
              have HX2 := Lib.hid (fun W f (h : CRep PRep ProgLot bn W b2 f (s, ([], N))) => (progComp probeOK lotsOK.ok.rep bn).next b2 f s [] N W h (by omega))
              rw [(next_nil s N 0).1, (next_nil s N 0).2] at HX2
              have hnn := nextN_leP s N
              generalize Rd.nextS s [] 0 = s' at *
              generalize Rd.nextV s [] 0 = v' at *
              generalize Rd.nextN s N = N' at *
              go_wp2_with fail
              refine (HX1.out _ _ P.out.one).mono ?_
              rintro e Wa ⟨rfl, g1', hr, ht, hf⟩
              have PA := Lib.hid (P.out.step1 (cHeld prHeld lotsOK.ok.rep bn) hr ht hf)
              clear hr ht hf P
              go_wp2_with fail
              refine (HX2.out _ _ PA.out.two).mono ?_
              rintro e Wb ⟨rfl, g2', hr, ht, hf⟩
              have PB := Lib.hid (PA.out.step2 prHeld hr ht hf)
              clear hr ht hf PA HX1 HX2
              go_wp2_with fail
              go_roundw
              case rel => exact ⟨j + 1, N', s', g1', g2', by go_num, by omega, by omega, PB⟩
              case measure => simp [intOf]; omega
            · obtain rfl : j = 100 := by omega
              go_wp2_with fail
              refine (pawake_any probeOK _).mono ?_
              rintro e Wa ⟨rfl, hba⟩
              have BA := Lib.hid (below_next P.out.below hba)
              clear hba P
              go_wp2_with fail
              go_ret
              exact ⟨rfl, BA.out⟩
end Go.Proofs.Ytfoomffbjjcjjaa
