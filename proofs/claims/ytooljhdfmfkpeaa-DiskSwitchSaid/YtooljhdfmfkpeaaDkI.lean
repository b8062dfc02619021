/-
  The law DiskScript, over what disks are asked to do.
-/
import Derived.Test.YtooljhdfmfkpeaaDkH
namespace Go.Proofs.Ytooljhdfmfkpeaa
set_option linter.unusedSimpArgs false
set_option linter.unusedVariables false
open Go.RowKit Sha Dsk
/-- Acts that are gone through. -/
def Short (acts : List ActD) : Prop := acts.length ≤ 60 ∧ ∀ a ∈ acts, a.b.length ≤ 200
def LongDone (acts : List ActD) (w : World) (e : Ending) (w' : World) : Prop := ∃ lb : Bool, e = .returned (.bool lb) ∧ (lb = false → Short acts) ∧ w = w'
set_option maxRecDepth 100000 in
set_option maxHeartbeats 1000000 in
theorem long_any (acts : List ActD) (n : Nat) (p : Option Addr) (cap : Nat) (w : World) (hn : acts.length = n) (h : GoodD w acts p cap) :
    Calls Try.prog 10 #[.slice p n cap] w (LongDone acts w) := by
  have GA := Lib.hid h
  have HN := Lib.hid hn
  have hc1 := h.le
  have hc2 := h.max
  rw [hn] at hc1
  clear h hn
  go_enter Try.func10, Try.ntmps10
  go_wp2_with fail
  go_loop [3] (fun i => ∃ k : Nat, i = .int .i64 k ∧ k ≤ n ∧ k ≤ 61 ∧ Hid (∀ a ∈ acts.take k, a.b.length ≤ 200)) (fun i => 61 - (intOf i).toNat)
  case atStart => exact ⟨0, rfl, by omega, by omega, Lib.hid (by simp)⟩
  case round =>
    obtain ⟨k, rfl, hk, hk2, HP⟩ := hrel
    by_cases hlt : k < n
    · by_cases h61 : k < 61
      · have hkz : k < acts.length := by rw [HN.out]; exact hlt
        obtain ⟨g, off, rfl, hcell⟩ := GA.out.cells (by omega)
        have c2 := (hcell k hkz).2.2
        have HTK := Lib.hid (show acts.take (k + 1) = acts.take k ++ [acts[k]] from List.take_succ_eq_append_getElem hkz)
        obtain ⟨a, ha⟩ : ∃ a, a = acts[k] := ⟨_, rfl⟩
        rw [← ha] at c2 HTK
        obtain ⟨m, hm⟩ : ∃ m, m = a.b.length := ⟨_, rfl⟩
        rw [← hm] at c2
        have HM := Lib.hid hm
        have hmm : m ≤ 9223372036854775807 := by
          have h1 := GA.out.bytes acts[k] (List.getElem_mem hkz)
          rw [← ha] at h1
          have := h1.le; have := h1.max; omega
        clear hcell hkz ha hm
        by_cases h200 : 200 < m
        · have hd : decide (200 < (m : Int)) = true := decide_eq_true (by omega)
          go_wp2_with fail
          go_ret
          exact ⟨true, rfl, fun h => (by cases h), rfl⟩
        · have hd : decide (200 < (m : Int)) = false := decide_eq_false (by omega)
          go_wp2_with fail
          go_round
          case rel =>
            refine ⟨k + 1, by go_num, by omega, by omega, Lib.hid fun y hy => ?_⟩
            rw [HTK.out] at hy
            rcases List.mem_append.1 hy with hy | hy
            · exact HP.out y hy
            · rw [List.mem_singleton.1 hy, ← HM.out]; omega
          case measure => simp [intOf]; omega
      · obtain rfl : k = 61 := by omega
        go_wp2_with fail
        go_ret
        refine ⟨decide (60 < (n : Int)), rfl, fun h => ?_, rfl⟩
        have := of_decide_eq_false h
        omega
    · obtain rfl : k = n := by omega
      go_wp2_with fail
      go_ret
      refine ⟨decide (60 < (k : Int)), rfl, fun h => ?_, rfl⟩
      have h1 := of_decide_eq_false h
      refine ⟨by rw [HN.out]; omega, ?_⟩
      have h2 := HP.out
      rwa [List.take_of_length_le (by rw [HN.out]; exact Nat.le_refl _)] at h2
set_option maxRecDepth 100000 in
set_option maxHeartbeats 4000000 in
theorem script_any {R : DiskRep} (F : DisksOK R) (r : Int) (acts : List ActD) (n : Nat) (p : Option Addr) (cap : Nat) (w : World) (hr : fit64 r) (hn : acts.length = n) (ha : GoodD w acts p cap) :
    Calls Try.prog 3 #[i64v r, .slice p n cap] w fun e w' => e = .returned (.bool true) ∧ Below w.heap.size w w' := by
  have K := Lib.hid F.ok.held
  have GA := Lib.hid ha
  have HN := Lib.hid hn
  have HR := Lib.hid hr
  have hc1 := ha.le
  have hc2 := ha.max
  rw [hn] at hc1
  have HNX := Lib.hid (F.ok.new r w HR.out)
  clear ha hn hr
  go_enter Try.func3, Try.ntmps3
  go_wp2_with fail
  refine HNX.out.mono ?_
  rintro e w1 ⟨hb1, hx⟩
  have B1 := Lib.hid hb1
  rcases hx with ⟨hz, bx, fx, rfl, hrx, hnx⟩ | ⟨hz, rfl⟩
  · have HX := Lib.hid hrx
    have NX := Lib.hid hnx
    have HZ := Lib.hid hz
    clear hb1 hrx hnx hz HNX
    go_wp2_with fail
    refine (refDiskOK.new r w1 HR.out).mono ?_
    rintro e w2 ⟨hb2, ⟨_, bw, fw, rfl, hrw, hnw⟩ | ⟨hz2, _⟩⟩
    · have S2 := Lib.hid (show TwoD R w w2 bx fx bw fw (fresh r.toNat) from Pair.made K.out HX.out NX.out B1.out hb2 hrw hnw)
      clear hb2 hrw hnw HX NX B1
      go_wp2_with fail
      refine (long_any acts n p cap w2 HN.out (GA.out.below S2.out.below)).mono ?_
      rintro e w3 ⟨lb, rfl, hsh, rfl⟩
      cases lb with
      | true =>
        clear hsh
        go_wp2_with fail
        refine (awake_any F w2).mono ?_
        rintro e w3 ⟨rfl, hb3⟩
        have B3 := Lib.hid (S2.out.below.trans (hb3.mono S2.out.below.size))
        clear hb3
        go_wp2_with fail
        go_ret
        exact ⟨rfl, B3.out⟩
      | false =>
        have HSH := Lib.hid (hsh rfl)
        have HN60 := Lib.hid (show n ≤ 60 by rw [← HN.out]; exact (hsh rfl).1)
        have S2' := Lib.hid (show ∃ s, TwoD R w w2 bx fx bw fw s ∧ s.steps ≤ 0 from ⟨_, S2.out, Nat.le_refl _⟩)
        clear hsh S2
        go_wp2_with fail
        go_loopw [5, 9] (fun vb i wr => ∃ (k bx : Nat) (fx fw : List Nat), i = .int .i64 k ∧ vb = optr bx ∧ k ≤ n ∧ Hid (∃ s, TwoD R w wr bx fx bw fw s ∧ s.steps ≤ k)) (fun _ i _ => n - (intOf i).toNat)
        case atStart => exact ⟨0, bx, fx, fw, rfl, rfl, by omega, S2'⟩
        case round =>
          clear S2'
          obtain ⟨k, bx, fx, fw, rfl, rfl, hk, S0⟩ := hrel
          by_cases hlt : k < n
          · have hkz : k < acts.length := by rw [HN.out]; exact hlt
            obtain ⟨s, hs, hst⟩ := S0.out
            have S := Lib.hid hs
            have HST := Lib.hid hst
            have hk60 := HN60.out
            clear S0 hs hst
            obtain ⟨g, off, rfl, hcell⟩ := GA.out.cells (by omega)
            obtain ⟨a, haa⟩ : ∃ a, a = acts[k] := ⟨_, rfl⟩
            have HCL := Lib.hid (fun W (hb : Below w.heap.size w W) => show W.cell? ⟨g, off + k * 3, none⟩ = some (i64v a.kind) ∧ W.cell? ⟨g, off + k * 3 + 1, none⟩ = some (i64v a.num) ∧ W.cell? ⟨g, off + k * 3 + 2, none⟩ = some (.slice a.p a.b.length a.c) from by
              obtain ⟨g', off', e, h2⟩ := (GA.out.below hb).cells (by omega)
              cases e
              rw [haa]
              exact h2 k hkz)
            have HFT := Lib.hid (show fit64 a.num by rw [haa]; exact (GA.out.nums _ (List.getElem_mem hkz)).2)
            have HGB := Lib.hid (show GoodC w a.b a.p a.c by rw [haa]; exact GA.out.bytes _ (List.getElem_mem hkz))
            have HML := Lib.hid (show a.b.length ≤ 200 by rw [haa]; exact HSH.out.2 _ (List.getElem_mem hkz))
            obtain ⟨kd, num, zs, q, c⟩ := a
            simp only at HCL HFT HGB HML
            obtain ⟨m, hm⟩ : ∃ m, zs.length = m := ⟨_, rfl⟩
            rw [hm] at HCL HML
            have HM := Lib.hid hm
            clear hcell hkz haa hm
            obtain ⟨c0, c1, c2⟩ := HCL.out wr S.out.below
            by_cases h9 : kd = 9
            · subst h9
              go_wp2_with fail
              refine (F.copy bx fx s wr S.out.one).mono ?_
              rintro e w5 ⟨bn, fo, gp, rfl, hr1, hr2, ht, hf, hng, hap⟩
              have T5 := Lib.hid (show TwoD R w w5 bn gp bw fw s from ⟨hr2, refHeldD.touch S.out.two ht S.out.apart, fun k a b => by have := hng k a; have := refHeldD.low S.out.two k b; omega, fun k hk => Nat.le_trans S.out.below.size (hng k hk), S.out.new2, S.out.below.trans (ht.below S.out.new1 S.out.below.size)⟩)
              have HO5 := Lib.hid hr1
              have HAP := Lib.hid hap
              have HA2 := Lib.hid (S.out.apart.from_ hf (refHeldD.low S.out.two))
              have HNO := Lib.hid (hf.low S.out.new1 S.out.below.size)
              clear hr1 hr2 ht hf hng hap S c0 c1 c2
              go_wp2_with fail
              refine (F.ok.wipe bx fo s w5 HO5.out).mono ?_
              rintro e w7 ⟨rfl, fo6, hr, ht, hf⟩
              have S := Lib.hid (T5.out.asideD K.out refHeldD ht HAP.out HA2.out HNO.out)
              clear hr ht hf T5 HO5 HAP HA2 HNO
              obtain ⟨c0, c1, c2⟩ := HCL.out w7 S.out.below
              go_wp2_with fail
              refine (does_any F w w7 bn gp bw fw s 9 num zs m q c S.out HFT.out HM.out HML.out HGB.out (by have := HST.out; omega)).mono ?_
              rintro e wa ⟨rfl, f1, f2, s', hp, hst'⟩
              have SA := Lib.hid hp
              have HST' := Lib.hid (show s'.steps ≤ k + 1 by have := HST.out; omega)
              clear hp S hst' c0 c1 c2
              go_wp2_with fail
              refine (alike_any F w wa bn f1 bw f2 s' SA.out (by have := HST'.out; omega)).mono ?_
              rintro e wb ⟨rfl, f1b, f2b, hp⟩
              have SB := Lib.hid hp
              clear hp SA
              go_wp2_with fail
              go_roundw
              case rel => exact ⟨k + 1, bn, f1b, f2b, by go_num, rfl, by omega, Lib.hid ⟨s', SB.out, HST'.out⟩⟩
              case measure => simp [intOf]; omega
            · have hz9 : (kd == 9) = false := by rw [beq_eq_false_iff_ne]; exact h9
              clear h9
              go_wp2_with fail
              refine (does_any F w wr bx fx bw fw s kd num zs m q c S.out HFT.out HM.out HML.out HGB.out (by have := HST.out; omega)).mono ?_
              rintro e wa ⟨rfl, f1, f2, s', hp, hst'⟩
              have SA := Lib.hid hp
              have HST' := Lib.hid (show s'.steps ≤ k + 1 by have := HST.out; omega)
              clear hp S hst' c0 c1 c2
              go_wp2_with fail
              refine (alike_any F w wa bx f1 bw f2 s' SA.out (by have := HST'.out; omega)).mono ?_
              rintro e wb ⟨rfl, f1b, f2b, hp⟩
              have SB := Lib.hid hp
              clear hp SA
              go_wp2_with fail
              go_roundw
              case rel => exact ⟨k + 1, bx, f1b, f2b, by go_num, rfl, by omega, Lib.hid ⟨s', SB.out, HST'.out⟩⟩
              case measure => simp [intOf]; omega
          · obtain rfl : k = n := by omega
            obtain ⟨s, hs, _⟩ := S0.out
            have S := Lib.hid hs
            clear S0 hs
            go_wp2_with fail
            refine (awake_any F wr).mono ?_
            rintro e w3 ⟨rfl, hb3⟩
            have B3 := Lib.hid (S.out.below.trans (hb3.mono S.out.below.size))
            clear hb3
            go_wp2_with fail
            go_ret
            exact ⟨rfl, B3.out⟩
    · exact absurd (HZ.out.symm.trans hz2) (by decide)
  · have HZ := Lib.hid hz
    clear hb1 hz HNX
    go_wp2_with fail
    refine (refDiskOK.new r w1 HR.out).mono ?_
    rintro e w2 ⟨hb2, ⟨hz2, _⟩ | ⟨_, rfl⟩⟩
    · exact absurd (HZ.out.symm.trans hz2) (by decide)
    have B2 := Lib.hid (B1.out.trans (hb2.mono B1.out.size))
    clear hb2
    go_wp2_with fail
    refine (awake_any F w2).mono ?_
    rintro e w3 ⟨rfl, hb3⟩
    have B3 := Lib.hid (B2.out.trans (hb3.mono B2.out.size))
    clear hb3
    go_wp2_with fail
    go_ret
    exact ⟨rfl, B3.out⟩
end Go.Proofs.Ytooljhdfmfkpeaa
