/-
  The program's find: where the word about a node stands.
-/
import Derived.Test.YtgohapbobbkaeaaTCut
namespace Go.Proofs.Ytgohapbobbkaeaa
set_option linter.unusedSimpArgs false
set_option linter.unusedVariables false
open Go.RowKit Sha
/-- The place, or -1. -/
def Gs.idx (l : List Tl) (i : Int) : Int := if Gs.at_ l i < l.length then (Gs.at_ l i : Nat) else -1
section
attribute [local go_sem ↓] execOp_loadM execOp_loadT execOp_storeT execOp_buildT execOp_sliceT
theorem such_any (y : Tl) (m : Mb) (c : Nat) (w : World) (hc : Blk w c (mc m) mt) :
    Calls Try.prog 34 #[tv y, .pointer (some ⟨c, 0, none⟩)] w fun e w' => e = .returned (.bool (decide (y.m.I = m.I))) ∧ Below w.heap.size w w' := by
  have BA := Lib.hid (show Below w.heap.size w (w.alloc (.cells (tc y).toArray tt)) from (Below.refl _ _).alloc (Nat.le_refl _) _)
  have k1 : (w.alloc (.cells #[.int .i64 y.m.I, .int .i64 y.m.S, .int .i64 y.m.N, .int .i64 y.t] tt)).cell? ⟨c, 0, none⟩ = some (.int .i64 m.I) := (hc.upon BA.out).cell 0
  have HD := Lib.hid (show (y.m.I == m.I) = decide (y.m.I = m.I) from rfl)
  clear hc
  go_enter Try.func34, Try.ntmps34
  go_wp2_with fail
  go_ret
  exact ⟨rfl, BA.out⟩
set_option maxRecDepth 100000 in
set_option maxHeartbeats 4000000 in
theorem index_any (l : List Tl) (m : Mb) (cb : Nat) (q : Option Addr) (n c : Nat) (w : World) (hA : At w q (l.flatMap tc)) (hn : l.length = n) (hle : n ≤ c) (hm : c ≤ maxLen) (hs : n ≤ 100000) (hc : Blk w cb (mc m) mt) :
    Calls Try.prog 49 #[.slice q n c, .func (.func 34) #[] #[.pointer (some ⟨cb, 0, none⟩)]] w fun e w' => e = .returned (.int .i64 (Gs.idx l m.I)) ∧ Below w.heap.size w w' := by
  obtain ⟨ix, hix⟩ : ∃ i, i = Gs.at_ l m.I := ⟨_, rfl⟩
  have hle2 : ix ≤ n := by rw [hix, ← hn]; exact Gs.at_le l m.I
  have H1 := Lib.hid (show ∀ a (ha : a < l.length), a < ix → decide (l[a].m.I = m.I) = false from fun a ha h => decide_eq_false (Gs.at_before a (by rw [← hix]; exact h) ha))
  have H2 := Lib.hid (show ∀ (ha : ix < l.length), decide (l[ix].m.I = m.I) = true from fun ha => by subst hix; exact decide_eq_true (Gs.at_here ha))
  have HX := Lib.hid (show Gs.idx l m.I = if ix < n then (ix : Int) else -1 from by rw [hix, ← hn]; rfl)
  have HA := Lib.hid hA
  have HN := Lib.hid hn
  have HC := Lib.hid hc
  unfold maxLen at hm
  clear hix hA hn hc
  go_enter Try.func49, Try.ntmps49
  go_wp2_with fail
  go_loopw [8] (fun i wr => ∃ a : Nat, i = .int .i64 a ∧ a ≤ ix ∧ Hid (Below w.heap.size w wr)) (fun i _ => n - (intOf i).toNat)
  case atStart => exact ⟨0, rfl, by omega, Lib.hid (Below.refl _ _)⟩
  case round =>
    obtain ⟨a, rfl, ha, HB⟩ := hrel
    by_cases han : a < n
    · have hal : a < l.length := by rw [HN.out]; exact han
      have hA2 := HA.out.below HB.out
      obtain ⟨g, off, rfl, _⟩ := hA2.addr (by rw [tflat_length]; omega)
      have l1 := run_loadT (rangeT hA2 a hal)
      have hjn : (0 : Int) ≤ (a : Int) ∧ (a : Int) < (n : Int) := by omega
      have h1 := H1.out a hal
      have h2 : a = ix → decide (l[a].m.I = m.I) = true := fun e => by subst e; exact H2.out hal
      have HS := Lib.hid (such_any l[a] m cb wr (HC.out.upon HB.out))
      generalize l[a] = y at *
      clear hA2 hal
      by_cases hai : a = ix
      · rw [h2 hai] at HS
        have hd : ix < n := by omega
        have HX2 := Lib.hid (HX.out.trans (if_pos hd))
        clear h1 h2
        subst hai
        go_wp2_with fail
        refine HS.out.mono ?_
        rintro e w2 ⟨rfl, hb2⟩
        have HB2 := Lib.hid (below_next HB.out hb2)
        clear l1 HS hb2
        go_wp2_with fail
        go_ret
        exact ⟨by rw [HX2.out]; rfl, HB2.out⟩
      · rw [h1 (by omega)] at HS
        clear h1 h2
        go_wp2_with fail
        refine HS.out.mono ?_
        rintro e w2 ⟨rfl, hb2⟩
        have HB2 := Lib.hid (below_next HB.out hb2)
        clear l1 HS hb2
        go_wp2_with fail
        go_roundw
        case rel => exact ⟨a + 1, by go_num, by omega, HB2⟩
        case measure => simp [intOf]; omega
    · obtain rfl : a = n := by omega
      obtain rfl : ix = a := by omega
      have HX2 := Lib.hid (HX.out.trans (if_neg (Nat.lt_irrefl _)))
      go_wp2_with fail
      go_ret
      exact ⟨by rw [HX2.out]; rfl, HB.out⟩
set_option maxHeartbeats 1000000 in
theorem tfind_any (b : Nat) (fp : List Nat) (p0 p1 : Value) (l : List Tl) (m : Mb) (cb : Nat) (w : World) (h : LineRep w b fp p0 p1 l) (hn : l.length ≤ 1000) (hc : Blk w cb (mc m) mt) :
    Calls Try.prog 33 #[lpt b, .func (.func 34) #[] #[.pointer (some ⟨cb, 0, none⟩)]] w fun e w' => e = .returned (.int .i64 (Gs.idx l m.I)) ∧ Below w.heap.size w w' := by
  obtain ⟨v, rfl, hb, ho, hne⟩ := h
  obtain ⟨q, c, hv, hle, hm, hA, _, hnil⟩ := own_at_s ho
  have c2 : w.cell? ⟨b, 2, none⟩ = some v := hb.cell 2
  have HI := Lib.hid (index_any l m cb q l.length c w hA rfl hle hm (by omega) hc)
  generalize l.length = n at *
  rw [hv] at c2
  generalize Gs.idx l m.I = r at *
  clear hb ho hne hv hle hm hA hnil hc
  go_enter Try.func33, Try.ntmps33
  go_wp2_with fail
  refine HI.out.mono ?_
  rintro e w2 ⟨rfl, hb2⟩
  go_wp2_with fail
  go_ret
  exact ⟨rfl, hb2⟩
end
end Go.Proofs.Ytgohapbobbkaeaa
