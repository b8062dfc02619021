/-
  Two lots side by side in memory; the law package's fresh, awake, known.
-/
import Derived.Test.YtjdlmpmdjlmdnaaLtA
import Derived.Deep.QuietTactic
import Derived.BigQuiet
namespace Go.Proofs.Ytjdlmpmdjlmdnaa
set_option linter.unusedSimpArgs false
set_option linter.unusedVariables false
open Go.RowKit Sha Lot
structure Rep (R : LotRep) : Prop where
  low : ∀ {w b fp L N}, R w b fp L N → ∀ k ∈ fp, k < w.heap.size
  keep : ∀ {w w' : World} {b fp L N}, R w b fp L N → (∀ k ∈ fp, w'.heap[k]? = w.heap[k]?) → R w' b fp L N
theorem LotOK.rep {a b c d : Nat} {R : LotRep} (h : LotOK a b c d R) : Rep R := ⟨h.low, h.keep⟩
theorem Rep.on {R : LotRep} (K : Rep R) {w w' : World} {b fp L N} (h : R w b fp L N) (hb : Below w.heap.size w w') : R w' b fp L N := K.keep h fun k hk => hb.block k (K.low h k hk)
/-- Two lots, apart, made since w0. -/
structure Side (R1 R2 : LotRep) (w0 w : World) (b1 : Nat) (f1 : List Nat) (L1 : List Int) (N1 : Nat) (b2 : Nat) (f2 : List Nat) (L2 : List Int) (N2 : Nat) : Prop where
  one : R1 w b1 f1 L1 N1
  two : R2 w b2 f2 L2 N2
  apart : Apart f1 f2
  new1 : ∀ k ∈ f1, w0.heap.size ≤ k
  new2 : ∀ k ∈ f2, w0.heap.size ≤ k
  below : Below w0.heap.size w0 w
section
variable {R1 R2 : LotRep} {w0 w w' : World} {b1 b2 : Nat} {f1 f2 : List Nat} {L1 L2 : List Int} {N1 N2 : Nat}
theorem Side.swap (h : Side R1 R2 w0 w b1 f1 L1 N1 b2 f2 L2 N2) : Side R2 R1 w0 w b2 f2 L2 N2 b1 f1 L1 N1 := ⟨h.two, h.one, h.apart.symm, h.new2, h.new1, h.below⟩
theorem Side.on (K1 : Rep R1) (K2 : Rep R2) (h : Side R1 R2 w0 w b1 f1 L1 N1 b2 f2 L2 N2) (hb : Below w.heap.size w w') : Side R1 R2 w0 w' b1 f1 L1 N1 b2 f2 L2 N2 :=
  ⟨K1.on h.one hb, K2.on h.two hb, h.apart, h.new1, h.new2, h.below.trans (hb.mono h.below.size)⟩
theorem Side.drewN (K1 : Rep R1) (K2 : Rep R2) (h : Side R1 R2 w0 w b1 f1 L1 N1 b2 f2 L2 N2) (m : Nat) : Side R1 R2 w0 (w.drewN m) b1 f1 L1 N1 b2 f2 L2 N2 := h.on K1 K2 (below_drewN (Below.refl _ _) m)
/-- A call on the first one. -/
theorem Side.step1 (K1 : Rep R1) (K2 : Rep R2) (h : Side R1 R2 w0 w b1 f1 L1 N1 b2 f2 L2 N2) {f1' : List Nat} {M : Nat} (hr : R1 w' b1 f1' L1 M) (ht : Touch f1 w w') (hf : From f1 f1' w) : Side R1 R2 w0 w' b1 f1' L1 M b2 f2 L2 N2 :=
  ⟨hr, K2.keep h.two (ht.keep h.apart (K2.low h.two)), h.apart.from_ hf (K2.low h.two), hf.low h.new1 h.below.size, h.new2, h.below.trans (ht.below h.new1 h.below.size)⟩
theorem Side.step2 (K1 : Rep R1) (K2 : Rep R2) (h : Side R1 R2 w0 w b1 f1 L1 N1 b2 f2 L2 N2) {f2' : List Nat} {M : Nat} (hr : R2 w' b2 f2' L2 M) (ht : Touch f2 w w') (hf : From f2 f2' w) : Side R1 R2 w0 w' b1 f1 L1 N1 b2 f2' L2 M :=
  (h.swap.step1 K2 K1 hr ht hf).swap
end
/-- What the program's lots are asked to do. -/
structure LotsOK (R : LotRep) : Prop where
  ok : LotOK 10 17 19 15 R
  used : LotUsed 21 R
def FreshDone (R : LotRep) (L : List Int) (w : World) (e : Ending) (w' : World) : Prop := Below w.heap.size w w' ∧ ∃ b fp, e = .returned (lptr b) ∧ R w' b fp L 0 ∧ ∀ k ∈ fp, w.heap.size ≤ k
set_option maxHeartbeats 400000 in
theorem fresh_any {R : LotRep} (F : LotsOK R) (zs : List Int) (n : Nat) (p : Option Addr) (cap : Nat) (w : World) (hn : zs.length = n) (h : GoodN w zs p cap) (hz : newErr zs = 0) :
    Calls Try.prog 22 #[.slice p n cap] w (FreshDone R zs w) := by
  have HC := Lib.hid (F.ok.new zs n p cap w hn h)
  have HZ := Lib.hid hz
  clear h hn hz
  go_enter Try.func22, Try.ntmps22
  go_wp2_with fail
  refine HC.out.mono ?_
  rintro e w1 ⟨hb1, ⟨_, b, fp, rfl, hr, hnew⟩ | ⟨hne, _⟩⟩
  · have B1 := Lib.hid hb1
    have HR := Lib.hid hr
    have HNW := Lib.hid hnew
    clear hb1 hr hnew
    go_wp2_with fail
    go_ret
    exact ⟨B1.out, b, fp, rfl, HR.out, HNW.out⟩
  · exact absurd HZ.out hne
theorem at_built (w : World) (cs : List Int) : GoodN (w.alloc (.cells (cs.map v64).toArray 3)) [] none 0 := ⟨by simp, At.nil _ _, by simp, by omega, fun _ => rfl⟩
theorem good_nilN (w : World) : GoodN w [] none 0 := ⟨by simp, At.nil _ _, by simp, by omega, fun _ => rfl⟩
theorem at_markN (w : World) (cs : List Value) (t : TypeId) (fr : Nat × Nat) : At (w.alloc (.cells cs.toArray t fr)) (some ⟨w.heap.size, 0, none⟩) cs := by
  refine Or.inr ⟨_, 0, rfl, fun i v hi => ?_⟩
  rw [Nat.zero_add, cell_of_row _ _ i cs.toArray t fr (heap_alloc_new w _)]
  simpa using hi
theorem good_lit (w : World) (xs : List Int) (cs : Array Value) (n : Nat) (hc : cs = (xs.map v64).toArray) (hn : xs.length = n) (hs : n ≤ 1000) (hx : ∀ n ∈ xs, -9223372036854775808 ≤ n ∧ n ≤ 9223372036854775807) : GoodN (w.alloc (.cells cs 3)) xs (some ⟨w.heap.size, 0, none⟩) n := by
  subst hc
  exact ⟨hx, at_markN w (xs.map v64) 3 (0, 0), by omega, by omega, fun h => by cases h⟩
theorem Side.made {R1 R2 : LotRep} (K1 : Rep R1) {w0 w w' : World} {b1 b2 : Nat} {f1 f2 : List Nat} {L1 L2 : List Int} {N1 N2 : Nat} (h1 : R1 w b1 f1 L1 N1) (n1 : ∀ k ∈ f1, w0.heap.size ≤ k) (hB : Below w0.heap.size w0 w) (hb : Below w.heap.size w w') (h2 : R2 w' b2 f2 L2 N2) (n2 : ∀ k ∈ f2, w.heap.size ≤ k) : Side R1 R2 w0 w' b1 f1 L1 N1 b2 f2 L2 N2 :=
  ⟨K1.on h1 hb, h2, fun k a c => by have := K1.low h1 k a; have := n2 k c; omega, n1, fun k hk => Nat.le_trans hB.size (n2 k hk), hB.trans (hb.mono hB.size)⟩
set_option maxRecDepth 100000 in
set_option maxHeartbeats 1000000 in
theorem awake_any {R : LotRep} (F : LotsOK R) (w : World) : Calls Try.prog 8 #[] w fun e w' => e = .returned (.bool true) ∧ Below w.heap.size w w' := by
  have K := Lib.hid F.ok.rep
  have hb0 := (Below.refl w.heap.size w).alloc (Nat.le_refl _) (Obj.cells #[Value.int IntKind.i64 7, Value.int IntKind.i64 3] 3)
  have HG := Lib.hid (good_lit w [7, 3] #[Value.int IntKind.i64 7, Value.int IntKind.i64 3] 2 rfl rfl (by omega) (by intro n hn; simp at hn; omega))
  have B0 := Lib.hid hb0
  clear hb0
  go_enter Try.func8, Try.ntmps8
  go_wp2_with fail
  refine (fresh_any F [7, 3] 2 _ 2 _ rfl HG.out (by decide)).mono ?_
  rintro e W2 ⟨hb2, bx, fx, rfl, hrx, hnx⟩
  have HX := Lib.hid hrx
  have NX := Lib.hid (show ∀ k ∈ fx, w.heap.size ≤ k from fun k hk => Nat.le_trans B0.out.size (hnx k hk))
  have B2 := Lib.hid (B0.out.trans (hb2.mono B0.out.size))
  clear hb2 hrx hnx HG
  go_wp2_with fail
  refine (fresh_any F [] 0 none 0 W2 rfl (good_nilN _) (by decide)).mono ?_
  rintro e W3 ⟨hb3, by_, fy, rfl, hry, hny⟩
  have S3 := Lib.hid (Side.made K.out HX.out NX.out B2.out hb3 hry hny)
  clear hb3 hry hny HX NX B2 B0
  go_wp2_with fail
  refine (show Calls Try.prog _ _ _ (OpDone R bx fx [7, 3] 1 (v64 2) W3) from F.ok.pick bx fx [7, 3] 0 5 W3 S3.out.one (by omega) (by omega)).mono ?_
  rintro e W4 ⟨rfl, fx4, hr, ht, hf⟩
  have S4 := Lib.hid (S3.out.step1 K.out K.out hr ht hf)
  clear hr ht hf S3
  go_wp2_with fail
  refine (show Calls Try.prog _ _ _ (OpDone R bx fx4 [7, 3] 2 (v64 3) W4) from F.ok.draw bx fx4 [7, 3] 1 W4 S4.out.one (by omega)).mono ?_
  rintro e W5 ⟨rfl, fx5, hr, ht, hf⟩
  have S5 := Lib.hid (S4.out.step1 K.out K.out hr ht hf)
  clear hr ht hf S4
  go_wp2_with fail
  refine (show Calls Try.prog _ _ _ (OpDone R bx fx5 [7, 3] 3 (v64 0) W5) from F.ok.draw bx fx5 [7, 3] 2 W5 S5.out.one (by omega)).mono ?_
  rintro e W6 ⟨rfl, fx6, hr, ht, hf⟩
  have S6 := Lib.hid (S5.out.step1 K.out K.out hr ht hf)
  clear hr ht hf S5
  go_wp2_with fail
  refine (show Calls Try.prog _ _ _ (OpDone R bx fx6 [7, 3] 3 (v64 3) W6) from F.used.used bx fx6 [7, 3] 3 W6 S6.out.one (by omega)).mono ?_
  rintro e W7 ⟨rfl, fx7, hr, ht, hf⟩
  have S7 := Lib.hid (S6.out.step1 K.out K.out hr ht hf)
  clear hr ht hf S6
  go_wp2_with fail
  refine (show Calls Try.prog _ _ _ (ShufDone R by_ fy [] 2 [1, 2, 0] W7) from F.ok.shuffle by_ fy [] 0 3 W7 S7.out.two (by omega) (by omega)).mono ?_
  rintro e W8 ⟨v, fy8, rfl, ho, hr, ht, hf, _⟩
  have S8 := Lib.hid (S7.out.step2 K.out K.out hr ht hf)
  obtain ⟨q, c, rfl, hl, hg⟩ := ho.good (by intro n hn; simp at hn; omega)
  have G8 := Lib.hid hg
  have B8 := Lib.hid S8.out.below
  clear hr ht hf S7 ho hg hl
  go_wp2_with fail
  have hb9 := (Below.refl W8.heap.size W8).alloc (Nat.le_refl _) (Obj.cells #[Value.int IntKind.i64 1, Value.int IntKind.i64 2, Value.int IntKind.i64 0] 3)
  refine (sameN_any [1, 2, 0] [1, 2, 0] 3 3 q _ c 3 _ rfl rfl (G8.out.below hb9) (good_lit W8 [1, 2, 0] #[Value.int IntKind.i64 1, Value.int IntKind.i64 2, Value.int IntKind.i64 0] 3 rfl rfl (by omega) (by intro n hn; simp at hn; omega))).mono ?_
  rintro e W10 ⟨rfl, m, rfl⟩
  have B10 := Lib.hid (below_drewN (B8.out.trans (hb9.mono B8.out.size)) m)
  clear hb9
  go_wp2_with fail
  go_ret
  exact ⟨rfl, B10.out⟩
set_option maxRecDepth 100000 in
set_option maxHeartbeats 1000000 in
theorem known_any {R : LotRep} (F : LotsOK R) (w : World) : Calls Try.prog 5 #[] w fun e w' => e = .returned (.bool true) ∧ Below w.heap.size w w' := by
  have K := Lib.hid F.ok.rep
  go_enter Try.func5, Try.ntmps5
  go_wp2_with fail
  refine (fresh_any F [] 0 none 0 w rfl (good_nilN _) (by decide)).mono ?_
  rintro e W1 ⟨hb1, bx, fx, rfl, hrx, hnx⟩
  have HX := Lib.hid hrx
  have NX := Lib.hid hnx
  have B1 := Lib.hid hb1
  clear hb1 hrx hnx
  have hb2 := (Below.refl W1.heap.size W1).alloc (Nat.le_refl _) (Obj.cells #[Value.int IntKind.i64 2, Value.int IntKind.i64 1] 3)
  have HG := Lib.hid (good_lit W1 [2, 1] #[Value.int IntKind.i64 2, Value.int IntKind.i64 1] 2 rfl rfl (by omega) (by intro n hn; simp at hn; omega))
  have B2 := Lib.hid hb2
  clear hb2
  go_wp2_with fail
  refine (fresh_any F [2, 1] 2 _ 2 _ rfl HG.out (by decide)).mono ?_
  rintro e W3 ⟨hb3, by_, fy, rfl, hry, hny⟩
  have S3 := Lib.hid (Side.made K.out HX.out NX.out B1.out (B2.out.trans (hb3.mono B2.out.size)) hry (fun k hk => Nat.le_trans B2.out.size (hny k hk)))
  clear hb3 hry hny HX NX B2 B1 HG
  have hb4 := (Below.refl W3.heap.size W3).alloc (Nat.le_refl _) (Obj.cells #[Value.int IntKind.i64 (-1)] 3)
  have HG := Lib.hid (good_lit W3 [-1] #[Value.int IntKind.i64 (-1)] 1 rfl rfl (by omega) (by intro n hn; simp at hn; omega))
  have S4 := Lib.hid (S3.out.on K.out K.out hb4)
  clear hb4 S3
  go_wp2_with fail
  refine (F.ok.new [-1] 1 _ 1 _ rfl HG.out).mono ?_
  rintro e W5 ⟨hb5, ⟨hz, _⟩ | ⟨_, rfl⟩⟩
  · exact absurd hz (by decide)
  have S5 := Lib.hid (S4.out.on K.out K.out hb5)
  rw [show newErr [-1] = 2 by decide]
  clear hb5 S4 HG
  go_wp2_with fail
  refine (awake_any F W5).mono ?_
  rintro e W6 ⟨rfl, hb6⟩
  have S6 := Lib.hid (S5.out.on K.out K.out hb6)
  clear hb6 S5
  go_wp2_with fail
  refine (show Calls Try.prog _ _ _ (ShufDone R bx fx [] 0 [0] W6) from F.ok.shuffle bx fx [] 0 1 W6 S6.out.one (by omega) (by omega)).mono ?_
  rintro e W8 ⟨v, fx8, rfl, ho, hr, ht, hf, _⟩
  have S8 := Lib.hid (S6.out.step1 K.out K.out hr ht hf)
  obtain ⟨q, c, rfl, hl, hg⟩ := ho.good (by intro n hn; simp at hn; omega)
  have G8 := Lib.hid hg
  clear hr ht hf S6 ho hg hl
  have hb9 := (Below.refl W8.heap.size W8).alloc (Nat.le_refl _) (Obj.cells #[Value.int IntKind.i64 0] 3)
  have S9 := Lib.hid (S8.out.on K.out K.out hb9)
  have G9 := Lib.hid (G8.out.below hb9)
  clear hb9 S8 G8
  go_wp2_with fail
  refine (sameN_any [0] [0] 1 1 q _ c 1 _ rfl rfl G9.out (good_lit W8 [0] #[Value.int IntKind.i64 0] 1 rfl rfl (by omega) (by intro n hn; simp at hn; omega))).mono ?_
  rintro e W10 ⟨rfl, m, hw⟩
  have S10 := Lib.hid (show Side R R w W10 bx fx8 [] 0 by_ fy [2, 1] 0 by rw [hw]; exact S9.out.drewN K.out K.out m)
  clear hw S9 G9
  go_wp2_with fail
  refine (show Calls Try.prog _ _ _ (ShufDone R by_ fy [2, 1] 2 [0, 1, 2] W10) from F.ok.shuffle by_ fy [2, 1] 0 3 W10 S10.out.two (by omega) (by omega)).mono ?_
  rintro e W11 ⟨v, fy8, rfl, ho, hr, ht, hf, _⟩
  have S11 := Lib.hid (S10.out.step2 K.out K.out hr ht hf)
  obtain ⟨q2, c2, rfl, hl, hg⟩ := ho.good (by intro n hn; simp at hn; omega)
  have G11 := Lib.hid hg
  have B11 := Lib.hid S11.out.below
  clear hr ht hf S10 ho hg hl
  have hb12 := (Below.refl W11.heap.size W11).alloc (Nat.le_refl _) (Obj.cells #[Value.int IntKind.i64 0, Value.int IntKind.i64 1, Value.int IntKind.i64 2] 3)
  have B12 := Lib.hid (B11.out.trans (hb12.mono B11.out.size))
  have G12 := Lib.hid (G11.out.below hb12)
  clear hb12 S11 G11
  go_wp2_with fail
  refine (sameN_any [0, 1, 2] [0, 1, 2] 3 3 q2 _ c2 3 _ rfl rfl G12.out (good_lit W11 [0, 1, 2] #[Value.int IntKind.i64 0, Value.int IntKind.i64 1, Value.int IntKind.i64 2] 3 rfl rfl (by omega) (by intro n hn; simp at hn; omega))).mono ?_
  rintro e W13 ⟨rfl, m2, hw⟩
  have B13 := Lib.hid (show Below w.heap.size w W13 by rw [hw]; exact below_drewN B12.out m2)
  clear hw
  go_wp2_with fail
  go_ret
  exact ⟨rfl, B13.out⟩
end Go.Proofs.Ytjdlmpmdjlmdnaa
