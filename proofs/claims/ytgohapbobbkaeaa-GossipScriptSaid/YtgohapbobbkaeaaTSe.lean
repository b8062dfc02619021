/-
  The question that put asks of the place a telling takes; sort.Search with it.
-/
import Derived.Test.YtgohapbobbkaeaaTsn
namespace Go.Proofs.Ytgohapbobbkaeaa
set_option linter.unusedSimpArgs false
set_option linter.unusedVariables false
open Go.RowKit Sha
abbrev gt : TypeId := 47
abbrev snf : Value := .func (.func 27) #[] #[]
abbrev lpt (b : Nat) : Value := .pointer (some ⟨b, 2, none⟩)
/-- A line in memory: its things, and the func that orders them. -/
structure LineIn (w : World) (b : Nat) (p0 p1 : Value) (q : Option Addr) (n c : Nat) (l : List Tl) : Prop where
  blk : Blk w b [p0, p1, .slice q n c, snf] gt
  at_ : At w q (l.flatMap tc)
  len : l.length = n
  le : n ≤ c
  max : c ≤ maxLen
  nil : q = none → c = 0
theorem LineIn.upon {w w' : World} {b : Nat} {p0 p1 : Value} {q : Option Addr} {n c : Nat} {l : List Tl} (h : LineIn w b p0 p1 q n c l) (hb : Below w.heap.size w w') : LineIn w' b p0 p1 q n c l :=
  ⟨h.blk.upon hb, h.at_.below hb, h.len, h.le, h.max, h.nil⟩
theorem LineIn.get {w : World} {b : Nat} {p0 p1 : Value} {q : Option Addr} {n c : Nat} {l : List Tl} (h : LineIn w b p0 p1 q n c l) (k : Nat) (hk : k < l.length) : ∃ g off, q = some ⟨g, off, none⟩ ∧ w.rangeAt g (off + k * 4) (tc l[k]) := by
  have hA := h.at_
  obtain ⟨g, off, rfl, _⟩ := hA.addr (by rw [tflat_length]; omega)
  exact ⟨g, off, rfl, rangeT hA k hk⟩
section
attribute [local go_sem ↓] execOp_loadM execOp_loadT execOp_storeT execOp_buildT
set_option maxRecDepth 100000 in
set_option maxHeartbeats 4000000 in
theorem ask_any (b c1 c2 : Nat) (p0 p1 : Value) (q : Option Addr) (n c : Nat) (l : List Tl) (x : Tl) (t : TypeId) (k : Nat) (w : World) (h : LineIn w b p0 p1 q n c l) (hk : k < l.length) (h1 : Blk w c1 [lpt b] t) (h2 : Blk w c2 (tc x) tt) :
    Calls Try.prog 47 #[.int .i64 k, .pointer (some ⟨c1, 0, none⟩), .pointer (some ⟨c2, 0, none⟩)] w fun e w' => e = .returned (.bool (decide (Gs.lt x l[k]))) ∧ Below w.heap.size w w' := by
  have hkn : (0 : Int) ≤ (k : Int) ∧ (k : Int) < (n : Int) := by have := h.len; omega
  obtain ⟨g, off, rfl, hr⟩ := h.get k hk
  obtain ⟨I, W, hC⟩ := cls_of w
  have hne : Nonempty I := hC.ne
  have d1 := hC.cell (h1.cell 0)
  have d2 := hC.cell (h.blk.cell 2)
  have d3 := hC.cell (h.blk.cell 3)
  have l1 := fun n => run_loadT (rangeT_on (rangeT_of h2) (hC.back n))
  have l2 := fun n => run_loadT (rangeT_on hr (hC.back n))
  have QS := Lib.hid (fun y => hC.call (P := Try.prog) (f := 27) (args := #[tv x, tv y]) (v := .bool (decide (Gs.lt x y))) (fun w' hb => sooner_any x y w'))
  have HC := Lib.hid hC
  generalize l[k] = y at *
  clear h1 h2 hr h hC hk
  go_enter Try.func47, Try.ntmps47
  go_wp2_with fail
  refine wp_region_cls W (by kernel_rfl) (by kernel_rfl) HC.out.one ?_
  repeat go_big_quiet_step ((go_at_call 27; exact QS.out _ _))
  refine wpQuiet_nil ?_
  rintro _ ⟨m, rfl⟩
  have HB := Lib.hid (HC.out.back m)
  go_wp2_with fail
  go_ret
  exact ⟨rfl, HB.out⟩
set_option maxRecDepth 100000 in
set_option maxHeartbeats 4000000 in
theorem search_any (n p c1 c2 : Nat) (w : World) (hp : p ≤ n) (hn : n ≤ 100000)
    (hF : ∀ k, k < n → ∀ w', Below w.heap.size w w' → Calls Try.prog 47 #[.int .i64 k, .pointer (some ⟨c1, 0, none⟩), .pointer (some ⟨c2, 0, none⟩)] w' fun e w'' => e = .returned (.bool (decide (p ≤ k))) ∧ Below w'.heap.size w' w'') :
    Calls Try.prog 46 #[.int .i64 n, .func (.func 47) #[] #[.pointer (some ⟨c1, 0, none⟩), .pointer (some ⟨c2, 0, none⟩)]] w fun e w' => e = .returned (.int .i64 (p : Nat)) ∧ Below w.heap.size w w' := by
  have HF := Lib.hid hF
  clear hF
  go_enter Try.func46, Try.ntmps46
  go_wp2_with fail
  go_loopw [5, 6] (fun i j wr => ∃ a b : Nat, i = .int .i64 a ∧ j = .int .i64 b ∧ a ≤ p ∧ p ≤ b ∧ b ≤ n ∧ Hid (Below w.heap.size w wr)) (fun i j _ => (intOf j).toNat - (intOf i).toNat)
  case atStart => exact ⟨0, n, rfl, rfl, by omega, hp, by omega, Lib.hid (Below.refl _ _)⟩
  case round =>
    obtain ⟨a, b, rfl, rfl, ha, hb, hbn, HBR⟩ := hrel
    by_cases hab : a < b
    · obtain ⟨m, hm⟩ : ∃ m, m = (a + b) / 2 := ⟨_, rfl⟩
      have hma : a ≤ m ∧ m < b := by omega
      have hm2 : ((a : Int) + (b : Int)) / 2 = (m : Int) := by omega
      have QF := Lib.hid (HF.out m (by omega) _ HBR.out)
      by_cases hpm : p ≤ m
      · have t1 : decide (p ≤ m) = true := decide_eq_true hpm
        rw [t1] at QF
        clear hm
        go_wp2_with fail
        refine QF.out.mono ?_
        rintro e w2 ⟨rfl, hb2⟩
        have HB2 := Lib.hid (below_next HBR.out hb2)
        clear QF hm2 hb2 t1
        go_wp2_with fail
        go_roundw
        case rel => exact ⟨a, m, rfl, rfl, ha, by omega, by omega, HB2⟩
        case measure => simp [intOf]; omega
      · have t1 : decide (p ≤ m) = false := decide_eq_false hpm
        rw [t1] at QF
        clear hm
        go_wp2_with fail
        refine QF.out.mono ?_
        rintro e w2 ⟨rfl, hb2⟩
        have HB2 := Lib.hid (below_next HBR.out hb2)
        clear QF hm2 hb2 t1
        go_wp2_with fail
        go_roundw
        case rel => exact ⟨m + 1, b, by go_num, rfl, by omega, hb, hbn, HB2⟩
        case measure => simp [intOf]; omega
    · obtain rfl : a = p := by omega
      obtain rfl : b = a := by omega
      go_wp2_with fail
      go_ret
      exact ⟨rfl, HBR.out⟩
end
end Go.Proofs.Ytgohapbobbkaeaa
