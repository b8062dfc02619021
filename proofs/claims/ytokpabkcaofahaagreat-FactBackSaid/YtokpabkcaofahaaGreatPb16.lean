/-
  The program's slices.BinarySearchFunc at api.Keep (written by mk9.py from Bs.src).
  The reference's same (written by mkrsame9.py).
  The reference's items of a fact.
  Objects in memory: what a call on one of them may turn. No program is named here.
  A field of a fact stored: what the fact's block holds behind it.
  Plain mathematics of the reference's digest: words by words, blocks by blocks of the filled message.
  The reference's of: the fact of a kind and its items (written by mkof9.py).
-/
import Derived.Test.YtokpabkcaofahaaGreatPb9
import Derived.Test.YtokpabkcaofahaaGreatPb15
import Derived.Test.YtokpabkcaofahaaGreatPb14
import Derived.Test.YtokpabkcaofahaaGreatPb13
import Derived.Test.YtokpabkcaofahaaGreatPb5
import Derived.Deep.Quiet
import Derived.Test.YtokpabkcaofahaaGreatPb12
import Derived.Test.YtokpabkcaofahaaGreatPb1
import Derived.Test.YtokpabkcaofahaaGreatPb11
import Derived.Deep.AppendLies
import Derived.Deep.RegionHeld3
import Derived.Deep.RegionLaw
namespace Go.Proofs.YtokpabkcaofahaaGreat
section
set_option linter.unusedSimpArgs false
set_option linter.unusedVariables false
open Go.RowKit Sha Fct
theorem ordc_K (x y : Int × Fct.Id) (q r : Option Addr) (c d : Nat) (w : World) (hx : sK.ok x) (hy : sK.ok y) :
    Calls Tryz.prog 153 #[.agg (kcells x q c).toArray, .agg (kcells y r d).toArray] w fun e w' => e = .returned (.int .i64 (ordK x y)) ∧ Below w.heap.size w w' := keeps_any x y w hx.2 hy.2
theorem ordn_K (x y : Int × Fct.Id) : ordK x y < 0 ↔ klt (id x) (id y) = true := ordK_neg x y
theorem ordz_K (x y : Int × Fct.Id) : ordK x y = 0 ↔ id x = id y := ordK_zero x y
theorem execOp_loadOK (ρ : Operand → Value) (dst : Option Tmp) (x : Operand) (ty : TypeId) (pos : String) (after : Array Edge) (guard : Option (Nat × Bool)) :
    execOp ρ { dst := dst, op := .load 95 x, type := ty, pos := pos, after := after, guard := guard } = loadOp 95 (ρ x) := by unfold loadOp; rfl
theorem load_OK {w : World} {g o : Nat} {x : Int × Fct.Id} (hx : sK.ok x) {q : Option Addr} {c : Nat} (h : w.rangeAt g o (kcells x q c)) : (loadOp 95 (.pointer (some ⟨g, o, none⟩))).run Tryz.prog w = .ok (.value (.agg (kcells x q c).toArray)) w :=
  run_loadOp (run_loadAt_mid w g o 95 _ _ h Tryz.underlying95 rfl (by rw [isize_K]; exact congrArg some (sK.len q c hx).symm))
attribute [local go_sem ↓] execOp_loadOK execOp_boxOK
set_option maxRecDepth 100000 in
set_option maxHeartbeats 2000000 in
theorem bs_K (l : List (Int × Fct.Id)) (p : Option Addr) (n c : Nat) (w : World) (h : sK.Told w p n c l) (hup : Rise.Up id klt l) (x : Int × Fct.Id) (q : Option Addr) (d : Nat) (hx : sK.ok x) (hn : n ≤ 1000000000) :
    Calls Tryz.prog 173 #[.slice p n c, .agg (kcells x q d).toArray, .func (.func 153) #[] #[]] w fun e w' =>
      e = .returned (.tuple #[.int .i64 (Rise.place id klt (id x) l : Nat), .bool (Rise.found id klt (id x) l)]) ∧ Below w.heap.size w w' := by
  have bx := run_boxOp (P := Tryz.prog) (t := 95) (cs := (kcells x q d).toArray) w
  have hb1 := (Below.refl w.heap.size w).alloc (Nat.le_refl _) (.cells (kcells x q d).toArray 95)
  have hk1 : Blk (w.alloc (.cells (kcells x q d).toArray 95)) w.heap.size (kcells x q d) 95 := Blk.new w _ 95
  obtain ⟨w1, hw1⟩ : ∃ v, v = w.alloc (.cells (kcells x q d).toArray 95) := ⟨_, rfl⟩
  rw [← hw1] at bx hb1 hk1
  obtain ⟨g0, hg0⟩ : ∃ g, g = w.heap.size := ⟨_, rfl⟩
  rw [← hg0] at bx hk1
  obtain ⟨pl, hpl⟩ : ∃ k, k = Rise.place id klt (id x) l := ⟨_, rfl⟩
  have hple : pl ≤ n := by rw [hpl, h.len]; exact Rise.place_le _ _
  have HPL := Lib.hid hpl
  have HB1 := Lib.hid hb1
  have HK := Lib.hid hk1
  have HT := Lib.hid (h.below hb1)
  have HX := Lib.hid hx
  have HUP := Lib.hid hup
  have HN := Lib.hid (show n = l.length from h.len)
  rw [← hpl]
  obtain ⟨fd, hfd⟩ : ∃ f, f = Rise.found id klt (id x) l := ⟨_, rfl⟩
  have HFD := Lib.hid hfd
  rw [← hfd]
  clear hfd hw1 hg0 hpl hb1 hk1 h hup hx
  go_enter Tryz.func173, Tryz.ntmps173
  go_wp2_with fail
  go_loopw [9, 10] (fun i j wr => ∃ a b : Nat, i = .int .i64 a ∧ j = .int .i64 b ∧ a ≤ pl ∧ pl ≤ b ∧ b ≤ n ∧ Hid (Below w1.heap.size w1 wr)) (fun i j _ => (intOf j).toNat - (intOf i).toNat)
  case atStart => exact ⟨0, n, rfl, rfl, by omega, hple, by omega, Lib.hid (Below.refl _ _)⟩
  case round =>
    obtain ⟨a, b, rfl, rfl, ha, hb, hbn, HBR⟩ := hrel
    by_cases hab : a < b
    · obtain ⟨m, hm⟩ : ∃ m, m = (a + b) / 2 := ⟨_, rfl⟩
      have hma : a ≤ m ∧ m < b := by omega
      have hm2 : ((a : Int) + (b : Int)) / 2 = (m : Int) := by omega
      have hml : m < l.length := by rw [← HN.out]; omega
      obtain ⟨b0, off, q2, c2, hp, hr, hgd⟩ := (HT.out.below HBR.out).rows.get m hml
      obtain ⟨y, hy⟩ : ∃ y, y = l[m] := ⟨_, rfl⟩
      have hlo := fun h => Rise.place_lt (key := id) (lt := klt) (id x) l m hml (by rw [← HPL.out]; exact h)
      have hhi := fun h => Rise.place_ge klt_ord (id x) l HUP.out m hml (by rw [← HPL.out]; exact h)
      rw [← hy] at hr hgd hlo hhi
      subst hp
      have hr2 : wr.rangeAt b0 (off + m * 33) (kcells y q2 c2) := hr
      obtain ⟨I, W, hC⟩ := cls_of wr
      have hne : Nonempty I := hC.ne
      have lM := fun n => load_OK hgd.ok (range_below hr2 (hC.back n))
      have lX := fun n => load_OK HX.out ((HK.out.below HBR.out HK.out.lt).below (hC.back n) (HK.out.below HBR.out HK.out.lt).lt).range
      have QS := Lib.hid (hC.call (P := Tryz.prog) (f := 153) (args := #[.agg (kcells y q2 c2).toArray, .agg (kcells x q d).toArray]) (v := .int .i64 (ordK y x)) (fun w' hb => ordc_K y x q2 q c2 d w' hgd.ok HX.out))
      have hjn : (0 : Int) ≤ (m : Int) ∧ (m : Int) < (n : Int) := by omega
      have HC := Lib.hid hC
      have HDN := Lib.hid (ordn_K y x)
      generalize hod : ordK y x = od at *
      clear hod hr hr2 hgd hy hml hm hC
      by_cases hpm : m < pl
      · have t1 : decide (od < 0) = true := by rw [decide_eq_true_iff]; exact HDN.out.2 (hlo hpm)
        clear hlo hhi HDN
        go_wp2_with fail
        refine wp_region_cls W (by kernel_rfl) (by kernel_rfl) HC.out.one ?_
        repeat go_big_quiet_step ((go_at_call 153; exact QS.out _))
        refine wpQuiet_nil ?_
        rintro _ ⟨nq, rfl⟩
        have HB2 := Lib.hid (HBR.out.trans ((HC.out.back nq).mono HBR.out.size))
        clear lM lX QS hm2
        go_wp2_with fail
        go_roundw
        case rel => exact ⟨m + 1, b, by go_num, rfl, by omega, hb, hbn, HB2⟩
        case measure => simp [intOf]; omega
      · have t1 : decide (od < 0) = false := by
          rw [decide_eq_false_iff_not]
          intro h
          have h2 := HDN.out.1 h
          rw [hhi (by omega)] at h2; cases h2
        clear hlo hhi HDN
        go_wp2_with fail
        refine wp_region_cls W (by kernel_rfl) (by kernel_rfl) HC.out.one ?_
        repeat go_big_quiet_step ((go_at_call 153; exact QS.out _))
        refine wpQuiet_nil ?_
        rintro _ ⟨nq, rfl⟩
        have HB2 := Lib.hid (HBR.out.trans ((HC.out.back nq).mono HBR.out.size))
        clear lM lX QS hm2
        go_wp2_with fail
        go_roundw
        case rel => exact ⟨a, m, rfl, rfl, ha, by omega, by omega, HB2⟩
        case measure => simp [intOf]; omega
    · obtain rfl : a = pl := by omega
      obtain rfl : b = a := by omega
      by_cases hbl : b < n
      · have hml : b < l.length := by rw [← HN.out]; omega
        obtain ⟨b0, off, q2, c2, hp, hr, hgd⟩ := (HT.out.below HBR.out).rows.get b hml
        have hfi : fd = true ↔ id l[b] = id x := by
          have h2 := Rise.found_iff (key := id) (lt := klt) (id x) l
          rw [← HFD.out] at h2
          rw [h2]
          have h3 := HPL.out
          constructor
          · rintro ⟨_, h⟩; simpa only [← h3] using h
          · intro h; exact ⟨by rw [← h3]; exact hml, by simpa only [← h3] using h⟩
        obtain ⟨y, hy⟩ : ∃ y, y = l[b] := ⟨_, rfl⟩
        rw [← hy] at hr hgd hfi
        subst hp
        have hr2 : wr.rangeAt b0 (off + b * 33) (kcells y q2 c2) := hr
        obtain ⟨I, W, hC⟩ := cls_of wr
        have hne : Nonempty I := hC.ne
        have lM := fun n => load_OK hgd.ok (range_below hr2 (hC.back n))
        have lX := fun n => load_OK HX.out ((HK.out.below HBR.out HK.out.lt).below (hC.back n) (HK.out.below HBR.out HK.out.lt).lt).range
        have QS := Lib.hid (hC.call (P := Tryz.prog) (f := 153) (args := #[.agg (kcells y q2 c2).toArray, .agg (kcells x q d).toArray]) (v := .int .i64 (ordK y x)) (fun w' hb => ordc_K y x q2 q c2 d w' hgd.ok HX.out))
        have hjn : (0 : Int) ≤ (b : Int) ∧ (b : Int) < (n : Int) := by omega
        have HC := Lib.hid hC
        have hdz := ordz_K y x
        have t1 : (ordK y x == 0) = fd := by
          rw [Bool.eq_iff_iff, beq_iff_eq, hdz]; exact hfi.symm
        have tg : decide ((b : Int) < (n : Int)) = true := by simpa using hbl
        generalize ordK y x = od at *
        clear hdz hr hr2 hgd hy hml hC hfi
        go_wp2_with fail
        refine wp_region_cls W (by kernel_rfl) (by kernel_rfl) HC.out.one ?_
        repeat go_big_quiet_step ((go_at_call 153; exact QS.out _))
        refine wpQuiet_nil ?_
        rintro _ ⟨nq, rfl⟩
        have HB2 := Lib.hid (HB1.out.trans ((HBR.out.trans ((HC.out.back nq).mono HBR.out.size)).mono HB1.out.size))
        clear lM lX QS
        go_wp2_with fail
        go_ret2
        exact ⟨rfl, HB2.out⟩
      · have hf2 : fd = false := by
          rw [Bool.eq_false_iff]
          intro h
          rw [HFD.out, Rise.found_iff] at h
          obtain ⟨h2, _⟩ := h
          rw [← HPL.out, ← HN.out] at h2
          exact hbl h2
        subst hf2
        have tg : decide ((b : Int) < (n : Int)) = false := by simpa using hbl
        obtain ⟨I, W, hC⟩ := cls_of wr
        have hne : Nonempty I := hC.ne
        have HC := Lib.hid hC
        clear hC
        go_wp2_with fail
        refine wp_region_cls W (by kernel_rfl) (by kernel_rfl) HC.out.one ?_
        repeat go_big_quiet_step (fail)
        refine wpQuiet_nil ?_
        rintro _ ⟨nq, rfl⟩
        have HB2 := Lib.hid (HB1.out.trans ((HBR.out.trans ((HC.out.back nq).mono HBR.out.size)).mono HB1.out.size))
        go_wp2_with fail
        go_ret2
        exact ⟨rfl, HB2.out⟩
end
section
set_option linter.unusedSimpArgs false
set_option linter.unusedVariables false
open Go.RowKit Sha Fct
@[irreducible] def convOp (v : Value) : Sem Next := do pure (.value (← convert 26 9 v))
theorem execOp_conv (ρ : Operand → Value) (dst : Option Tmp) (x : Operand) (ty : TypeId) (pos : String) (after : Array Edge) (guard : Option (Nat × Bool)) :
    execOp ρ { dst := dst, op := .convert 26 9 x, type := ty, pos := pos, after := after, guard := guard } = convOp (ρ x) := by unfold convOp; rfl
theorem run_convOp (w : World) (xs : List Int) (n : Nat) (p : Option Addr) (c : Nat) (hn : xs.length = n) (hA : At w p (xs.map v8)) : (convOp (.slice p n c)).run Tryz.prog w = .ok (.value (.string (strOfNums xs))) w := by
  unfold convOp
  simp only [Sem.run_bind, run_conv_at (P := Tryz.prog) w 26 9 5 Tryz.underlying26 Tryz.underlying5 Tryz.underlying9 xs n p c hn hA, Result.andThen_ok, Sem.run_pure]
theorem execOp_eqlStr (ρ : Operand → Value) (dst : Option Tmp) (x y : Operand) (r : TypeId) (ty : TypeId) (pos : String) (after : Array Edge) (guard : Option (Nat × Bool)) :
    execOp ρ { dst := dst, op := .binOp .eql 9 x y r, type := ty, pos := pos, after := after, guard := guard } = eqlOp 9 x y (ρ x) (ρ y) := by unfold eqlOp; rfl
theorem run_eqlStr (x y : Operand) (xs ys : List Int) (hx : ∀ n ∈ xs, 0 ≤ n ∧ n ≤ 255) (hy : ∀ n ∈ ys, 0 ≤ n ∧ n ≤ 255) (w : World) : (eqlOp 9 x y (.string (strOfNums xs)) (.string (strOfNums ys))).run Tryz.prog w = .ok (.value (.bool (decide (xs = ys)))) w := by
  have h := strOfNums_inj xs ys hx hy
  unfold eqlOp
  simp only [binOp]
  simp [eqGuard, Op.stringOp, run_underlying Tryz.underlying9]
  simpa using h
attribute [local go_sem ↓] execOp_loadBal execOp_loadId execOp_loadFact execOp_conv execOp_eqlStr execOp_eqlId execOp_boxFact
/-- Two facts in boxes of the call's own. -/
structure F2 (w0 : World) (x y : Fac) (q r : Option Addr) (c d : Nat) (w : World) : Prop where
  a : Blk w w0.heap.size (fcells x q c) 28
  b : Blk w (w0.heap.size + 1) (fcells y r d) 28
  x : sF.Good w x q c
  y : sF.Good w y r d
  below : Below w0.heap.size w0 w
theorem f2_of {w : World} {x y : Fac} {q r : Option Addr} {c d : Nat} (hx : sF.Good w x q c) (hy : sF.Good w y r d) : F2 w x y q r c d ((w.alloc (.cells (fcells x q c).toArray 28)).alloc (.cells (fcells y r d).toArray 28)) := by
  have hz1 : (w.alloc (Obj.cells (fcells x q c).toArray 28)).heap.size = w.heap.size + 1 := World.size_alloc ..
  have hk0 := (Blk.new w (fcells x q c).toArray 28).old (Obj.cells (fcells y r d).toArray 28)
  have hk1 := Blk.new (w.alloc (Obj.cells (fcells x q c).toArray 28)) (fcells y r d).toArray 28
  rw [hz1] at hk1
  have hb := ((Below.refl w.heap.size w).alloc (Nat.le_refl _) (Obj.cells (fcells x q c).toArray 28)).alloc (by rw [hz1]; omega) (Obj.cells (fcells y r d).toArray 28)
  exact ⟨hk0, hk1, hx.below hb, hy.below hb, hb⟩
end
section
set_option linter.unusedSimpArgs false
set_option linter.unusedVariables false
open Go.RowKit Sha Fct
open Fld (Itm)
theorem at_cells (w : World) (cs : List Value) (t : TypeId) (fr : Nat × Nat) : At (w.alloc (.cells cs.toArray t fr)) (some ⟨w.heap.size, 0, none⟩) cs := by
  refine Or.inr ⟨_, 0, rfl, fun i v hi => ?_⟩
  rw [Nat.zero_add, cell_of_row _ _ i _ t fr (heap_alloc_new w _)]
  simpa using hi
/-- The items of a fact, and where their bytes lie. -/
def iNh (n : Int) : Hdr := (iN n, none, 0)
def iDh (D : List Int) : Hdr := (iD D, none, 0)
def itemsH (x : Fac) (q : Option Addr) (c : Nat) : List Hdr :=
  if x.K = 2 then [iNh x.S] else if x.K = 3 then [(iB x.B, q, c)] else if x.K = 4 then [iNh x.S, iDh x.D] else if x.K = 5 then [iNh x.H, iNh x.S, iDh x.D] else if x.K = 6 then [iNh x.H, iNh x.S, iDh x.D] else
  if x.K = 7 then [iNh x.S, iNh x.N, iNh x.O] else if x.K = 8 then [iNh x.S, iNh x.N, iNh x.O, (iB x.B, q, c)] else if x.K = 9 then [iNh x.S, (iB x.B, q, c)] else if x.K = 10 then [iNh x.S] else []
theorem itemsH_map (x : Fac) (q : Option Addr) (c : Nat) : (itemsH x q c).map (·.1) = items x := by
  unfold itemsH items
  (repeat' split) <;> rfl
theorem execOp_makeItem (ρ : Operand → Value) (dst : Option Tmp) (parts : Array (Nat × Operand)) (ty : TypeId) (pos : String) (after : Array Edge) (guard : Option (Nat × Bool)) :
    execOp ρ { dst := dst, op := .build 83 parts, type := ty, pos := pos, after := after, guard := guard } = makeOp 83 (parts.map fun (i, x) => (i, ρ x)) := by unfold makeOp; rfl
theorem item_bN (n : Int) : Tryz.prog.built 83 [(0, .int .i64 n)] = some (icells (iN n) none 0).toArray := by unfold icells; kernel_rfl
theorem item_bB (b : List Int) (q : Option Addr) (n c : Nat) (hn : n = b.length) : Tryz.prog.built 83 [(1, .slice q n c)] = some (icells (iB b) q c).toArray := by subst hn; unfold icells; kernel_rfl
theorem item_bD (D : List Int) (h : D.length = 32) : Tryz.prog.built 83 [(2, .agg (D.map v8).toArray)] = some (icells (iD D) none 0).toArray := by
  obtain ⟨a0, a1, a2, a3, a4, a5, a6, a7, a8, a9, a10, a11, a12, a13, a14, a15, a16, a17, a18, a19, a20, a21, a22, a23, a24, a25, a26, a27, a28, a29, a30, a31, rfl⟩ := len32 D h
  unfold icells
  kernel_rfl
theorem make_iN (n : Int) (w : World) : (makeOp 83 #[(0, .int .i64 n)]).run Tryz.prog w = .ok (.value (.agg (icells (iN n) none 0).toArray)) w := run_makeOp w (item_bN n)
theorem make_iB (b : List Int) (q : Option Addr) (n c : Nat) (hn : n = b.length) (w : World) : (makeOp 83 #[(1, .slice q n c)]).run Tryz.prog w = .ok (.value (.agg (icells (iB b) q c).toArray)) w := run_makeOp w (item_bB b q n c hn)
theorem make_iD (D : List Int) (h : D.length = 32) (w : World) : (makeOp 83 #[(2, .agg (D.map v8).toArray)]).run Tryz.prog w = .ok (.value (.agg (icells (iD D) none 0).toArray)) w := run_makeOp w (item_bD D h)
theorem z32_ok : (∀ n ∈ Fld.zero32, 0 ≤ n ∧ n ≤ 255) ∧ Fld.zero32.length = 32 := ⟨by intro n hn; unfold Fld.zero32 at hn; have := (List.mem_replicate.1 hn).2; omega, Fld.zero32_length⟩
theorem iN_good (w : World) {n : Int} (h : fit n) : GoodI w (iN n) none 0 := ⟨⟨h.1, h.2, by simp [iN], z32_ok.1, z32_ok.2⟩, At.nil _ _, by simp [iN], by omega, fun _ => rfl⟩
theorem iD_good (w : World) {D : List Int} (h : ∀ n ∈ D, 0 ≤ n ∧ n ≤ 255) (hl : D.length = 32) : GoodI w (iD D) none 0 := ⟨⟨by simp [iD], by simp [iD], by simp [iD], h, hl⟩, At.nil _ _, by simp [iD], by omega, fun _ => rfl⟩
theorem iB_good {w : World} {x : Fac} {q : Option Addr} {c : Nat} (h : sF.Good w x q c) : GoodI w (iB x.B) q c := ⟨⟨by simp [iB], by simp [iB], h.ok.B, z32_ok.1, z32_ok.2⟩, h.at_, h.le, h.max, h.nil⟩
theorem itemsH_good {w : World} {x : Fac} {q : Option Addr} {c : Nat} (h : sF.Good w x q c) : ∀ z ∈ itemsH x q c, GoodI w z.1 z.2.1 z.2.2 := by
  have gS := iN_good w h.ok.S
  have gH := iN_good w h.ok.H
  have gN := iN_good w h.ok.N
  have gO := iN_good w h.ok.O
  have gD := iD_good w h.ok.D h.ok.len
  have gB := iB_good h
  intro z hz
  unfold itemsH iNh iDh at hz
  (repeat' split at hz) <;> simp only [List.mem_cons, List.not_mem_nil, or_false] at hz <;> (first | (rcases hz with rfl | rfl | rfl | rfl) | (rcases hz with rfl | rfl | rfl) | (rcases hz with rfl | rfl) | (obtain rfl := hz)) <;> assumption
attribute [local go_sem ↓] execOp_allocFact execOp_storeFact execOp_boxFact execOp_makeFact execOp_loadFact execOp_loadId execOp_loadItem execOp_buildItems execOp_makeItem
end
section
set_option linter.unusedSimpArgs false
set_option linter.unusedVariables false
open Go.RowKit
/-- Behind a call on an object whose blocks are fp: all else lies as it lay. -/
structure Touch (fp : List Nat) (w w' : World) : Prop where
  os : w'.os = w.os
  tape : w'.tape = w.tape
  output : w'.output = w.output
  size : w.heap.size ≤ w'.heap.size
  block : ∀ k, k < w.heap.size → k ∉ fp → w'.heap[k]? = w.heap[k]?
theorem Touch.of_below {fp : List Nat} {w w' : World} (h : Below w.heap.size w w') : Touch fp w w' := ⟨h.os, h.tape, h.output, h.size, fun k hk _ => h.block k hk⟩
/-- An object's blocks behind a call: they were its own, or are new. -/
def From (fp fp' : List Nat) (w : World) : Prop := ∀ k ∈ fp', k ∈ fp ∨ w.heap.size ≤ k
theorem From.refl (fp : List Nat) (w : World) : From fp fp w := fun _ h => .inl h
theorem Touch.trans {fp fp1 : List Nat} {a b c : World} (h : Touch fp a b) (k : Touch fp1 b c) (hf : From fp fp1 a) : Touch fp a c :=
  ⟨k.os.trans h.os, k.tape.trans h.tape, k.output.trans h.output, Nat.le_trans h.size k.size, fun i hi hn => (k.block i (Nat.lt_of_lt_of_le hi h.size) fun e => by rcases hf i e with h' | h'; exact hn h'; omega).trans (h.block i hi hn)⟩
theorem Touch.below {fp : List Nat} {w w' : World} {B : Nat} (h : Touch fp w w') (hf : ∀ k ∈ fp, B ≤ k) (hB : B ≤ w.heap.size) : Below B w w' :=
  ⟨h.os, h.tape, h.output, h.size, fun k hk => h.block k (by omega) fun e => by have := hf k e; omega⟩
theorem Touch.setCell {fp : List Nat} {w : World} {g i : Nat} {v : Value} (hg : g ∈ fp) : Touch fp w (w.setCell ⟨g, i, none⟩ v) := by
  have h := (Below.refl g w).setCell (p := ⟨g, i, none⟩) (Nat.le_refl _) v
  exact ⟨h.os, h.tape, h.output, h.size, fun k hk hn => Below.heap_setCell w ⟨g, i, none⟩ v k (fun e => hn (by rw [e]; exact hg))⟩
end
section
set_option linter.unusedSimpArgs false
set_option linter.unusedVariables false
open Go.RowKit Sha Fct
open Fld (Itm)
section
variable {P : Program}
theorem run_storeAt_one (w : World) (b o : Nat) (ty : TypeId) (v : Value) (ht : w.there b o 1) (hi : (P.info? ty).map (·.size) = some 1) (hv : v.cells = #[v]) (h1 : v.oneCell' = true) :
    (Instr.storeAt ty (.pointer (some ⟨b, o, none⟩)) v).run P w = .ok () (w.setCell ⟨b, o, none⟩ v) := by
  have := run_storeCells_cells (P := P) b o [v] 0 w (fun j hj => by simpa using (ht j (by simpa using hj)).1) (fun j hj => by simpa using (ht j (by simpa using hj)).2) (by simpa using h1)
  cases hq : P.info? ty with
  | none => simp [hq] at hi
  | some i =>
    have hs : i.size = 1 := by simpa [hq] using hi
    simp only [Nat.add_zero] at this
    simp [Instr.storeAt, Instr.sureAddr, storeVar, sizeOf, typeInfo, hq, hv, hs, this, World.setCells]
end
/-- Storing v, of the type ty, at the i-th cell turns one fact's cells into another's. -/
def StF (ty : TypeId) (i : Nat) (v : Value) (z : Fac) (q : Option Addr) (c : Nat) (z' : Fac) (q' : Option Addr) (c' : Nat) : Prop :=
  ∀ (w : World) (g : Nat), Blk w g (fcells z q c) 28 → ∃ w', (Instr.storeAt ty (.pointer (some ⟨g, i, none⟩)) v).run Tryz.prog w = .ok () w' ∧ Blk w' g (fcells z' q' c') 28 ∧ Touch [g] w w'
theorem int_size1 : (Tryz.prog.info? 3).map (·.size) = some 1 := by kernel_rfl
theorem bytes_size1 : (Tryz.prog.info? 26).map (·.size) = some 1 := by kernel_rfl
theorem stF_one {ty : TypeId} {i : Nat} {v : Value} {z z' : Fac} {q q' : Option Addr} {c c' : Nat} (hi : (Tryz.prog.info? ty).map (·.size) = some 1) (hv : v.cells = #[v]) (h1 : v.oneCell' = true) (hz : z.D.length = 32) (hlt : i < 38) (he : (fcells z q c).set i v = fcells z' q' c') : StF ty i v z q c z' q' c' := by
  intro w g hb
  refine ⟨_, run_storeAt_one w g i ty v (hb.there i 1 (by rw [fcells_length hz]; omega)) hi hv h1, ?_, Touch.setCell (by simp)⟩
  rw [← he]
  exact hb.set i v
theorem stF_S (z : Fac) (q : Option Addr) (c : Nat) (n : Int) (hz : z.D.length = 32) : StF 3 1 (.int .i64 n) z q c { z with S := n } q c := stF_one int_size1 rfl rfl hz (by omega) rfl
theorem stF_H (z : Fac) (q : Option Addr) (c : Nat) (n : Int) (hz : z.D.length = 32) : StF 3 2 (.int .i64 n) z q c { z with H := n } q c := stF_one int_size1 rfl rfl hz (by omega) rfl
theorem stF_B (z : Fac) (q : Option Addr) (c : Nat) (b : List Int) (m : Nat) (hm : m = b.length) (q' : Option Addr) (c' : Nat) (hz : z.D.length = 32) : StF 26 37 (.slice q' m c') z q c { z with B := b } q' c' := by
  subst hm
  refine stF_one bytes_size1 rfl rfl hz (by omega) ?_
  unfold fcells
  simp only [List.set_cons_succ]
  rw [List.set_append_right _ _ (by simp [hz])]
  simp [hz]
theorem stF_D (z : Fac) (q : Option Addr) (c : Nat) (D : List Int) (hz : z.D.length = 32) (hD : D.length = 32) : StF 25 5 (.agg (D.map v8).toArray) z q c { z with D := D } q c := by
  intro w g hb
  refine ⟨_, run_storeAt_mid w g 5 25 (D.map v8).toArray (hb.there 5 _ (by rw [fcells_length hz]; simp [hD])) (by rw [id_size]; simp [hD]) (v8_one D), ?_, ?_⟩
  · have e : ∀ (z : Fac), fcells z q c = [i64c z.K, i64c z.S, i64c z.H, i64c z.N, i64c z.O] ++ z.D.map v8 ++ [.slice q z.B.length c] := fun z => by unfold fcells; simp
    rw [e] at hb ⊢
    exact Blk.setCells (D.map v8) 5 w _ (z.D.map v8) _ hb rfl (by simp [hz, hD])
  · have h := setCells_below (a := w) (B := g) (Nat.le_refl _) (D.map v8).toArray.toList 5 w (Below.refl _ _)
    exact ⟨h.os, h.tape, h.output, h.size, fun k hk hn => setCells_heap g _ 5 w k (by simpa using hn)⟩
section
variable {ops : Array Oper} {rest : List Oper} {o : Oper} {a : Act} {w : World} {Q : Exit → Act → World → Prop}
end
end
section
set_option linter.unusedSimpArgs false
set_option linter.unusedVariables false
namespace Sha
def filled (zs : List Int) : List Int := zs ++ [128] ++ List.replicate (noughts (zs.length % 64)) 0 ++ lenUpto zs.length 8
end Sha
end
section
set_option linter.unusedSimpArgs false
set_option linter.unusedVariables false
open Go.RowKit Sha Fct
open Fld (Itm)
theorem kind_built (k : Int) : Tryz.prog.built 28 [(0, .int .i64 k)] = some (fcells ⟨k, 0, 0, 0, 0, Fld.zero32, []⟩ none 0).toArray := by unfold fcells; kernel_rfl
theorem execOp_storeInt (ρ : Operand → Value) (dst : Option Tmp) (x y : Operand) (ty : TypeId) (pos : String) (after : Array Edge) (guard : Option (Nat × Bool)) :
    execOp ρ { dst := dst, op := .store 3 x y, type := ty, pos := pos, after := after, guard := guard } = storeOp 3 (ρ x) (ρ y) := by unfold storeOp; rfl
theorem execOp_storeBytes (ρ : Operand → Value) (dst : Option Tmp) (x y : Operand) (ty : TypeId) (pos : String) (after : Array Edge) (guard : Option (Nat × Bool)) :
    execOp ρ { dst := dst, op := .store 26 x y, type := ty, pos := pos, after := after, guard := guard } = storeOp 26 (ρ x) (ρ y) := by unfold storeOp; rfl
theorem execOp_storeId (ρ : Operand → Value) (dst : Option Tmp) (x y : Operand) (ty : TypeId) (pos : String) (after : Array Edge) (guard : Option (Nat × Bool)) :
    execOp ρ { dst := dst, op := .store 25 x y, type := ty, pos := pos, after := after, guard := guard } = storeOp 25 (ρ x) (ρ y) := by unfold storeOp; rfl
theorem execOp_storeBal (ρ : Operand → Value) (dst : Option Tmp) (x y : Operand) (ty : TypeId) (pos : String) (after : Array Edge) (guard : Option (Nat × Bool)) :
    execOp ρ { dst := dst, op := .store 23 x y, type := ty, pos := pos, after := after, guard := guard } = storeOp 23 (ρ x) (ρ y) := by unfold storeOp; rfl
/-- A field's store, behind it the fact's block. -/
theorem StF.run {ty : TypeId} {i : Nat} {v : Value} {z z' : Fac} {q q' : Option Addr} {c c' : Nat} (h : StF ty i v z q c z' q' c') {w : World} {g : Nat} (hb : Blk w g (fcells z q c) 28) :
    ∃ w', (storeOp ty (.pointer (some ⟨g, i, none⟩)) v).run Tryz.prog w = .ok .skip w' ∧ Blk w' g (fcells z' q' c') 28 ∧ Touch [g] w w' := by
  obtain ⟨w', hr, hk, ht⟩ := h w g hb
  refine ⟨w', ?_, hk, ht⟩
  unfold storeOp
  simp only [Sem.run_bind, hr, Result.andThen_ok, Sem.run_pure]
/-- An item's cells where its slice lies: each world behind keeps them. -/
structure ItmAt (w : World) (b o : Nat) (x : Itm) (q : Option Addr) (c : Nat) : Prop where
  r : w.rangeAt b o (icells x q c)
  g : GoodI w x q c
  lt : b < w.heap.size
theorem ItmAt.on {w w' : World} {b o : Nat} {x : Itm} {q : Option Addr} {c : Nat} (h : ItmAt w b o x q c) (hb : Below w.heap.size w w') : ItmAt w' b o x q c := ⟨range_below h.r hb, h.g.below hb, Nat.lt_of_lt_of_le h.lt hb.size⟩
theorem ItmAt.n {w : World} {b o : Nat} {x : Itm} {q : Option Addr} {c : Nat} (h : ItmAt w b o x q c) : w.cell? ⟨b, o, none⟩ = some (.int .i64 x.N) := h.r 0 _ (icells_0 x q c)
theorem items_at {w : World} {p : Option Addr} {n c : Nat} {l : List Itm} (h : Told w p n c l) (h0 : 0 < l.length) : ∃ b off, p = some ⟨b, off, none⟩ ∧ ∀ i (hi : i < l.length), ∃ q d, ItmAt w b (off + i * 34) l[i] q d := by
  obtain ⟨b, off, q, d, rfl, hr, hg⟩ := h.items.get 0 h0
  have hlt : b < w.heap.size := World.block_lt_of_cell? w _ (hr 0 _ (icells_0 _ q d))
  refine ⟨b, off, rfl, fun i hi => ?_⟩
  obtain ⟨b2, off2, q2, d2, e, hr2, hg2⟩ := h.items.get i hi
  cases e
  exact ⟨q2, d2, hr2, hg2, hlt⟩
theorem outOf_low {w : World} {q : Option Addr} {B : List Int} {r : Nat} (h : At w q (B.map v8)) (hr : w.heap.size ≤ r) : OutOf r B q := fun hne a ha => by
  have hl : 0 < (B.map v8).length := by rw [List.length_map]; exact List.length_pos_iff.2 hne
  obtain ⟨b, off, rfl, hc⟩ := h.addr hl
  cases ha
  have h1 : b < w.heap.size := World.block_lt_of_cell? w _ (hc 0 _ (List.getElem?_eq_getElem hl))
  intro e
  have e' : b = r := e
  omega
attribute [local go_sem ↓] execOp_allocFact execOp_storeFact execOp_boxFact execOp_makeFact execOp_loadFact execOp_loadId execOp_loadItem execOp_buildItems execOp_makeItem execOp_loadBal execOp_storeInt execOp_storeBytes execOp_storeId execOp_storeBal
end
end Go.Proofs.YtokpabkcaofahaaGreat
