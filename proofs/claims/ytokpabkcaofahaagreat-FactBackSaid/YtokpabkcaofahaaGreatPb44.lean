/-
  The program's Get (written by mkgetp9.py).
-/
import Derived.Test.YtokpabkcaofahaaGreatPb43
namespace Go.Proofs.YtokpabkcaofahaaGreat
section
set_option linter.unusedSimpArgs false
set_option linter.unusedVariables false
open Go.RowKit Sha Fct
open Fld (Itm)
theorem fz_good (w : World) : sF.Good w fz none 0 := ⟨fact_ok0 (fit_small (by omega)) (fit_small (by omega)) (fit_small (by omega)) (fit_small (by omega)) (fit_small (by omega)) zlen z32_ok.1 (by simp), At.nil _ _, by simp [sF], by omega, fun _ => rfl⟩
/-- What is got: a fact at q, c; an error, and where. -/
theorem fget_of {w w' : World} {b : List Int} {z : Fac} {q : Option Addr} {c : Nat} {e a : Int} {a0 : Nat} (hg : Fct.get b = (z, e, a0)) (ha : a = (a0 : Int)) (hz : sF.Good w' z q c) (hb : Below w.heap.size w w') :
    FGet w (Fct.get b) (.returned (.tuple #[.agg (fcells z q c).toArray, .agg (flt e a).toArray])) w' := by
  subst ha
  rw [hg]
  exact ⟨q, c, rfl, hz, hb⟩
structure GIn (b : List Int) (p : Option Addr) (n c : Nat) (w : World) : Prop where
  len : b.length = n
  byte : ∀ x ∈ b, 0 ≤ x ∧ x ≤ 255
  at_ : At w p (b.map v8)
  le : n ≤ c
  max : c ≤ 9223372036854775807
  nil : p = none → c = 0
  few : n ≤ 1000000
theorem GIn.below {b : List Int} {p : Option Addr} {n c : Nat} {w w' : World} (h : GIn b p n c w) (hb : Below w.heap.size w w') : GIn b p n c w' := ⟨h.len, h.byte, h.at_.below hb, h.le, h.max, h.nil, h.few⟩
/-- The answer's two blocks, and the fault's own. -/
structure G3 (w0 : World) (r1 r2 g : Nat) (e a : Int) (w : World) : Prop where
  b1 : Blk w r1 (fcells fz none 0) 28
  b2 : Blk w r2 (flt 0 0) 64
  bg : Blk w g (flt e a) 64
  lo : w0.heap.size ≤ r1 ∧ r1 < r2 ∧ r2 < g
  below : Below w0.heap.size w0 w
theorem G3.on {w0 w w' : World} {r1 r2 g : Nat} {e a : Int} (h : G3 w0 r1 r2 g e a w) (hb : Below w.heap.size w w') : G3 w0 r1 r2 g e a w' :=
  ⟨h.b1.below hb h.b1.lt, h.b2.below hb h.b2.lt, h.bg.below hb h.bg.lt, h.lo, h.below.trans (hb.mono h.below.size)⟩
theorem G3.set {w0 w : World} {r1 r2 g : Nat} {e a : Int} (h : G3 w0 r1 r2 g e a w) (e' a' : Int) : G3 w0 r1 r2 g e' a' (w.setRow g (flt e' a').toArray) :=
  ⟨h.b1.rowOther _ (show r1 ≠ g by have := h.lo; omega), h.b2.rowOther _ (show r2 ≠ g by have := h.lo; omega), h.bg.row _, h.lo, Below.setRow h.below (show w0.heap.size ≤ g by have := h.lo; omega) _⟩
/-- The two stores at a way out. -/
structure GOut (w0 : World) (r1 r2 : Nat) (z : Fac) (q : Option Addr) (c : Nat) (e a : Int) (w w1 w2 : World) : Prop where
  s1 : (storeOp 28 (.pointer (some ⟨r1, 0, none⟩)) (.agg (fcells z q c).toArray)).run Tryz.prog w = .ok .skip w1
  s2 : (storeOp 64 (.pointer (some ⟨r2, 0, none⟩)) (.agg (flt e a).toArray)).run Tryz.prog w1 = .ok .skip w2
  b1 : Blk w2 r1 (fcells z q c) 28
  b2 : Blk w2 r2 (flt e a) 64
  below : Below w0.heap.size w0 w2
theorem G3.out {w0 w : World} {r1 r2 g : Nat} {e a : Int} (h : G3 w0 r1 r2 g e a w) {z : Fac} (hz : z.D.length = 32) (q : Option Addr) (c : Nat) (e' a' : Int) :
    GOut w0 r1 r2 z q c e' a' w (w.setRow r1 (fcells z q c).toArray) ((w.setRow r1 (fcells z q c).toArray).setRow r2 (flt e' a').toArray) := by
  have hlo := h.lo
  have k2 : Blk (w.setRow r1 (fcells z q c).toArray) r2 (flt 0 0) 64 := h.b2.rowOther _ (show r2 ≠ r1 by omega)
  have k1 : Blk (w.setRow r1 (fcells z q c).toArray) r1 (fcells z q c) 28 := h.b1.row _
  exact ⟨store_fact h.b1 zlen hz, store_flt k2, k1.rowOther _ (show r1 ≠ r2 by omega), k2.row _, Below.setRow (Below.setRow h.below hlo.1 _) (show w0.heap.size ≤ r2 by omega) _⟩
theorem G3.loads {w0 w : World} {r1 r2 g : Nat} {e a : Int} (h : G3 w0 r1 r2 g e a w) (z : Fac) (q : Option Addr) (c : Nat) (e' a' : Int) :
    (loadOp 64 (.pointer (some ⟨g, 0, none⟩))).run Tryz.prog w = .ok (.value (.agg (flt e a).toArray)) w ∧
    (loadOp 64 (.pointer (some ⟨g, 0, none⟩))).run Tryz.prog (w.setRow r1 (fcells z q c).toArray) = .ok (.value (.agg (flt e a).toArray)) (w.setRow r1 (fcells z q c).toArray) ∧
    (loadOp 64 (.pointer (some ⟨g, 0, none⟩))).run Tryz.prog ((w.setRow r1 (fcells z q c).toArray).setRow r2 (flt e' a').toArray) = .ok (.value (.agg (flt e a).toArray)) ((w.setRow r1 (fcells z q c).toArray).setRow r2 (flt e' a').toArray) := by
  have hlo := h.lo
  have k1 : Blk (w.setRow r1 (fcells z q c).toArray) g (flt e a) 64 := h.bg.rowOther _ (show g ≠ r1 by omega)
  exact ⟨load_flt h.bg, load_flt k1, load_flt (k1.rowOther _ (show g ≠ r2 by omega))⟩
/-- The fact's bytes lie in none of the answer's blocks. -/
theorem good_two {w0 w : World} {r1 r2 g : Nat} {e a : Int} (h : G3 w0 r1 r2 g e a w) {x : Fac} {q : Option Addr} {c : Nat} (hx : sF.Good w x q c) (hu : U8 w q x.B) (z : Fac) (zq : Option Addr) (zc : Nat) (e' a' : Int) : sF.Good ((w.setRow r1 (fcells z zq zc).toArray).setRow r2 (flt e' a').toArray) x q c := by
  refine ⟨hx.ok, ?_, hx.le, hx.max, hx.nil⟩
  by_cases hB : x.B = []
  · have h2 : (sF.byt x).map v8 = [] := by show x.B.map v8 = []; rw [hB]; rfl
    rw [h2]; exact At.nil _ _
  · rcases hx.at_ with h0 | ⟨b, off, rfl, hc⟩
    · exact Or.inl h0
    · refine Or.inr ⟨b, off, rfl, fun i v hi => ?_⟩
      have n1 : b ≠ r1 := hu.out h.b1 u8f_ne hB _ rfl
      have n2 : b ≠ r2 := hu.out h.b2 u8t_ne hB _ rfl
      exact (World.cell?_of_block (w := w.setRow r1 (fcells z zq zc).toArray) (a := ⟨b, off + i, none⟩) (setRow_other _ r2 b _ n2)).trans ((World.cell?_of_block (w := w) (a := ⟨b, off + i, none⟩) (setRow_other _ r1 b _ n1)).trans (hc i v hi))
attribute [local go_sem ↓] execOp_allocFlt execOp_storeFlt execOp_loadFlt execOp_makeFlt execOp_allocFact execOp_storeFact execOp_makeFact execOp_allocForm execOp_storeForm execOp_loadForm execOp_cat execOp_cutI
set_option maxRecDepth 100000 in
set_option maxHeartbeats 4000000 in
theorem get_w1 (b : List Int) (p : Option Addr) (n c : Nat) (w : World) (hi : GIn b p n c w) (h : (Fld.rd 0 0 b).1 ≠ 0) :
    Calls Tryz.prog 37 #[.slice p n c] w (FGet w (Fct.get b)) := by
  obtain ⟨e0, he0⟩ : ∃ e, e = (Fld.rd 0 0 b).1 := ⟨_, rfl⟩
  obtain ⟨an, han⟩ : ∃ a, a = (if (Fld.rd 0 0 b).1 = 4 then b.length else 0) := ⟨_, rfl⟩
  obtain ⟨a0, ha0⟩ : ∃ a, a = (an : Int) := ⟨_, rfl⟩
  have HQ := Lib.hid (show Fct.get b = (fz, e0, an) from by rw [he0, han]; unfold Fct.get; rw [if_pos h]; rfl)
  have HAI := Lib.hid ha0
  have HKB := Lib.hid (show kread b = ([], e0, an) from by rw [he0, han]; unfold kread; rw [if_neg h])
  have HN0 := Lib.hid h
  have t1 : (e0 != 0) = true := by rw [he0]; simpa using h
  clear h he0 han ha0
  have al1 := alloc_fact w
  have hb1 := (Below.refl w.heap.size w).alloc (Nat.le_refl _) (.cells (fcells fz none 0).toArray 28)
  have hk1 : Blk (w.alloc (.cells (fcells fz none 0).toArray 28)) w.heap.size (fcells fz none 0) 28 := Blk.new w (fcells fz none 0).toArray 28
  obtain ⟨w1, hw1⟩ : ∃ v, v = w.alloc (.cells (fcells fz none 0).toArray 28) := ⟨_, rfl⟩
  rw [← hw1] at al1 hb1 hk1
  have al2 := alloc_flt w1
  have hb2 := hb1.alloc hb1.size (.cells (flt 0 0).toArray 64)
  have hk2 : Blk (w1.alloc (.cells (flt 0 0).toArray 64)) w1.heap.size (flt 0 0) 64 := Blk.new w1 (flt 0 0).toArray 64
  have hk12 := hk1.old (.cells (flt 0 0).toArray 64)
  obtain ⟨w2, hw2⟩ : ∃ v, v = w1.alloc (.cells (flt 0 0).toArray 64) := ⟨_, rfl⟩
  rw [← hw2] at al2 hb2 hk2 hk12
  obtain ⟨r1, hr1⟩ : ∃ r, r = w.heap.size := ⟨_, rfl⟩
  obtain ⟨r2, hr2⟩ : ∃ r, r = w1.heap.size := ⟨_, rfl⟩
  rw [← hr1] at al1 hk12
  rw [← hr2] at al2 hk2
  have HLO := Lib.hid (show w.heap.size ≤ r1 ∧ r1 < r2 from ⟨by omega, by have := hk1.lt; omega⟩)
  have HB2 := Lib.hid hb2
  have HR1 := Lib.hid hk12
  have HR2 := Lib.hid hk2
  have HI := Lib.hid hi
  have HI2 := Lib.hid (hi.below hb2)
  have HKD := Lib.hid (show kind_ b = .returned (.tuple #[.int .i64 0, .agg (flt e0 a0).toArray]) from by unfold kind_; rw [HKB.out, if_neg HN0.out, HAI.out])
  have KO := Lib.hid (kindOf_any b p n c w2 HI2.out.len HI2.out.byte HI2.out.at_ HI2.out.le HI2.out.max HI2.out.nil HI2.out.few)
  rw [HKD.out] at KO
  clear hw1 hw2 hr1 hr2 hb1 hb2 hk1 hk2 hk12 hi
  go_enter Tryz.func37, Tryz.ntmps37
  go_wp2_with fail
  refine KO.out.mono ?_
  rintro e w3 ⟨rfl, hb3⟩
  have HB3 := Lib.hid (HB2.out.trans (hb3.mono HB2.out.size))
  have HI3 := Lib.hid (HI2.out.below hb3)
  have al3 := alloc_flt w3
  have st3 := (run_storeNew w3 (P := Tryz.prog) (t := 64) (old := (flt 0 0).toArray) (cs := (flt e0 a0).toArray) (flt_size e0 a0) rfl (by simp [Value.oneCell']))
  have hb34 := (Below.refl w3.heap.size w3).alloc (Nat.le_refl _) (.cells (flt e0 a0).toArray 64)
  have hk4 : Blk (w3.alloc (.cells (flt e0 a0).toArray 64)) w3.heap.size (flt e0 a0) 64 := Blk.new w3 (flt e0 a0).toArray 64
  have hr13 := HR1.out.below hb3 HR1.out.lt
  have hr23 := HR2.out.below hb3 HR2.out.lt
  have hg3 : G3 w r1 r2 w3.heap.size e0 a0 (w3.alloc (.cells (flt e0 a0).toArray 64)) := ⟨hr13.old _, hr23.old _, hk4, ⟨HLO.out.1, HLO.out.2, hr23.lt⟩, HB3.out.trans (hb34.mono HB3.out.size)⟩
  have hi4 := HI3.out.below hb34
  obtain ⟨g, hg'⟩ : ∃ g, g = w3.heap.size := ⟨_, rfl⟩
  rw [← hg'] at al3 st3 hg3
  clear hb3 hb34 hk4 hr13 hr23 hg' KO al1 al2 HR1 HR2 HB2 HI2
  generalize w3.alloc (.cells (flt 0 0).toArray 64) = wq at *
  generalize w3.alloc (.cells (flt e0 a0).toArray 64) = w4 at *
  have G4 := Lib.hid hg3
  have HI4 := Lib.hid hi4
  have k0 : w4.cell? ⟨g, 0, none⟩ = some (.int .i64 e0) := hg3.bg.cell 0
  clear hg3 hi4
  go_wp2_with fail
  have g4 := G4.out.on (Below.refl _ _).drew
  have HO := Lib.hid (g4.out (z := fz) zlen none 0 e0 a0)
  have os1 := HO.out.s1
  have os2 := HO.out.s2
  obtain ⟨ol1, ol2, ol3⟩ := g4.loads fz none 0 e0 a0
  have mz := made_fz
  have HZL := Lib.hid zlen
  clear g4
  go_region_held3 (fun w' => (loadOp 64 (.pointer (some ⟨g, 0, none⟩))).run Tryz.prog w' = .ok (.value (.agg (flt e0 a0).toArray)) w') (first | exact ol1 | exact ol2 | exact ol3) ((first | fail))
  all_goals go_wp2_with fail
  all_goals refine bodyPost_ret (v := .tuple #[.agg (fcells fz none 0).toArray, .agg (flt e0 a0).toArray]) (results_row_row rfl _ _ _ _ _ _ _ rfl HO.out.b1 (Tryz.underlying28) rfl (fact_sizeA HZL.out _ _) _ _ _ _ _ rfl HO.out.b2 (Tryz.underlying64) rfl (flt_size e0 a0)) rfl ?_
  all_goals exact fget_of HQ.out HAI.out (fz_good _) HO.out.below
set_option maxRecDepth 100000 in
set_option maxHeartbeats 4000000 in
theorem get_w2 (b : List Int) (p : Option Addr) (n c : Nat) (w : World) (hi : GIn b p n c w) (h : (Fld.rd 0 0 b).1 = 0) (hkk : ¬ (1 ≤ (Fld.rd 0 0 b).2.1 ∧ (Fld.rd 0 0 b).2.1 < 11)) :
    Calls Tryz.prog 37 #[.slice p n c] w (FGet w (Fct.get b)) := by
  have HQ := Lib.hid (show Fct.get b = (fz, 2, 0) from by unfold Fct.get; rw [if_neg (by rw [h]; simp), if_pos hkk]; rfl)
  obtain ⟨k, hk⟩ : ∃ k, k = (Fld.rd 0 0 b).2.1 := ⟨_, rfl⟩
  have HR0 := Lib.hid h
  have HKE := Lib.hid hk
  rw [← hk] at hkk
  have HKK := Lib.hid hkk
  clear h hk hkk
  have al1 := alloc_fact w
  have hb1 := (Below.refl w.heap.size w).alloc (Nat.le_refl _) (.cells (fcells fz none 0).toArray 28)
  have hk1 : Blk (w.alloc (.cells (fcells fz none 0).toArray 28)) w.heap.size (fcells fz none 0) 28 := Blk.new w (fcells fz none 0).toArray 28
  obtain ⟨w1, hw1⟩ : ∃ v, v = w.alloc (.cells (fcells fz none 0).toArray 28) := ⟨_, rfl⟩
  rw [← hw1] at al1 hb1 hk1
  have al2 := alloc_flt w1
  have hb2 := hb1.alloc hb1.size (.cells (flt 0 0).toArray 64)
  have hk2 : Blk (w1.alloc (.cells (flt 0 0).toArray 64)) w1.heap.size (flt 0 0) 64 := Blk.new w1 (flt 0 0).toArray 64
  have hk12 := hk1.old (.cells (flt 0 0).toArray 64)
  obtain ⟨w2, hw2⟩ : ∃ v, v = w1.alloc (.cells (flt 0 0).toArray 64) := ⟨_, rfl⟩
  rw [← hw2] at al2 hb2 hk2 hk12
  obtain ⟨r1, hr1⟩ : ∃ r, r = w.heap.size := ⟨_, rfl⟩
  obtain ⟨r2, hr2⟩ : ∃ r, r = w1.heap.size := ⟨_, rfl⟩
  rw [← hr1] at al1 hk12
  rw [← hr2] at al2 hk2
  have HLO := Lib.hid (show w.heap.size ≤ r1 ∧ r1 < r2 from ⟨by omega, by have := hk1.lt; omega⟩)
  have HB2 := Lib.hid hb2
  have HR1 := Lib.hid hk12
  have HR2 := Lib.hid hk2
  have HI := Lib.hid hi
  have HI2 := Lib.hid (hi.below hb2)
  have HKD := Lib.hid (show kind_ b = .returned (.tuple #[.int .i64 k, .agg (flt 0 0).toArray]) from by rw [HKE.out]; unfold kind_; rw [if_pos HR0.out, show kread b = ([iN (Fld.rd 0 0 b).2.1], 0, 0) by unfold kread; rw [if_pos HR0.out]]; rfl)
  have KO := Lib.hid (kindOf_any b p n c w2 HI2.out.len HI2.out.byte HI2.out.at_ HI2.out.le HI2.out.max HI2.out.nil HI2.out.few)
  rw [HKD.out] at KO
  clear hw1 hw2 hr1 hr2 hb1 hb2 hk1 hk2 hk12 hi
  go_enter Tryz.func37, Tryz.ntmps37
  go_wp2_with fail
  refine KO.out.mono ?_
  rintro e w3 ⟨rfl, hb3⟩
  have HB3 := Lib.hid (HB2.out.trans (hb3.mono HB2.out.size))
  have HI3 := Lib.hid (HI2.out.below hb3)
  have al3 := alloc_flt w3
  have st3 := (run_storeNew w3 (P := Tryz.prog) (t := 64) (old := (flt 0 0).toArray) (cs := (flt 0 0).toArray) (flt_size 0 0) rfl (by simp [Value.oneCell']))
  have hb34 := (Below.refl w3.heap.size w3).alloc (Nat.le_refl _) (.cells (flt 0 0).toArray 64)
  have hk4 : Blk (w3.alloc (.cells (flt 0 0).toArray 64)) w3.heap.size (flt 0 0) 64 := Blk.new w3 (flt 0 0).toArray 64
  have hr13 := HR1.out.below hb3 HR1.out.lt
  have hr23 := HR2.out.below hb3 HR2.out.lt
  have hg3 : G3 w r1 r2 w3.heap.size 0 0 (w3.alloc (.cells (flt 0 0).toArray 64)) := ⟨hr13.old _, hr23.old _, hk4, ⟨HLO.out.1, HLO.out.2, hr23.lt⟩, HB3.out.trans (hb34.mono HB3.out.size)⟩
  have hi4 := HI3.out.below hb34
  obtain ⟨g, hg'⟩ : ∃ g, g = w3.heap.size := ⟨_, rfl⟩
  rw [← hg'] at al3 st3 hg3
  clear hb3 hb34 hk4 hr13 hr23 hg' KO al1 al2 HR1 HR2 HB2 HI2
  generalize w3.alloc (.cells (flt 0 0).toArray 64) = w4 at *
  have G4 := Lib.hid hg3
  have HI4 := Lib.hid hi4
  have k0 : w4.cell? ⟨g, 0, none⟩ = some (.int .i64 0) := hg3.bg.cell 0
  clear hg3 hi4
  go_wp2_with fail
  refine (forms_any w4).mono ?_
  rintro e w5 ⟨m, rfl, hm5, hb5⟩
  have G5 := Lib.hid (G4.out.on hb5)
  have HI5 := Lib.hid (HI4.out.below hb5)
  have lk := look_no hm5 k HKK.out true
  have al5 := alloc_form w5
  have st5 := store_form1 w5 emp emp
  have hg6 := G5.out.on ((Below.refl w5.heap.size w5).alloc (Nat.le_refl _) (.cells #[.string emp, .string emp] 79))
  clear hm5 hb5 k0
  generalize w5.alloc (.cells #[.string emp, .string emp] 79) = w6 at *
  have G6 := Lib.hid hg6
  clear hg6
  have HO := Lib.hid (G6.out.out (z := fz) zlen none 0 2 0)
  have os1 := HO.out.s1
  have os2 := HO.out.s2
  have mz := made_fz
  have mf := make_fltE 2
  have HZL := Lib.hid zlen
  go_wp2_with fail
  refine bodyPost_ret (v := .tuple #[.agg (fcells fz none 0).toArray, .agg (flt 2 0).toArray]) (results_row_row rfl _ _ _ _ _ _ _ rfl HO.out.b1 (Tryz.underlying28) rfl (fact_sizeA HZL.out _ _) _ _ _ _ _ rfl HO.out.b2 (Tryz.underlying64) rfl (flt_size 2 0)) rfl ?_
  exact fget_of HQ.out rfl (fz_good _) HO.out.below
set_option maxRecDepth 100000 in
set_option maxHeartbeats 4000000 in
theorem get_w3 (b : List Int) (p : Option Addr) (n c : Nat) (w : World) (hi : GIn b p n c w) (h : (Fld.rd 0 0 b).1 = 0) (hkk : 1 ≤ (Fld.rd 0 0 b).2.1 ∧ (Fld.rd 0 0 b).2.1 < 11) (h3 : (Fld.get (letters (Fld.rd 0 0 b).2.1) b).2.1 ≠ 0) :
    Calls Tryz.prog 37 #[.slice p n c] w (FGet w (Fct.get b)) := by
  have HQ0 := Lib.hid (show Fct.get b = (fz, (Fld.get (letters (Fld.rd 0 0 b).2.1) b).2.1, (Fld.get (letters (Fld.rd 0 0 b).2.1) b).2.2) from by unfold Fct.get; rw [if_neg (by rw [h]; simp), if_neg (by simpa using hkk), if_pos h3]; rfl)
  obtain ⟨k, hk⟩ : ∃ k, k = (Fld.rd 0 0 b).2.1 := ⟨_, rfl⟩
  have HR0 := Lib.hid h
  have HKE := Lib.hid hk
  rw [← hk] at hkk
  rw [← hk] at HQ0 h3
  have HKK := Lib.hid hkk
  have H3 := Lib.hid h3
  clear h hk hkk h3
  have al1 := alloc_fact w
  have hb1 := (Below.refl w.heap.size w).alloc (Nat.le_refl _) (.cells (fcells fz none 0).toArray 28)
  have hk1 : Blk (w.alloc (.cells (fcells fz none 0).toArray 28)) w.heap.size (fcells fz none 0) 28 := Blk.new w (fcells fz none 0).toArray 28
  obtain ⟨w1, hw1⟩ : ∃ v, v = w.alloc (.cells (fcells fz none 0).toArray 28) := ⟨_, rfl⟩
  rw [← hw1] at al1 hb1 hk1
  have al2 := alloc_flt w1
  have hb2 := hb1.alloc hb1.size (.cells (flt 0 0).toArray 64)
  have hk2 : Blk (w1.alloc (.cells (flt 0 0).toArray 64)) w1.heap.size (flt 0 0) 64 := Blk.new w1 (flt 0 0).toArray 64
  have hk12 := hk1.old (.cells (flt 0 0).toArray 64)
  obtain ⟨w2, hw2⟩ : ∃ v, v = w1.alloc (.cells (flt 0 0).toArray 64) := ⟨_, rfl⟩
  rw [← hw2] at al2 hb2 hk2 hk12
  obtain ⟨r1, hr1⟩ : ∃ r, r = w.heap.size := ⟨_, rfl⟩
  obtain ⟨r2, hr2⟩ : ∃ r, r = w1.heap.size := ⟨_, rfl⟩
  rw [← hr1] at al1 hk12
  rw [← hr2] at al2 hk2
  have HLO := Lib.hid (show w.heap.size ≤ r1 ∧ r1 < r2 from ⟨by omega, by have := hk1.lt; omega⟩)
  have HB2 := Lib.hid hb2
  have HR1 := Lib.hid hk12
  have HR2 := Lib.hid hk2
  have HI := Lib.hid hi
  have HI2 := Lib.hid (hi.below hb2)
  have HKD := Lib.hid (show kind_ b = .returned (.tuple #[.int .i64 k, .agg (flt 0 0).toArray]) from by rw [HKE.out]; unfold kind_; rw [if_pos HR0.out, show kread b = ([iN (Fld.rd 0 0 b).2.1], 0, 0) by unfold kread; rw [if_pos HR0.out]]; rfl)
  have KO := Lib.hid (kindOf_any b p n c w2 HI2.out.len HI2.out.byte HI2.out.at_ HI2.out.le HI2.out.max HI2.out.nil HI2.out.few)
  rw [HKD.out] at KO
  clear hw1 hw2 hr1 hr2 hb1 hb2 hk1 hk2 hk12 hi
  go_enter Tryz.func37, Tryz.ntmps37
  go_wp2_with fail
  refine KO.out.mono ?_
  rintro e w3 ⟨rfl, hb3⟩
  have HB3 := Lib.hid (HB2.out.trans (hb3.mono HB2.out.size))
  have HI3 := Lib.hid (HI2.out.below hb3)
  have al3 := alloc_flt w3
  have st3 := (run_storeNew w3 (P := Tryz.prog) (t := 64) (old := (flt 0 0).toArray) (cs := (flt 0 0).toArray) (flt_size 0 0) rfl (by simp [Value.oneCell']))
  have hb34 := (Below.refl w3.heap.size w3).alloc (Nat.le_refl _) (.cells (flt 0 0).toArray 64)
  have hk4 : Blk (w3.alloc (.cells (flt 0 0).toArray 64)) w3.heap.size (flt 0 0) 64 := Blk.new w3 (flt 0 0).toArray 64
  have hr13 := HR1.out.below hb3 HR1.out.lt
  have hr23 := HR2.out.below hb3 HR2.out.lt
  have hg3 : G3 w r1 r2 w3.heap.size 0 0 (w3.alloc (.cells (flt 0 0).toArray 64)) := ⟨hr13.old _, hr23.old _, hk4, ⟨HLO.out.1, HLO.out.2, hr23.lt⟩, HB3.out.trans (hb34.mono HB3.out.size)⟩
  have hi4 := HI3.out.below hb34
  obtain ⟨g, hg'⟩ : ∃ g, g = w3.heap.size := ⟨_, rfl⟩
  rw [← hg'] at al3 st3 hg3
  clear hb3 hb34 hk4 hr13 hr23 hg' KO al1 al2 HR1 HR2 HB2 HI2
  generalize w3.alloc (.cells (flt 0 0).toArray 64) = w4 at *
  have G4 := Lib.hid hg3
  have HI4 := Lib.hid hi4
  have k0 : w4.cell? ⟨g, 0, none⟩ = some (.int .i64 0) := hg3.bg.cell 0
  clear hg3 hi4
  go_wp2_with fail
  refine (forms_any w4).mono ?_
  rintro e w5 ⟨m, rfl, hm5, hb5⟩
  have G5 := Lib.hid (G4.out.on hb5)
  have HI5 := Lib.hid (HI4.out.below hb5)
  have lk := look_yes hm5 k HKK.out true
  have al5 := alloc_form w5
  have st5 := store_form1 w5 (kSh k) (kHas k)
  have hb56 := (Below.refl w5.heap.size w5).alloc (Nat.le_refl _) (.cells #[.string (kSh k), .string (kHas k)] 79)
  have hg6 := G5.out.on hb56
  have hi6 := HI5.out.below hb56
  have hf6 : Blk (w5.alloc (.cells #[.string (kSh k), .string (kHas k)] 79)) w5.heap.size [.string (kSh k), .string (kHas k)] 79 := Blk.new w5 _ 79
  obtain ⟨gf, hgf⟩ : ∃ gf, gf = w5.heap.size := ⟨_, rfl⟩
  rw [← hgf] at al5 st5 hf6
  clear hm5 hb5 k0 hb56 hgf
  generalize w5.alloc (.cells #[.string emp, .string emp] 79) = wr at *
  generalize w5.alloc (.cells #[.string (kSh k), .string (kHas k)] 79) = w6 at *
  have G6 := Lib.hid hg6
  have HI6 := Lib.hid hi6
  have HF6 := Lib.hid hf6
  have c6 : w6.cell? ⟨gf, 0, none⟩ = some (.string (kSh k)) := hf6.cell 0
  obtain ⟨sn, hcat, hsn, hsz⟩ := cat_kind k (.const (.string ⟨#[110]⟩)) (.tmp 31)
  have HG6 := Lib.hid (show Calls Tryz.prog 76 #[.string sn, .slice p n c] w6 (GetDoneR w6 (Fld.get (letters k) b)) from by
    have h1 := getF_anyR sn hsz b p n c w6 hi6.len hi6.byte hi6.at_ hi6.le hi6.max hi6.nil hi6.few
    rw [hsn] at h1; exact h1)
  clear hg6 hi6 hf6 hsn hsz
  go_wp2_with fail
  refine HG6.out.mono ?_
  rintro e w7 ⟨q7, n7, c7, rfl, ht7, hb7⟩
  obtain ⟨⟨l7, e7, an7⟩, hG⟩ : ∃ G, G = Fld.get (letters k) b := ⟨_, rfl⟩
  rw [← hG] at HQ0 H3 ht7 ⊢
  obtain ⟨a7, ha7⟩ : ∃ a, a = (an7 : Int) := ⟨_, rfl⟩
  have HAI := Lib.hid ha7
  have HQ := Lib.hid (show Fct.get b = (fz, e7, an7) from HQ0.out)
  simp only [← ha7]
  have g7 := G6.out.on hb7
  have st7 := store_flt (e' := e7) (a' := a7) g7.bg
  have g8 := g7.set e7 a7
  have t7 : (e7 != 0) = true := by simpa using H3.out
  clear g7 hb7 ht7 ha7 hG lk al5 st5 hcat c6 HG6 HQ0
  generalize w7.setRow g (flt e7 a7).toArray = w8 at *
  have G8 := Lib.hid g8
  have k8 : w8.cell? ⟨g, 0, none⟩ = some (.int .i64 e7) := g8.bg.cell 0
  clear g8
  go_wp2_with fail
  have g4 := G8.out.on (Below.refl _ _).drew
  have HO := Lib.hid (g4.out (z := fz) zlen none 0 e7 a7)
  have os1 := HO.out.s1
  have os2 := HO.out.s2
  obtain ⟨ol1, ol2, ol3⟩ := g4.loads fz none 0 e7 a7
  have mz := made_fz
  have HZL := Lib.hid zlen
  clear g4
  go_region_held3 (fun w' => (loadOp 64 (.pointer (some ⟨g, 0, none⟩))).run Tryz.prog w' = .ok (.value (.agg (flt e7 a7).toArray)) w') (first | exact ol1 | exact ol2 | exact ol3) ((first | fail))
  all_goals go_wp2_with fail
  all_goals refine bodyPost_ret (v := .tuple #[.agg (fcells fz none 0).toArray, .agg (flt e7 a7).toArray]) (results_row_row rfl _ _ _ _ _ _ _ rfl HO.out.b1 (Tryz.underlying28) rfl (fact_sizeA HZL.out _ _) _ _ _ _ _ rfl HO.out.b2 (Tryz.underlying64) rfl (flt_size e7 a7)) rfl ?_
  all_goals exact fget_of HQ.out HAI.out (fz_good _) HO.out.below
set_option maxRecDepth 100000 in
set_option maxHeartbeats 4000000 in
theorem get_w4 (b : List Int) (p : Option Addr) (n c : Nat) (w : World) (hi : GIn b p n c w) (h : (Fld.rd 0 0 b).1 = 0) (hkk : 1 ≤ (Fld.rd 0 0 b).2.1 ∧ (Fld.rd 0 0 b).2.1 < 11) (h3 : (Fld.get (letters (Fld.rd 0 0 b).2.1) b).2.1 = 0) (h4 : can (of (Fld.rd 0 0 b).2.1 (Fld.get (letters (Fld.rd 0 0 b).2.1) b).1.tail) = false) :
    Calls Tryz.prog 37 #[.slice p n c] w (FGet w (Fct.get b)) := by
  have HQ0 := Lib.hid (show Fct.get b = (fz, 2, 0) ∧ can (of (Fld.rd 0 0 b).2.1 (Fld.get (letters (Fld.rd 0 0 b).2.1) b).1.tail) = false from ⟨by unfold Fct.get; rw [if_neg (by rw [h]; simp), if_neg (by simpa using hkk), if_neg (by rw [h3]; simp), if_neg (by rw [h4]; simp)]; rfl, h4⟩)
  obtain ⟨k, hk⟩ : ∃ k, k = (Fld.rd 0 0 b).2.1 := ⟨_, rfl⟩
  have HR0 := Lib.hid h
  have HKE := Lib.hid hk
  rw [← hk] at hkk
  rw [← hk] at HQ0 h3
  have HKK := Lib.hid hkk
  have H3 := Lib.hid h3
  clear h hk hkk h3 h4
  have al1 := alloc_fact w
  have hb1 := (Below.refl w.heap.size w).alloc (Nat.le_refl _) (.cells (fcells fz none 0).toArray 28)
  have hk1 : Blk (w.alloc (.cells (fcells fz none 0).toArray 28)) w.heap.size (fcells fz none 0) 28 := Blk.new w (fcells fz none 0).toArray 28
  obtain ⟨w1, hw1⟩ : ∃ v, v = w.alloc (.cells (fcells fz none 0).toArray 28) := ⟨_, rfl⟩
  rw [← hw1] at al1 hb1 hk1
  have al2 := alloc_flt w1
  have hb2 := hb1.alloc hb1.size (.cells (flt 0 0).toArray 64)
  have hk2 : Blk (w1.alloc (.cells (flt 0 0).toArray 64)) w1.heap.size (flt 0 0) 64 := Blk.new w1 (flt 0 0).toArray 64
  have hk12 := hk1.old (.cells (flt 0 0).toArray 64)
  obtain ⟨w2, hw2⟩ : ∃ v, v = w1.alloc (.cells (flt 0 0).toArray 64) := ⟨_, rfl⟩
  rw [← hw2] at al2 hb2 hk2 hk12
  obtain ⟨r1, hr1⟩ : ∃ r, r = w.heap.size := ⟨_, rfl⟩
  obtain ⟨r2, hr2⟩ : ∃ r, r = w1.heap.size := ⟨_, rfl⟩
  rw [← hr1] at al1 hk12
  rw [← hr2] at al2 hk2
  have HLO := Lib.hid (show w.heap.size ≤ r1 ∧ r1 < r2 from ⟨by omega, by have := hk1.lt; omega⟩)
  have HB2 := Lib.hid hb2
  have HR1 := Lib.hid hk12
  have HR2 := Lib.hid hk2
  have HI := Lib.hid hi
  have HI2 := Lib.hid (hi.below hb2)
  have HKD := Lib.hid (show kind_ b = .returned (.tuple #[.int .i64 k, .agg (flt 0 0).toArray]) from by rw [HKE.out]; unfold kind_; rw [if_pos HR0.out, show kread b = ([iN (Fld.rd 0 0 b).2.1], 0, 0) by unfold kread; rw [if_pos HR0.out]]; rfl)
  have KO := Lib.hid (kindOf_any b p n c w2 HI2.out.len HI2.out.byte HI2.out.at_ HI2.out.le HI2.out.max HI2.out.nil HI2.out.few)
  rw [HKD.out] at KO
  clear hw1 hw2 hr1 hr2 hb1 hb2 hk1 hk2 hk12 hi
  go_enter Tryz.func37, Tryz.ntmps37
  go_wp2_with fail
  refine KO.out.mono ?_
  rintro e w3 ⟨rfl, hb3⟩
  have HB3 := Lib.hid (HB2.out.trans (hb3.mono HB2.out.size))
  have HI3 := Lib.hid (HI2.out.below hb3)
  have al3 := alloc_flt w3
  have st3 := (run_storeNew w3 (P := Tryz.prog) (t := 64) (old := (flt 0 0).toArray) (cs := (flt 0 0).toArray) (flt_size 0 0) rfl (by simp [Value.oneCell']))
  have hb34 := (Below.refl w3.heap.size w3).alloc (Nat.le_refl _) (.cells (flt 0 0).toArray 64)
  have hk4 : Blk (w3.alloc (.cells (flt 0 0).toArray 64)) w3.heap.size (flt 0 0) 64 := Blk.new w3 (flt 0 0).toArray 64
  have hr13 := HR1.out.below hb3 HR1.out.lt
  have hr23 := HR2.out.below hb3 HR2.out.lt
  have hg3 : G3 w r1 r2 w3.heap.size 0 0 (w3.alloc (.cells (flt 0 0).toArray 64)) := ⟨hr13.old _, hr23.old _, hk4, ⟨HLO.out.1, HLO.out.2, hr23.lt⟩, HB3.out.trans (hb34.mono HB3.out.size)⟩
  have hi4 := HI3.out.below hb34
  obtain ⟨g, hg'⟩ : ∃ g, g = w3.heap.size := ⟨_, rfl⟩
  rw [← hg'] at al3 st3 hg3
  clear hb3 hb34 hk4 hr13 hr23 hg' KO al1 al2 HR1 HR2 HB2 HI2
  generalize w3.alloc (.cells (flt 0 0).toArray 64) = w4 at *
  have G4 := Lib.hid hg3
  have HI4 := Lib.hid hi4
  have k0 : w4.cell? ⟨g, 0, none⟩ = some (.int .i64 0) := hg3.bg.cell 0
  clear hg3 hi4
  go_wp2_with fail
  refine (forms_any w4).mono ?_
  rintro e w5 ⟨m, rfl, hm5, hb5⟩
  have G5 := Lib.hid (G4.out.on hb5)
  have HI5 := Lib.hid (HI4.out.below hb5)
  have lk := look_yes hm5 k HKK.out true
  have al5 := alloc_form w5
  have st5 := store_form1 w5 (kSh k) (kHas k)
  have hb56 := (Below.refl w5.heap.size w5).alloc (Nat.le_refl _) (.cells #[.string (kSh k), .string (kHas k)] 79)
  have hg6 := G5.out.on hb56
  have hi6 := HI5.out.below hb56
  have hf6 : Blk (w5.alloc (.cells #[.string (kSh k), .string (kHas k)] 79)) w5.heap.size [.string (kSh k), .string (kHas k)] 79 := Blk.new w5 _ 79
  obtain ⟨gf, hgf⟩ : ∃ gf, gf = w5.heap.size := ⟨_, rfl⟩
  rw [← hgf] at al5 st5 hf6
  clear hm5 hb5 k0 hb56 hgf
  generalize w5.alloc (.cells #[.string emp, .string emp] 79) = wr at *
  generalize w5.alloc (.cells #[.string (kSh k), .string (kHas k)] 79) = w6 at *
  have G6 := Lib.hid hg6
  have HI6 := Lib.hid hi6
  have HF6 := Lib.hid hf6
  have c6 : w6.cell? ⟨gf, 0, none⟩ = some (.string (kSh k)) := hf6.cell 0
  obtain ⟨sn, hcat, hsn, hsz⟩ := cat_kind k (.const (.string ⟨#[110]⟩)) (.tmp 31)
  have HG6 := Lib.hid (show Calls Tryz.prog 76 #[.string sn, .slice p n c] w6 (GetDoneR w6 (Fld.get (letters k) b)) from by
    have h1 := getF_anyR sn hsz b p n c w6 hi6.len hi6.byte hi6.at_ hi6.le hi6.max hi6.nil hi6.few
    rw [hsn] at h1; exact h1)
  clear hg6 hi6 hf6 hsn hsz
  go_wp2_with fail
  refine HG6.out.mono ?_
  rintro e w7 ⟨q7, n7, c7, rfl, ht7, hb7⟩
  obtain ⟨l7, hG⟩ : ∃ l, Fld.get (letters k) b = (l, 0, 0) := by
    obtain ⟨⟨l, e, j⟩, hG⟩ : ∃ G, G = Fld.get (letters k) b := ⟨_, rfl⟩
    have h4 := H3.out
    rw [← hG] at h4
    have h4' : e = 0 := h4
    subst h4'
    have h5 := (get_len HI.out.byte hG.symm).2
    subst h5
    exact ⟨l, hG.symm⟩
  have hlen := (get_len HI.out.byte hG).1
  rw [hG] at ht7 HQ0 ⊢
  obtain ⟨y0, t0, rfl⟩ : ∃ y t, l7 = y :: t := by
    cases l7 with
    | nil => simp at hlen; omega
    | cons y t => exact ⟨y, t, rfl⟩
  have htl : t0.length = (hasL k).length := by simp at hlen; omega
  have HTL := Lib.hid htl
  have HCN := Lib.hid (bnd_canT k HKK.out t0 htl)
  have HOF := Lib.hid (facL_ofT k HKK.out t0 htl)
  have ht7' : ToldC True w7 q7 n7 c7 (y0 :: t0) := ht7.c
  have h1n : 1 ≤ n7 := by rw [ht7'.told.len]; simp
  have hct := run_cutI q7 n7 c7 h1n ht7'.told.le ht7'.told.max
  have htt := told_tailC ht7'
  have hn7 : n7 - 1 = (hasL k).length := by rw [ht7'.told.len]; simpa using htl
  have g7 := G6.out.on hb7
  have st7 := store_flt (e' := 0) (a' := 0) g7.bg
  have g8 := g7.set 0 0
  have ht8 := told_rowFC htt g7.bg (flt 0 0)
  have HF7 := Lib.hid (HF6.out.below hb7 HF6.out.lt)
  have HF8 := Lib.hid (HF7.out.rowOther (k := g) (flt 0 0).toArray (show gf ≠ g from fun e => by
    have h8 := HF7.out
    have h9 := g7.bg
    unfold Blk at h8 h9
    rw [e, h9] at h8; simp at h8))
  generalize (if c7 = 1 then q7 else q7.map (·.add (1 * 34))) = q8 at *
  generalize n7 - 1 = n8 at *
  generalize c7 - 1 = c8 at *
  have HT8 := Lib.hid ht8
  have HN8 := Lib.hid hn7
  clear g7 hb7 ht7 ht7' ht8 htt hlen htl hn7 h1n hG lk al5 st5 hcat c6 HG6
  generalize w7.setRow g (flt 0 0).toArray = w8 at *
  have G8 := Lib.hid g8
  have k8 : w8.cell? ⟨g, 0, none⟩ = some (.int .i64 0) := g8.bg.cell 0
  have lf8 := load_form HF8.out
  clear g8
  have HQ := Lib.hid (show Fct.get b = (fz, 2, 0) from HQ0.out.1)
  have HBN := Lib.hid (show Calls Tryz.prog 77 #[.agg #[.string (kSh k), .string (kHas k)], .slice q8 n8 c8] w8 (fun e w' => e = .returned (.bool false) ∧ Below w8.heap.size w8 w') from by
    have h1 := pbounded_any k t0 q8 n8 c8 w8 HT8.out.told HN8.out
    rw [HCN.out, show can (of k t0) = false from HQ0.out.2] at h1; exact h1)
  clear HQ0
  go_wp2_with fail
  refine HBN.out.mono ?_
  rintro e w9 ⟨rfl, hb9⟩
  have G9 := Lib.hid (G8.out.on hb9)
  clear hb9
  have HO := Lib.hid (G9.out.out (z := fz) zlen none 0 2 0)
  have os1 := HO.out.s1
  have os2 := HO.out.s2
  have mz := made_fz
  have mf := make_fltE 2
  have HZL := Lib.hid zlen
  go_wp2_with fail
  refine bodyPost_ret (v := .tuple #[.agg (fcells fz none 0).toArray, .agg (flt 2 0).toArray]) (results_row_row rfl _ _ _ _ _ _ _ rfl HO.out.b1 (Tryz.underlying28) rfl (fact_sizeA HZL.out _ _) _ _ _ _ _ rfl HO.out.b2 (Tryz.underlying64) rfl (flt_size 2 0)) rfl ?_
  exact fget_of HQ.out rfl (fz_good _) HO.out.below
set_option maxRecDepth 100000 in
set_option maxHeartbeats 4000000 in
theorem get_w5 (b : List Int) (p : Option Addr) (n c : Nat) (w : World) (hi : GIn b p n c w) (h : (Fld.rd 0 0 b).1 = 0) (hkk : 1 ≤ (Fld.rd 0 0 b).2.1 ∧ (Fld.rd 0 0 b).2.1 < 11) (h3 : (Fld.get (letters (Fld.rd 0 0 b).2.1) b).2.1 = 0) (h4 : can (of (Fld.rd 0 0 b).2.1 (Fld.get (letters (Fld.rd 0 0 b).2.1) b).1.tail) = true) :
    Calls Tryz.prog 37 #[.slice p n c] w (FGet w (Fct.get b)) := by
  have HQ0 := Lib.hid (show Fct.get b = (of (Fld.rd 0 0 b).2.1 (Fld.get (letters (Fld.rd 0 0 b).2.1) b).1.tail, 0, 0) ∧ can (of (Fld.rd 0 0 b).2.1 (Fld.get (letters (Fld.rd 0 0 b).2.1) b).1.tail) = true from ⟨by unfold Fct.get; rw [if_neg (by rw [h]; simp), if_neg (by simpa using hkk), if_neg (by rw [h3]; simp), if_pos h4], h4⟩)
  obtain ⟨k, hk⟩ : ∃ k, k = (Fld.rd 0 0 b).2.1 := ⟨_, rfl⟩
  have HR0 := Lib.hid h
  have HKE := Lib.hid hk
  rw [← hk] at hkk
  rw [← hk] at HQ0 h3
  have HKK := Lib.hid hkk
  have H3 := Lib.hid h3
  clear h hk hkk h3 h4
  have al1 := alloc_fact w
  have hb1 := (Below.refl w.heap.size w).alloc (Nat.le_refl _) (.cells (fcells fz none 0).toArray 28)
  have hk1 : Blk (w.alloc (.cells (fcells fz none 0).toArray 28)) w.heap.size (fcells fz none 0) 28 := Blk.new w (fcells fz none 0).toArray 28
  obtain ⟨w1, hw1⟩ : ∃ v, v = w.alloc (.cells (fcells fz none 0).toArray 28) := ⟨_, rfl⟩
  rw [← hw1] at al1 hb1 hk1
  have al2 := alloc_flt w1
  have hb2 := hb1.alloc hb1.size (.cells (flt 0 0).toArray 64)
  have hk2 : Blk (w1.alloc (.cells (flt 0 0).toArray 64)) w1.heap.size (flt 0 0) 64 := Blk.new w1 (flt 0 0).toArray 64
  have hk12 := hk1.old (.cells (flt 0 0).toArray 64)
  obtain ⟨w2, hw2⟩ : ∃ v, v = w1.alloc (.cells (flt 0 0).toArray 64) := ⟨_, rfl⟩
  rw [← hw2] at al2 hb2 hk2 hk12
  obtain ⟨r1, hr1⟩ : ∃ r, r = w.heap.size := ⟨_, rfl⟩
  obtain ⟨r2, hr2⟩ : ∃ r, r = w1.heap.size := ⟨_, rfl⟩
  rw [← hr1] at al1 hk12
  rw [← hr2] at al2 hk2
  have HLO := Lib.hid (show w.heap.size ≤ r1 ∧ r1 < r2 from ⟨by omega, by have := hk1.lt; omega⟩)
  have HB2 := Lib.hid hb2
  have HR1 := Lib.hid hk12
  have HR2 := Lib.hid hk2
  have HI := Lib.hid hi
  have HI2 := Lib.hid (hi.below hb2)
  have HKD := Lib.hid (show kind_ b = .returned (.tuple #[.int .i64 k, .agg (flt 0 0).toArray]) from by rw [HKE.out]; unfold kind_; rw [if_pos HR0.out, show kread b = ([iN (Fld.rd 0 0 b).2.1], 0, 0) by unfold kread; rw [if_pos HR0.out]]; rfl)
  have KO := Lib.hid (kindOf_any b p n c w2 HI2.out.len HI2.out.byte HI2.out.at_ HI2.out.le HI2.out.max HI2.out.nil HI2.out.few)
  rw [HKD.out] at KO
  clear hw1 hw2 hr1 hr2 hb1 hb2 hk1 hk2 hk12 hi
  go_enter Tryz.func37, Tryz.ntmps37
  go_wp2_with fail
  refine KO.out.mono ?_
  rintro e w3 ⟨rfl, hb3⟩
  have HB3 := Lib.hid (HB2.out.trans (hb3.mono HB2.out.size))
  have HI3 := Lib.hid (HI2.out.below hb3)
  have al3 := alloc_flt w3
  have st3 := (run_storeNew w3 (P := Tryz.prog) (t := 64) (old := (flt 0 0).toArray) (cs := (flt 0 0).toArray) (flt_size 0 0) rfl (by simp [Value.oneCell']))
  have hb34 := (Below.refl w3.heap.size w3).alloc (Nat.le_refl _) (.cells (flt 0 0).toArray 64)
  have hk4 : Blk (w3.alloc (.cells (flt 0 0).toArray 64)) w3.heap.size (flt 0 0) 64 := Blk.new w3 (flt 0 0).toArray 64
  have hr13 := HR1.out.below hb3 HR1.out.lt
  have hr23 := HR2.out.below hb3 HR2.out.lt
  have hg3 : G3 w r1 r2 w3.heap.size 0 0 (w3.alloc (.cells (flt 0 0).toArray 64)) := ⟨hr13.old _, hr23.old _, hk4, ⟨HLO.out.1, HLO.out.2, hr23.lt⟩, HB3.out.trans (hb34.mono HB3.out.size)⟩
  have hi4 := HI3.out.below hb34
  obtain ⟨g, hg'⟩ : ∃ g, g = w3.heap.size := ⟨_, rfl⟩
  rw [← hg'] at al3 st3 hg3
  clear hb3 hb34 hk4 hr13 hr23 hg' KO al1 al2 HR1 HR2 HB2 HI2
  generalize w3.alloc (.cells (flt 0 0).toArray 64) = w4 at *
  have G4 := Lib.hid hg3
  have HI4 := Lib.hid hi4
  have k0 : w4.cell? ⟨g, 0, none⟩ = some (.int .i64 0) := hg3.bg.cell 0
  clear hg3 hi4
  go_wp2_with fail
  refine (forms_any w4).mono ?_
  rintro e w5 ⟨m, rfl, hm5, hb5⟩
  have G5 := Lib.hid (G4.out.on hb5)
  have HI5 := Lib.hid (HI4.out.below hb5)
  have lk := look_yes hm5 k HKK.out true
  have al5 := alloc_form w5
  have st5 := store_form1 w5 (kSh k) (kHas k)
  have hb56 := (Below.refl w5.heap.size w5).alloc (Nat.le_refl _) (.cells #[.string (kSh k), .string (kHas k)] 79)
  have hg6 := G5.out.on hb56
  have hi6 := HI5.out.below hb56
  have hf6 : Blk (w5.alloc (.cells #[.string (kSh k), .string (kHas k)] 79)) w5.heap.size [.string (kSh k), .string (kHas k)] 79 := Blk.new w5 _ 79
  obtain ⟨gf, hgf⟩ : ∃ gf, gf = w5.heap.size := ⟨_, rfl⟩
  rw [← hgf] at al5 st5 hf6
  clear hm5 hb5 k0 hb56 hgf
  generalize w5.alloc (.cells #[.string emp, .string emp] 79) = wr at *
  generalize w5.alloc (.cells #[.string (kSh k), .string (kHas k)] 79) = w6 at *
  have G6 := Lib.hid hg6
  have HI6 := Lib.hid hi6
  have HF6 := Lib.hid hf6
  have c6 : w6.cell? ⟨gf, 0, none⟩ = some (.string (kSh k)) := hf6.cell 0
  obtain ⟨sn, hcat, hsn, hsz⟩ := cat_kind k (.const (.string ⟨#[110]⟩)) (.tmp 31)
  have HG6 := Lib.hid (show Calls Tryz.prog 76 #[.string sn, .slice p n c] w6 (GetDoneR w6 (Fld.get (letters k) b)) from by
    have h1 := getF_anyR sn hsz b p n c w6 hi6.len hi6.byte hi6.at_ hi6.le hi6.max hi6.nil hi6.few
    rw [hsn] at h1; exact h1)
  clear hg6 hi6 hf6 hsn hsz
  go_wp2_with fail
  refine HG6.out.mono ?_
  rintro e w7 ⟨q7, n7, c7, rfl, ht7, hb7⟩
  obtain ⟨l7, hG⟩ : ∃ l, Fld.get (letters k) b = (l, 0, 0) := by
    obtain ⟨⟨l, e, j⟩, hG⟩ : ∃ G, G = Fld.get (letters k) b := ⟨_, rfl⟩
    have h4 := H3.out
    rw [← hG] at h4
    have h4' : e = 0 := h4
    subst h4'
    have h5 := (get_len HI.out.byte hG.symm).2
    subst h5
    exact ⟨l, hG.symm⟩
  have hlen := (get_len HI.out.byte hG).1
  rw [hG] at ht7 HQ0 ⊢
  obtain ⟨y0, t0, rfl⟩ : ∃ y t, l7 = y :: t := by
    cases l7 with
    | nil => simp at hlen; omega
    | cons y t => exact ⟨y, t, rfl⟩
  have htl : t0.length = (hasL k).length := by simp at hlen; omega
  have HTL := Lib.hid htl
  have HCN := Lib.hid (bnd_canT k HKK.out t0 htl)
  have HOF := Lib.hid (facL_ofT k HKK.out t0 htl)
  have ht7' : ToldC True w7 q7 n7 c7 (y0 :: t0) := ht7.c
  have h1n : 1 ≤ n7 := by rw [ht7'.told.len]; simp
  have hct := run_cutI q7 n7 c7 h1n ht7'.told.le ht7'.told.max
  have htt := told_tailC ht7'
  have hn7 : n7 - 1 = (hasL k).length := by rw [ht7'.told.len]; simpa using htl
  have g7 := G6.out.on hb7
  have st7 := store_flt (e' := 0) (a' := 0) g7.bg
  have g8 := g7.set 0 0
  have ht8 := told_rowFC htt g7.bg (flt 0 0)
  have HF7 := Lib.hid (HF6.out.below hb7 HF6.out.lt)
  have HF8 := Lib.hid (HF7.out.rowOther (k := g) (flt 0 0).toArray (show gf ≠ g from fun e => by
    have h8 := HF7.out
    have h9 := g7.bg
    unfold Blk at h8 h9
    rw [e, h9] at h8; simp at h8))
  generalize (if c7 = 1 then q7 else q7.map (·.add (1 * 34))) = q8 at *
  generalize n7 - 1 = n8 at *
  generalize c7 - 1 = c8 at *
  have HT8 := Lib.hid ht8
  have HN8 := Lib.hid hn7
  clear g7 hb7 ht7 ht7' ht8 htt hlen htl hn7 h1n hG lk al5 st5 hcat c6 HG6
  generalize w7.setRow g (flt 0 0).toArray = w8 at *
  have G8 := Lib.hid g8
  have k8 : w8.cell? ⟨g, 0, none⟩ = some (.int .i64 0) := g8.bg.cell 0
  have lf8 := load_form HF8.out
  clear g8
  have HQ := Lib.hid (show Fct.get b = (of k t0, 0, 0) from HQ0.out.1)
  have HBN := Lib.hid (show Calls Tryz.prog 77 #[.agg #[.string (kSh k), .string (kHas k)], .slice q8 n8 c8] w8 (fun e w' => e = .returned (.bool true) ∧ Below w8.heap.size w8 w') from by
    have h1 := pbounded_any k t0 q8 n8 c8 w8 HT8.out.told HN8.out
    rw [HCN.out, show can (of k t0) = true from HQ0.out.2] at h1; exact h1)
  clear HQ0
  go_wp2_with fail
  refine HBN.out.mono ?_
  rintro e w9 ⟨rfl, hb9⟩
  have G9 := Lib.hid (G8.out.on hb9)
  have HT9 := Lib.hid (HT8.out.below hb9)
  have HF9 := Lib.hid (HF8.out.below hb9 HF8.out.lt)
  have lf9 := load_form HF9.out
  have HFC := Lib.hid (show Calls Tryz.prog 78 #[.agg #[.string (kSh k), .string (kHas k)], .int .i64 k, .slice q8 n8 c8] w9 (FToldC True (of k t0) w9) from by
    have h1 := pfactC_any True k (fit_small (by have := HKK.out; omega)) t0 q8 n8 c8 w9 HT9.out HN8.out
    rw [HOF.out] at h1; exact h1)
  clear hb9 lf8 k8
  go_wp2_with fail
  refine HFC.out.mono ?_
  rintro e wA ⟨qA, cA, rfl, hgA, huA, hbA⟩
  have GA := Lib.hid (G9.out.on hbA)
  have HGA := Lib.hid hgA
  have HZL := Lib.hid hgA.ok.len
  have HO := Lib.hid (GA.out.out (z := of k t0) hgA.ok.len qA cA 0 0)
  have HGO := Lib.hid (good_two GA.out hgA (huA trivial) (of k t0) qA cA 0 0)
  have os1 := HO.out.s1
  have os2 := HO.out.s2
  have mf := make_flt0
  clear hgA huA hbA lf9
  go_wp2_with fail
  refine bodyPost_ret (v := .tuple #[.agg (fcells (of k t0) qA cA).toArray, .agg (flt 0 0).toArray]) (results_row_row rfl _ _ _ _ _ _ _ rfl HO.out.b1 (Tryz.underlying28) rfl (fact_sizeA HZL.out _ _) _ _ _ _ _ rfl HO.out.b2 (Tryz.underlying64) rfl (flt_size 0 0)) rfl ?_
  exact fget_of HQ.out rfl HGO.out HO.out.below
theorem pget_any (b : List Int) (p : Option Addr) (n c : Nat) (w : World) (hn : b.length = n) (hb : ∀ m ∈ b, 0 ≤ m ∧ m ≤ 255) (hA : At w p (b.map v8)) (hle : n ≤ c) (hm : c ≤ 9223372036854775807) (hp : p = none → c = 0) (hs : n ≤ 1000000) :
    Calls Tryz.prog 37 #[.slice p n c] w (FGet w (Fct.get b)) := by
  have hi : GIn b p n c w := ⟨hn, hb, hA, hle, hm, hp, hs⟩
  by_cases h1 : (Fld.rd 0 0 b).1 = 0
  · by_cases h2 : 1 ≤ (Fld.rd 0 0 b).2.1 ∧ (Fld.rd 0 0 b).2.1 < 11
    · by_cases h3 : (Fld.get (letters (Fld.rd 0 0 b).2.1) b).2.1 = 0
      · cases h4 : can (of (Fld.rd 0 0 b).2.1 (Fld.get (letters (Fld.rd 0 0 b).2.1) b).1.tail) with
        | true => exact get_w5 b p n c w hi h1 h2 h3 h4
        | false => exact get_w4 b p n c w hi h1 h2 h3 h4
      · exact get_w3 b p n c w hi h1 h2 h3
    · exact get_w2 b p n c w hi h1 h2
  · exact get_w1 b p n c w hi h1
end
end Go.Proofs.YtokpabkcaofahaaGreat
