/-
  The kit's SameNote.
  The reference of the wire package: are two notes the same? (written by mkrwk15.py)
  The law package of frames: FramePuts, FrameSplits.
  Going through frames by an iterator function: which records come, what has come so far; a cut in a fence. No function of the program is named here.
  The program's frames: a size, four bytes laid, a head's length, a record's head.
  Going through pieces by their heads' lengths: which come, what has come so far. No function of the program is named here.
  Whole arrays in a walk inside a fence (XArr's and the library's laws, turned): a new variable, a load, a store, a load out of the middle. No program is named here.
  Heads loaded and compared, as one operation each: names that the walk does not open.
-/
import Derived.Test.YtbogjfmefkhglaaGreatP3
import Derived.Test.YtbogjfmefkhglaaGreatP14
import Derived.BigQuiet
import Derived.Test.YtbogjfmefkhglaaGreatP4
import Derived.Test.YtbogjfmefkhglaaGreatP2
import Derived.Laws.BytesArg
import Derived.WalkSpells
import Derived.IntWalk
import Derived.WalkLawsBesides
import Derived.RangeFuncNested
import Derived.RangeFuncBound
import Derived.RangeFuncBox
import Derived.RangeFuncCalls
import Derived.RangeFuncLeaves
import Derived.Shelf.Abstract
import Derived.Shelf.RegionOpen
import Derived.WalkKit
import Derived.OwnWalkIn
import Derived.TacticsInMore
import Derived.LoopNIn
import Derived.LoopIn
import Derived.Maps.AppendAt
namespace Go.Proofs.YtbogjfmefkhglaaGreat
section
set_option linter.unusedSimpArgs false
set_option linter.unusedVariables false
open Go.RowKit Sha Nte
attribute [local go_sem ↓] execOp_loadInt execOp_loadBool execOp_loadBytes execOp_loadIds execOp_loadWords execOp_boxNote execOp_loadId execOp_loadCall execOp_loadBall execOp_eqId execOp_eqCall execOp_eqBall
set_option maxRecDepth 100000 in
set_option maxHeartbeats 40000000 in
theorem sameNote_any (x y : Not) (h k : NHd) (w : World) (hx : NGood w x h) (hy : NGood w y k) :
    Calls Tryz.prog 16 #[.agg (ncells x h).toArray, .agg (ncells y k).toArray] w fun e w' => e = .returned (.bool (decide (x = y))) ∧ Below w.heap.size w w' := by
  have HX := Lib.hid hx
  have HY := Lib.hid hy
  obtain ⟨z, hz⟩ : ∃ z, z = decide (x = y) := ⟨_, rfl⟩
  rw [← hz]
  rw [not_ext] at hz
  have HZ := Lib.hid hz
  clear hz hx hy
  obtain ⟨n1, hn1⟩ : ∃ n, n = x.X.length := ⟨_, rfl⟩
  obtain ⟨n2, hn2⟩ : ∃ n, n = x.I.length := ⟨_, rfl⟩
  obtain ⟨n3, hn3⟩ : ∃ n, n = x.W.length := ⟨_, rfl⟩
  obtain ⟨m1, hm1⟩ : ∃ n, n = y.X.length := ⟨_, rfl⟩
  obtain ⟨m2, hm2⟩ : ∃ n, n = y.I.length := ⟨_, rfl⟩
  obtain ⟨m3, hm3⟩ : ∃ n, n = y.W.length := ⟨_, rfl⟩
  have N1 := Lib.hid hn1
  have N2 := Lib.hid hn2
  have N3 := Lib.hid hn3
  have M1 := Lib.hid hm1
  have M2 := Lib.hid hm2
  have M3 := Lib.hid hm3
  clear hn1 hn2 hn3 hm1 hm2 hm3
  obtain ⟨b0, e0⟩ : ∃ b, (x.K == y.K) = b := ⟨_, rfl⟩
  obtain ⟨b1, e1⟩ : ∃ b, (x.F == y.F) = b := ⟨_, rfl⟩
  obtain ⟨b2, e2⟩ : ∃ b, (x.T == y.T) = b := ⟨_, rfl⟩
  obtain ⟨b3, e3⟩ : ∃ b, b = decide (x.C1 = y.C1 ∧ x.C2 = y.C2 ∧ x.C3 = y.C3) := ⟨_, rfl⟩
  obtain ⟨b4, e4⟩ : ∃ b, (x.S == y.S) = b := ⟨_, rfl⟩
  obtain ⟨b5, e5⟩ : ∃ b, (x.H == y.H) = b := ⟨_, rfl⟩
  obtain ⟨b6, e6⟩ : ∃ b, b = decide (x.B1 = y.B1 ∧ x.B2 = y.B2) := ⟨_, rfl⟩
  obtain ⟨b7, e7⟩ : ∃ b, b = decide (x.O1 = y.O1 ∧ x.O2 = y.O2) := ⟨_, rfl⟩
  obtain ⟨b8, e8⟩ : ∃ b, (x.Y == y.Y) = b := ⟨_, rfl⟩
  obtain ⟨b9, e9⟩ : ∃ b, b = decide (x.D = y.D) := ⟨_, rfl⟩
  obtain ⟨b10, e10⟩ : ∃ b, b = decide (x.X = y.X) := ⟨_, rfl⟩
  obtain ⟨b11, e11⟩ : ∃ b, b = decide (x.I = y.I) := ⟨_, rfl⟩
  obtain ⟨b12, e12⟩ : ∃ b, b = decide (x.W = y.W) := ⟨_, rfl⟩
  have HZ := Lib.hid (show z = (b0 && b1 && b2 && b3 && b4 && b5 && b6 && b7 && b8 && b9 && b10 && b11 && b12) from by rw [HZ.out, e0, e1, e2, ← e3, e4, e5, ← e6, ← e7, e8, ← e9, ← e10, ← e11, ← e12])
  have E10 := Lib.hid e10
  have E11 := Lib.hid e11
  have E12 := Lib.hid e12
  have E0 := Lib.hid e0
  have E1 := Lib.hid e1
  have E2 := Lib.hid e2
  have E3 := Lib.hid e3
  have E4 := Lib.hid e4
  have E5 := Lib.hid e5
  have E6 := Lib.hid e6
  have E7 := Lib.hid e7
  have E8 := Lib.hid e8
  have E9 := Lib.hid e9
  clear e0 e1 e2 e3 e4 e5 e6 e7 e8 e9 e10 e11 e12
  obtain ⟨g, w1, r1, hg1, hl1, K1, B1⟩ := box_note w x h
  obtain ⟨g2, w2, r2, hg2, hl2, K2, B2⟩ := box_note w1 y k
  have R1 := Lib.hid (K1.below B2 hl1).range
  have R2 := Lib.hid K2.range
  have P1 := Lib.hid (nblk_of R1.out HX.out.ok.len)
  have P2 := Lib.hid (nblk_of R2.out HY.out.ok.len)
  have HB2 := Lib.hid (B1.trans (B2.mono B1.size))
  clear K1 B1 K2 B2 hg1 hg2 hl1 hl2
  cases b0; rotate_left; cases b1; rotate_left; cases b2; rotate_left; cases b3; rotate_left; cases b4; rotate_left; cases b5; rotate_left; cases b6; rotate_left; cases b7; rotate_left; cases b8; rotate_left; cases b9; rotate_left; cases b10; rotate_left; cases b11; rotate_left; cases b12; rotate_left
  all_goals
    go_enter Tryz.func16, Tryz.ntmps16
    go_wp2_with fail
    clear r1 r2
    try (have a := P1.out.c0; have d := P2.out.c0; have e := E0.out; go_simp; go_wp2_with fail; clear a d e)
    try (have a := P1.out.c1; have d := P2.out.c1; have e := E1.out; go_simp; go_wp2_with fail; clear a d e)
    try (have a := P1.out.c2; have d := P2.out.c2; have e := E2.out; go_simp; go_wp2_with fail; clear a d e)
    try (have a := P1.out.c3; have d := P2.out.c3; have e := run_eqCall _ _ _ _ _ _ _ E3.out; go_simp; go_wp2_with fail; clear a d e)
    try (have a := P1.out.c6; have d := P2.out.c6; have e := E4.out; go_simp; go_wp2_with fail; clear a d e)
    try (have a := P1.out.c7; have d := P2.out.c7; have e := E5.out; go_simp; go_wp2_with fail; clear a d e)
    try (have a := P1.out.c8; have d := P2.out.c8; have e := run_eqBall _ _ _ _ _ E6.out; go_simp; go_wp2_with fail; clear a d e)
    try (have a := P1.out.c10; have d := P2.out.c10; have e := run_eqBall _ _ _ _ _ E7.out; go_simp; go_wp2_with fail; clear a d e)
    try (have a := P1.out.c12; have d := P2.out.c12; have e := E8.out; go_simp; go_wp2_with fail; clear a d e)
    try (have a := P1.out.c13; have d := P2.out.c13; have e := fun o1 o2 => run_eqId o1 o2 _ _ HX.out.ok.len HY.out.ok.len _ E9.out; go_simp; go_wp2_with fail; clear a d e)
    try (have a := P1.out.c45; have d := P2.out.c45; rw [← N1.out] at a; rw [← M1.out] at d; go_simp; go_wp2_with fail; refine (same_any x.X y.X n1 m1 h.q k.q h.c k.c w2 N1.out.symm M1.out.symm (HX.out.X.below HB2.out) (HY.out.X.below HB2.out) HX.out.ok.X HY.out.ok.X).mono ?_; rw [← E10.out]; rintro e w' ⟨rfl, rfl⟩; clear a d; go_wp2_with fail)
    try (have a := P1.out.c46; have d := P2.out.c46; rw [← N2.out] at a; rw [← M2.out] at d; go_simp; go_wp2_with fail; have g1 := HX.out.I.below HB2.out; have g3 := HY.out.I.below HB2.out; rw [← N2.out] at g1; rw [← M2.out] at g3; refine (sameIds_any x.I y.I n2 m2 h.r k.r h.d k.d w2 g1 g3).mono ?_; clear g1 g3; rw [← E11.out]; rintro e w3 ⟨rfl, hb⟩; have HB3 := Lib.hid (HB2.out.trans (hb.mono HB2.out.size)); have A47 := Lib.hid (nblk_of (rangeN_on R1.out hb) HX.out.ok.len).c47; have D47 := Lib.hid (nblk_of (rangeN_on R2.out hb) HY.out.ok.len).c47; clear a d hb; go_wp2_with fail)
    try (have a := A47.out; have d := D47.out; rw [← N3.out] at a; rw [← M3.out] at d; go_simp; go_wp2_with fail; have g1 := HX.out.W.below HB3.out; have g3 := HY.out.W.below HB3.out; rw [← N3.out] at g1; rw [← M3.out] at g3; refine (sameWords_any x.W y.W n3 m3 h.s k.s h.e k.e w3 g1 g3).mono ?_; clear g1 g3; rw [← E12.out]; rintro e w4 ⟨rfl, hb⟩; have HB4 := Lib.hid (HB3.out.trans (hb.mono HB3.out.size)); clear hb a d; go_wp2_with fail)
    go_ret
    first
      | exact ⟨by rw [HZ.out]; simp; done, HB4.out⟩
      | exact ⟨by rw [HZ.out]; simp; done, HB3.out⟩
      | exact ⟨by rw [HZ.out]; simp; done, HB2.out⟩
end
section
set_option linter.unusedSimpArgs false
set_option linter.unusedVariables false
open Go.RowKit Sha Nte
@[irreducible] def convR (v : Value) : Sem Next := do pure (.value (← convert 28 9 v))
section
variable (ρ : Operand → Value) (dst : Option Tmp) (ty r : TypeId) (pos : String) (after : Array Edge) (guard : Option (Nat × Bool)) (x y : Operand)
theorem execOp_convR : execOp ρ { dst := dst, op := .convert 28 9 x, type := ty, pos := pos, after := after, guard := guard } = convR (ρ x) := by unfold convR; rfl
theorem execOp_neIdQ : execOp ρ { dst := dst, op := .binOp .neq 27 x y r, type := ty, pos := pos, after := after, guard := guard } = neO 27 x y (ρ x) (ρ y) := by unfold neO; rfl
end
theorem run_convR (w : World) (xs : List Int) (n : Nat) (p : Option Addr) (c : Nat) (hn : xs.length = n) (hA : At w p (xs.map v8)) : (convR (.slice p n c)).run Tryz.prog w = .ok (.value (.string (strOfNums xs))) w := by
  unfold convR
  simp only [Sem.run_bind, run_conv_at (P := Tryz.prog) w 28 9 5 Tryz.underlying28 Tryz.underlying5 Tryz.underlying9 xs n p c hn hA, Result.andThen_ok, Sem.run_pure]
theorem run_neIdQ (x y : Operand) (xs ys : List Int) (hx : xs.length = 32) (hy : ys.length = 32) (b : Bool) (hb : b = !decide (xs = ys)) (w : World) : (neO 27 x y (.agg (xs.map v8).toArray) (.agg (ys.map v8).toArray)).run Tryz.prog w = .ok (.value (.bool b)) w := by
  have hr := run_neq_arr (P := Tryz.prog) w x y 27 5 32 .u8 Tryz.underlying27 Tryz.underlying5 kslice1 xs ys hx hy
  subst hb
  unfold neO
  simp only [Sem.run_bind, Sem.run_pure, Result.andThen_ok] at hr ⊢
  rw [hr]
  rfl
theorem run_neCallQ (a b c a' b' c' : Int) (e : Bool) (he : e = !decide (a = a' ∧ b = b' ∧ c = c')) (x y : Operand) (w : World) : (neO 23 x y (.agg #[nic a, nic b, nic c]) (.agg #[nic a', nic b', nic c'])).run Tryz.prog w = .ok (.value (.bool e)) w := by
  subst he
  have hd : (!decide (a = a' ∧ b = b' ∧ c = c')) = !(a == a' && b == b' && c == c') := by
    rw [Bool.eq_iff_iff]; simp [or_assoc]
  rw [hd]
  unfold neO
  by_cases h : a = a' <;> by_cases h2 : b = b' <;> by_cases h3 : c = c' <;> simp [go_sem, h, h2, h3]
theorem run_neBalQ (a b a' b' : Int) (e : Bool) (he : e = !decide (a = a' ∧ b = b')) (x y : Operand) (w : World) : (neO 25 x y (.agg #[nic a, nic b]) (.agg #[nic a', nic b'])).run Tryz.prog w = .ok (.value (.bool e)) w := by
  subst he
  have hd : (!decide (a = a' ∧ b = b')) = !(a == a' && b == b') := by
    rw [Bool.eq_iff_iff]; simp
  rw [hd]
  unfold neO
  by_cases h : a = a' <;> by_cases h2 : b = b' <;> simp [go_sem, h, h2]
theorem rw_same (x y : Not) : (!(!decide (x.K = y.K) || !decide (x.F = y.F) || !decide (x.T = y.T) || !decide (x.C1 = y.C1 ∧ x.C2 = y.C2 ∧ x.C3 = y.C3) || !decide (x.S = y.S) || !decide (x.H = y.H) || !decide (x.B1 = y.B1 ∧ x.B2 = y.B2) || !decide (x.O1 = y.O1 ∧ x.O2 = y.O2) || !decide (x.Y = y.Y) || !decide (x.D = y.D)) && (decide (x.X = y.X) && (decide (x.I = y.I) && decide (x.W = y.W)))) = decide (x = y) := by
  cases x; cases y
  rw [Bool.eq_iff_iff]
  simp [and_assoc]
section
attribute [local go_sem ↓] execOp_boxNote execOp_loadInt execOp_loadBool execOp_loadCall execOp_loadBall execOp_loadId execOp_loadBytes execOp_loadIds execOp_loadWords execOp_loadWord execOp_neCallR execOp_neBalR execOp_neIdQ execOp_neWord execOp_convR
set_option maxRecDepth 100000 in
set_option maxHeartbeats 20000000 in
theorem rsame_any (x y : Not) (h k : NHd) (w : World) (hx : NGood w x h) (hy : NGood w y k) :
    Calls Tryz.prog 14 #[.agg (ncells x h).toArray, .agg (ncells y k).toArray] w fun e w' => e = .returned (.bool (decide (x = y))) ∧ Below w.heap.size w w' := by
  have HX := Lib.hid hx
  have HY := Lib.hid hy
  obtain ⟨z, hz⟩ : ∃ z, z = decide (x = y) := ⟨_, rfl⟩
  rw [← hz]
  rw [← rw_same] at hz
  obtain ⟨g, w1, r1, hg1, hl1, K1, B1⟩ := box_note w x h
  obtain ⟨g2, w2, r2, hg2, hl2, K2, B2⟩ := box_note w1 y k
  have R1 := Lib.hid (K1.below B2 hl1).range
  have R2 := Lib.hid K2.range
  have P1 := Lib.hid (nblk_of R1.out HX.out.ok.len)
  have P2 := Lib.hid (nblk_of R2.out HY.out.ok.len)
  have HB2 := Lib.hid (B1.trans (B2.mono B1.size))
  clear K1 B1 K2 B2 hg1 hg2 hl1 hl2 hx hy
  obtain ⟨b0, eb0⟩ : ∃ b, b = !decide (x.K = y.K) := ⟨_, rfl⟩
  obtain ⟨b1, eb1⟩ : ∃ b, b = !decide (x.F = y.F) := ⟨_, rfl⟩
  obtain ⟨b2, eb2⟩ : ∃ b, b = !decide (x.T = y.T) := ⟨_, rfl⟩
  obtain ⟨b3, eb3⟩ : ∃ b, b = !decide (x.C1 = y.C1 ∧ x.C2 = y.C2 ∧ x.C3 = y.C3) := ⟨_, rfl⟩
  obtain ⟨b4, eb4⟩ : ∃ b, b = !decide (x.S = y.S) := ⟨_, rfl⟩
  obtain ⟨b5, eb5⟩ : ∃ b, b = !decide (x.H = y.H) := ⟨_, rfl⟩
  obtain ⟨b6, eb6⟩ : ∃ b, b = !decide (x.B1 = y.B1 ∧ x.B2 = y.B2) := ⟨_, rfl⟩
  obtain ⟨b7, eb7⟩ : ∃ b, b = !decide (x.O1 = y.O1 ∧ x.O2 = y.O2) := ⟨_, rfl⟩
  obtain ⟨b8, eb8⟩ : ∃ b, b = !decide (x.Y = y.Y) := ⟨_, rfl⟩
  obtain ⟨b9, eb9⟩ : ∃ b, b = !decide (x.D = y.D) := ⟨_, rfl⟩
  obtain ⟨bX, ebX⟩ : ∃ b, b = decide (x.X = y.X) := ⟨_, rfl⟩
  obtain ⟨bI, ebI⟩ : ∃ b, b = decide (x.I = y.I) := ⟨_, rfl⟩
  obtain ⟨bW, ebW⟩ : ∃ b, b = decide (x.W = y.W) := ⟨_, rfl⟩
  rw [← eb0, ← eb1, ← eb2, ← eb3, ← eb4, ← eb5, ← eb6, ← eb7, ← eb8, ← eb9, ← ebX, ← ebI, ← ebW] at hz
  have HZ := Lib.hid hz.symm
  have f0 : (x.K != y.K) = b0 := by rw [eb0]; rfl
  have f1 : (x.F != y.F) = b1 := by rw [eb1]; rfl
  have f2 : (x.T != y.T) = b2 := by rw [eb2]; rfl
  have f3 := run_neCallQ _ _ _ _ _ _ _ eb3
  have f4 : (x.S != y.S) = b4 := by rw [eb4]; rfl
  have f5 : (x.H != y.H) = b5 := by rw [eb5]; rfl
  have f6 := run_neBalQ _ _ _ _ _ eb6
  have f7 := run_neBalQ _ _ _ _ _ eb7
  have f8 : (x.Y != y.Y) = b8 := by rw [eb8]; cases x.Y <;> cases y.Y <;> rfl
  have f9 := fun o1 o2 => run_neIdQ o1 o2 _ _ HX.out.ok.len HY.out.ok.len _ eb9
  have EX := Lib.hid ebX
  have EI := Lib.hid ebI
  have EW := Lib.hid ebW
  obtain ⟨n1, hn1⟩ : ∃ n, n = x.X.length := ⟨_, rfl⟩
  obtain ⟨n2, hn2⟩ : ∃ n, n = x.I.length := ⟨_, rfl⟩
  obtain ⟨n3, hn3⟩ : ∃ n, n = x.W.length := ⟨_, rfl⟩
  obtain ⟨m1, hm1⟩ : ∃ n, n = y.X.length := ⟨_, rfl⟩
  obtain ⟨m2, hm2⟩ : ∃ n, n = y.I.length := ⟨_, rfl⟩
  obtain ⟨m3, hm3⟩ : ∃ n, n = y.W.length := ⟨_, rfl⟩
  have N1 := Lib.hid hn1
  have N2 := Lib.hid hn2
  have N3 := Lib.hid hn3
  have M1 := Lib.hid hm1
  have M2 := Lib.hid hm2
  have M3 := Lib.hid hm3
  obtain ⟨sx, hsx⟩ : ∃ s, s = strOfNums x.X := ⟨_, rfl⟩
  obtain ⟨sy, hsy⟩ : ∃ s, s = strOfNums y.X := ⟨_, rfl⟩
  have cx := run_convR w2 x.X n1 h.q h.c hn1.symm (HX.out.X.below HB2.out)
  have cy := run_convR w2 y.X m1 k.q k.c hm1.symm (HY.out.X.below HB2.out)
  rw [← hsx] at cx
  rw [← hsy] at cy
  have hst : (sx.toList == sy.toList) = bX := by rw [hsx, hsy, ebX]; exact strOfNums_inj _ _ HX.out.ok.X HY.out.ok.X
  have hsn : (sx.toList != sy.toList) = !bX := by rw [← hst]; rfl
  have hn2l : (n2 : Int) ≤ 9223372036854775807 := by have := HX.out.I.len; have := HX.out.I.max; have := HX.out.I.le; omega
  clear hz ebX ebI ebW hn1 hn2 hn3 hm1 hm2 hm3 hsx hsy eb0 eb1 eb2 eb3 eb4 eb5 eb6 eb7 eb8 eb9
  go_enter Tryz.func14, Tryz.ntmps14
  go_upto_region 1 with (fail)
  clear r1 r2
  go_cut [74] from 7 to 74 (fun s wx => ∃ v, s = .bool v ∧ Hid (v = (b0 || b1 || b2 || b3 || b4 || b5 || b6 || b7 || b8 || b9)) ∧ w2 = wx)
  case first =>
    clear HZ cx cy hst hsn hn2l
    have p0 := P1.out.c0
    have q0 := P2.out.c0
    have p1 := P1.out.c1
    have q1 := P2.out.c1
    have p2 := P1.out.c2
    have q2 := P2.out.c2
    have p3 := P1.out.c3
    have q3 := P2.out.c3
    have p4 := P1.out.c6
    have q4 := P2.out.c6
    have p5 := P1.out.c7
    have q5 := P2.out.c7
    have p6 := P1.out.c8
    have q6 := P2.out.c8
    have p7 := P1.out.c10
    have q7 := P2.out.c10
    have p8 := P1.out.c12
    have q8 := P2.out.c12
    have p9 := P1.out.c13
    have q9 := P2.out.c13
    clear HX HY R1 R2 P1 P2 HB2 EX EI EW N1 N2 N3 M1 M2 M3
    cases b0 with
    | true =>
      clear p1 q1 f1 p2 q2 f2 p3 q3 f3 p4 q4 f4 p5 q5 f5 p6 q6 f6 p7 q7 f7 p8 q8 f8 p9 q9 f9
      go_wp2_with fail
      go_meet
      case rel => exact ⟨_, rfl, Lib.hid rfl, by first | rfl | trivial⟩
    | false =>
      cases b1 with
      | true =>
        clear p2 q2 f2 p3 q3 f3 p4 q4 f4 p5 q5 f5 p6 q6 f6 p7 q7 f7 p8 q8 f8 p9 q9 f9
        go_wp2_with fail
        go_meet
        case rel => exact ⟨_, rfl, Lib.hid rfl, by first | rfl | trivial⟩
      | false =>
        cases b2 with
        | true =>
          clear p3 q3 f3 p4 q4 f4 p5 q5 f5 p6 q6 f6 p7 q7 f7 p8 q8 f8 p9 q9 f9
          go_wp2_with fail
          go_meet
          case rel => exact ⟨_, rfl, Lib.hid rfl, by first | rfl | trivial⟩
        | false =>
          cases b3 with
          | true =>
            clear p4 q4 f4 p5 q5 f5 p6 q6 f6 p7 q7 f7 p8 q8 f8 p9 q9 f9
            go_wp2_with fail
            go_meet
            case rel => exact ⟨_, rfl, Lib.hid rfl, by first | rfl | trivial⟩
          | false =>
            cases b4 with
            | true =>
              clear p5 q5 f5 p6 q6 f6 p7 q7 f7 p8 q8 f8 p9 q9 f9
              go_wp2_with fail
              go_meet
              case rel => exact ⟨_, rfl, Lib.hid rfl, by first | rfl | trivial⟩
            | false =>
              cases b5 with
              | true =>
                clear p6 q6 f6 p7 q7 f7 p8 q8 f8 p9 q9 f9
                go_wp2_with fail
                go_meet
                case rel => exact ⟨_, rfl, Lib.hid rfl, by first | rfl | trivial⟩
              | false =>
                cases b6 with
                | true =>
                  clear p7 q7 f7 p8 q8 f8 p9 q9 f9
                  go_wp2_with fail
                  go_meet
                  case rel => exact ⟨_, rfl, Lib.hid rfl, by first | rfl | trivial⟩
                | false =>
                  cases b7 with
                  | true =>
                    clear p8 q8 f8 p9 q9 f9
                    go_wp2_with fail
                    go_meet
                    case rel => exact ⟨_, rfl, Lib.hid rfl, by first | rfl | trivial⟩
                  | false =>
                    cases b8 with
                    | true =>
                      clear p9 q9 f9
                      have h8 : (x.Y = true ∧ y.Y = false) ∨ (x.Y = false ∧ y.Y = true) := by revert f8; cases x.Y <;> cases y.Y <;> simp
                      clear f8
                      rcases h8 with ⟨ha, hb⟩ | ⟨ha, hb⟩
                      · rw [ha] at p8; rw [hb] at q8; clear ha hb; go_wp2_with fail; go_meet; case rel => exact ⟨_, rfl, Lib.hid rfl, by first | rfl | trivial⟩
                      · rw [ha] at p8; rw [hb] at q8; clear ha hb; go_wp2_with fail; go_meet; case rel => exact ⟨_, rfl, Lib.hid rfl, by first | rfl | trivial⟩
                    | false =>
                      have h8 : x.Y = y.Y := by revert f8; cases x.Y <;> cases y.Y <;> simp
                      rw [h8] at p8
                      clear f8 h8
                      cases b9 with
                      | true =>
                        skip
                        go_wp2_with fail
                        go_meet
                        case rel => exact ⟨_, rfl, Lib.hid rfl, by first | rfl | trivial⟩
                      | false =>
                        go_wp2_with fail
                        go_meet
                        case rel => exact ⟨_, rfl, Lib.hid rfl, by first | rfl | trivial⟩
  case rest =>
    obtain ⟨v, rfl, HV1, rfl⟩ := hcut
    rw [← HV1.out] at HZ
    clear HV1 f0 f1 f2 f3 f4 f5 f6 f7 f8 f9
    cases v with
    | true =>
      go_wp2_with fail
      go_ret
      exact ⟨by rw [← HZ.out]; rfl, HB2.out⟩
    | false =>
      have p1 := P1.out.c45
      have p2 := P1.out.c46
      have p3 := P1.out.c47
      have q1 := P2.out.c45
      have q2 := P2.out.c46
      have q3 := P2.out.c47
      rw [← N1.out] at p1
      rw [← N2.out] at p2
      rw [← N3.out] at p3
      rw [← M1.out] at q1
      rw [← M2.out] at q2
      rw [← M3.out] at q3
      obtain ⟨zI, hzI⟩ : ∃ b, b = ((n2 : Int) != (m2 : Int)) := ⟨_, rfl⟩
      obtain ⟨zW, hzW⟩ : ∃ b, b = ((n3 : Int) != (m3 : Int)) := ⟨_, rfl⟩
      have HZI := Lib.hid hzI
      have HZW := Lib.hid hzW
      have tI := hzI.symm
      have tW := hzW.symm
      clear hzI hzW
      go_upto_region 3 with (fail)
      go_cut [99] from 75 to 99 (fun s wx => ∃ v, s = .bool v ∧ Hid (v = (!bX || zI || zW)) ∧ w2 = wx)
      case first =>
        clear HZ
        cases bX with
        | false =>
          clear p2 q2 p3 q3 tI tW
          go_wp2_with fail
          go_meet
          case rel => exact ⟨_, rfl, Lib.hid rfl, by first | rfl | trivial⟩
        | true =>
          cases zI with
          | true =>
            clear p3 q3 tW
            go_wp2_with fail
            go_meet
            case rel => exact ⟨_, rfl, Lib.hid rfl, by first | rfl | trivial⟩
          | false =>
            go_wp2_with fail
            go_meet
            case rel => exact ⟨_, rfl, Lib.hid rfl, by first | rfl | trivial⟩
      case rest =>
        obtain ⟨v, rfl, HV2, rfl⟩ := hcut
        clear p1 q1 cx cy hst hsn tI tW p3 q3 p2 q2
        cases v with
        | true =>
          have HN := Lib.hid (show z = false from by
            have h2 := HV2.out
            rw [← HZ.out]
            cases hb : bX with
            | false => simp
            | true =>
              rw [hb] at h2
              cases hi : zI with
              | true =>
                have : bI = false := by rw [EI.out]; exact decide_eq_false (fun e => by have a := HZI.out; rw [hi, N2.out, M2.out, e] at a; simp at a)
                simp [this]
              | false =>
                have hw : zW = true := by rw [hi] at h2; simpa using h2.symm
                have : bW = false := by rw [EW.out]; exact decide_eq_false (fun e => by have a := HZW.out; rw [hw, N3.out, M3.out, e] at a; simp at a)
                simp [this])
          clear HZ HV2
          go_wp2_with fail
          go_ret
          exact ⟨by rw [HN.out]; rfl, HB2.out⟩
        | false =>
          have hb : bX = true ∧ zI = false ∧ zW = false := by
            have h2 := HV2.out
            cases bX <;> cases zI <;> cases zW <;> simp at h2 ⊢
          obtain ⟨rfl, rfl, rfl⟩ := hb
          have hnm : n2 = m2 := by have a := HZI.out; simp at a; omega
          have hnm3 : n3 = m3 := by have a := HZW.out; simp at a; omega
          subst hnm hnm3
          have HZ2 := Lib.hid (show (bI && bW) = z from by rw [← HZ.out]; rfl)
          clear HZ HV2 HZI HZW
          have HL := Lib.hid HX.out.I
          have HR := Lib.hid HY.out.I
          have HLw := Lib.hid HX.out.W
          have HRw := Lib.hid HY.out.W
          rw [← N2.out] at HL
          rw [← M2.out] at HR
          rw [← N3.out] at HLw
          rw [← M3.out] at HRw
          have b1 := HL.out.le
          have b2 := HL.out.max
          have b3 := HR.out.le
          have b4 := HR.out.max
          have b5 := HLw.out.le
          have b6 := HLw.out.max
          have b7 := HRw.out.le
          have b8 := HRw.out.max
          have G1 := Lib.hid (fun (W : World) (hb : Below w2.heap.size w2 W) => nblk_of (rangeN_on R1.out hb) HX.out.ok.len)
          have G2 := Lib.hid (fun (W : World) (hb : Below w2.heap.size w2 W) => nblk_of (rangeN_on R2.out hb) HY.out.ok.len)
          obtain ⟨xs, hxs⟩ : ∃ l, l = x.I := ⟨_, rfl⟩
          obtain ⟨ys, hys⟩ : ∃ l, l = y.I := ⟨_, rfl⟩
          obtain ⟨xw, hxw⟩ : ∃ l, l = x.W := ⟨_, rfl⟩
          obtain ⟨yw, hyw⟩ : ∃ l, l = y.W := ⟨_, rfl⟩
          rw [← hxs] at HL EI N2
          rw [← hys] at HR EI M2
          rw [← hxw] at HLw EW N3
          rw [← hyw] at HRw EW M3
          have QX := Lib.hid hxs
          have QY := Lib.hid hys
          have QXW := Lib.hid hxw
          have QYW := Lib.hid hyw
          have E46 := Lib.hid (fun (W : World) (hb : Below w2.heap.size w2 W) => (show (loadOp 29 (.pointer (some ⟨g, 46, none⟩))).run Tryz.prog W = .ok (.value (.slice h.r n2 h.d)) W from by rw [N2.out, QX.out]; exact (G1.out W hb).c46))
          have F46 := Lib.hid (fun (W : World) (hb : Below w2.heap.size w2 W) => (show (loadOp 29 (.pointer (some ⟨g2, 46, none⟩))).run Tryz.prog W = .ok (.value (.slice k.r n2 k.d)) W from by rw [M2.out, QY.out]; exact (G2.out W hb).c46))
          have E47 := Lib.hid (fun (W : World) (hb : Below w2.heap.size w2 W) => (show (loadOp 30 (.pointer (some ⟨g, 47, none⟩))).run Tryz.prog W = .ok (.value (.slice h.s n3 h.e)) W from by rw [N3.out, QXW.out]; exact (G1.out W hb).c47))
          have F47 := Lib.hid (fun (W : World) (hb : Below w2.heap.size w2 W) => (show (loadOp 30 (.pointer (some ⟨g2, 47, none⟩))).run Tryz.prog W = .ok (.value (.slice k.s n3 k.e)) W from by rw [M3.out, QYW.out]; exact (G2.out W hb).c47))
          clear hxs hys hxw hyw R1 R2 P1 P2 G1 G2 QX QY QXW QYW HX HY hn2l
          go_wp2_with fail
          go_loopw [5] (fun i wr => ∃ j : Nat, i = .int .i64 j ∧ j ≤ n2 ∧ Hid (xs.take j = ys.take j) ∧ Hid (Below w2.heap.size w2 wr)) (fun i _ => n2 - (intOf i).toNat)
          case atStart => exact ⟨0, by rfl, by omega, Lib.hid rfl, Lib.hid (Below.refl _ _)⟩
          case round =>
            obtain ⟨j, rfl, hj, HT, HB⟩ := hrel
            by_cases hlt : j < n2
            · have hk1 : j < xs.length := by rw [← N2.out]; exact hlt
              have hk2 : j < ys.length := by rw [← M2.out]; exact hlt
              obtain ⟨b, off, q1, c1, ha1, hr1, hg1⟩ := HL.out.rows.get j hk1
              obtain ⟨b', off', q2, c2, ha2, hr2, hg2⟩ := HR.out.rows.get j hk2
              have hr1 : w.rangeAt b (off + j * 32) (xs[j].map v8) := hr1
              have hr2 : w.rangeAt b' (off' + j * 32) (ys[j].map v8) := hr2
              have jk : (0 : Int) ≤ (j : Int) ∧ (j : Int) < (n2 : Int) := by omega
              have s0 := E46.out wr HB.out
              obtain ⟨I, W, hC⟩ := cls_of wr
              have hne : Nonempty I := hC.ne
              have BW := Lib.hid (fun i => HB.out.trans ((hC.back i).mono HB.out.size))
              have BWw := Lib.hid (fun i => HB2.out.trans ((BW.out i).mono HB2.out.size))
              have s1 := fun i => E46.out (W i) (BW.out i)
              have s2 := fun i => F46.out (W i) (BW.out i)
              have m1 := fun i => load_idr hg1.ok.2 (rangeN_on hr1 (BWw.out i))
              have m2 := fun i => load_idr hg2.ok.2 (rangeN_on hr2 (BWw.out i))
              have e1 := hg1.ok.2
              have e2 := hg2.ok.2
              rw [ha1] at s1
              rw [ha2] at s2
              have HC := Lib.hid hC
              have HS := Lib.hid (take_next xs ys j hk1 hk2 HT.out)
              have HNE := Lib.hid (show xs[j] ≠ ys[j] → xs ≠ ys from fun h e => h (by simp [e]))
              generalize xs[j] = p at *
              generalize ys[j] = q at *
              clear hC hr1 hr2 hk1 hk2 HT hg1 hg2
              by_cases hxy : p = q
              · have HT2 := Lib.hid (HS.out.2 hxy)
                have HQ := fun o1 o2 => run_neIdQ o1 o2 p q e1 e2 false (by simp [hxy])
                clear hxy HS HNE e1 e2
                go_wp2_with fail
                refine wp_region_cls W (by kernel_rfl) (by kernel_rfl) HC.out.one ?_
                repeat go_big_quiet_step (fail)
                refine wpQuiet_nil ?_
                rintro _ ⟨mm, rfl⟩
                have B2 := Lib.hid (BW.out mm)
                clear m1 m2 s0 s1 s2 HQ HC BW BWw
                generalize W mm = wv at *
                go_wp2_with fail
                go_roundw
                case rel => exact ⟨j + 1, by go_num, by omega, HT2, B2⟩
                case measure => simp [intOf]; omega
              · have HV := Lib.hid (decide_eq_false (HNE.out hxy))
                have HQ := fun o1 o2 => run_neIdQ o1 o2 p q e1 e2 true (by simp [hxy])
                clear hxy HS HNE e1 e2
                go_wp2_with fail
                refine wp_region_cls W (by kernel_rfl) (by kernel_rfl) HC.out.one ?_
                repeat go_big_quiet_step (fail)
                refine wpQuiet_nil ?_
                rintro _ ⟨mm, rfl⟩
                have B2 := Lib.hid (BWw.out mm)
                clear m1 m2 s0 s1 s2 HQ HC BW BWw
                generalize W mm = wv at *
                go_wp2_with fail
                try rw [Exit.noGoto_ret]
                go_ret
                exact ⟨by rw [← HZ2.out, EI.out, HV.out]; simp, B2.out⟩
            · obtain rfl : n2 = j := by omega
              have HV := Lib.hid (show bI = true from by
                rw [EI.out]
                refine decide_eq_true ?_
                have := HT.out
                rwa [List.take_of_length_le (by rw [← N2.out]; exact Nat.le_refl _), List.take_of_length_le (by rw [← M2.out]; exact Nat.le_refl _)] at this)
              clear HT
              have s0 := E46.out wr HB.out
              have HI := HV
              have HBW := HB
              clear HV HL HR E46 F46 HB EI
              go_wp2_with fail
              clear s0
              go_loopw [6] (fun i wr => ∃ j : Nat, i = .int .i64 j ∧ j ≤ n3 ∧ Hid (xw.take j = yw.take j) ∧ Hid (Below w2.heap.size w2 wr)) (fun i _ => n3 - (intOf i).toNat)
              case atStart => exact ⟨0, by rfl, by omega, Lib.hid rfl, HBW⟩
              case round =>
                obtain ⟨j, rfl, hj, HT, HB⟩ := hrel
                by_cases hlt : j < n3
                · have hk1 : j < xw.length := by rw [← N3.out]; exact hlt
                  have hk2 : j < yw.length := by rw [← M3.out]; exact hlt
                  obtain ⟨b, off, q1, c1, ha1, hr1, hg1⟩ := HLw.out.rows.get j hk1
                  obtain ⟨b', off', q2, c2, ha2, hr2, hg2⟩ := HRw.out.rows.get j hk2
                  have hr1 : w.rangeAt b (off + j * 3) (nmc xw[j]) := hr1
                  have hr2 : w.rangeAt b' (off' + j * 3) (nmc yw[j]) := hr2
                  have jk : (0 : Int) ≤ (j : Int) ∧ (j : Int) < (n3 : Int) := by omega
                  have s0 := E47.out wr HB.out
                  obtain ⟨I, W, hC⟩ := cls_of wr
                  have hne : Nonempty I := hC.ne
                  have BW := Lib.hid (fun i => HB.out.trans ((hC.back i).mono HB.out.size))
                  have BWw := Lib.hid (fun i => HB2.out.trans ((BW.out i).mono HB2.out.size))
                  have s1 := fun i => E47.out (W i) (BW.out i)
                  have s2 := fun i => F47.out (W i) (BW.out i)
                  have m1 := fun i => load_word (rangeN_on hr1 (BWw.out i))
                  have m2 := fun i => load_word (rangeN_on hr2 (BWw.out i))
                  rw [ha1] at s1
                  rw [ha2] at s2
                  have HC := Lib.hid hC
                  have HS := Lib.hid (take_next xw yw j hk1 hk2 HT.out)
                  have HNE := Lib.hid (show xw[j] ≠ yw[j] → xw ≠ yw from fun h e => h (by simp [e]))
                  generalize xw[j] = p at *
                  generalize yw[j] = q at *
                  clear hC hr1 hr2 hk1 hk2 HT hg1 hg2
                  by_cases hxy : p = q
                  · have HT2 := Lib.hid (HS.out.2 hxy)
                    have HQ := run_neWord p q false (by simp [hxy])
                    clear hxy HS HNE
                    go_wp2_with fail
                    refine wp_region_cls W (by kernel_rfl) (by kernel_rfl) HC.out.one ?_
                    repeat go_big_quiet_step (fail)
                    refine wpQuiet_nil ?_
                    rintro _ ⟨mm, rfl⟩
                    have B2 := Lib.hid (BW.out mm)
                    clear m1 m2 s0 s1 s2 HQ HC BW BWw
                    generalize W mm = wv at *
                    go_wp2_with fail
                    go_roundw
                    case rel => exact ⟨j + 1, by go_num, by omega, HT2, B2⟩
                    case measure => simp [intOf]; omega
                  · have HV := Lib.hid (decide_eq_false (HNE.out hxy))
                    have HQ := run_neWord p q true (by simp [hxy])
                    clear hxy HS HNE
                    go_wp2_with fail
                    refine wp_region_cls W (by kernel_rfl) (by kernel_rfl) HC.out.one ?_
                    repeat go_big_quiet_step (fail)
                    refine wpQuiet_nil ?_
                    rintro _ ⟨mm, rfl⟩
                    have B2 := Lib.hid (BWw.out mm)
                    clear m1 m2 s0 s1 s2 HQ HC BW BWw
                    generalize W mm = wv at *
                    go_wp2_with fail
                    try rw [Exit.noGoto_ret]
                    go_ret
                    exact ⟨by rw [← HZ2.out, EW.out, HV.out]; simp, B2.out⟩
                · obtain rfl : n3 = j := by omega
                  have HV := Lib.hid (show bW = true from by
                    rw [EW.out]
                    refine decide_eq_true ?_
                    have := HT.out
                    rwa [List.take_of_length_le (by rw [← N3.out]; exact Nat.le_refl _), List.take_of_length_le (by rw [← M3.out]; exact Nat.le_refl _)] at this)
                  clear HT
                  have s0 := E47.out wr HB.out
                  go_wp2_with fail
                  go_ret
                  exact ⟨by rw [← HZ2.out, HI.out, HV.out]; rfl, HB2.out.trans (HB.out.mono HB2.out.size)⟩
end
end
section
set_option linter.unusedSimpArgs false
set_option linter.unusedVariables false
open Go.RowKit Sha
/-- Bytes of the call's own, whatever they are. -/
def W8 (w : World) (B : Nat) (v : Value) (n : Nat) : Prop := ∃ xs, Own8 w B 5 v n xs
end
section
set_option linter.unusedSimpArgs false
set_option linter.unusedVariables false
open Go.RowKit Sha
/-- An append as a step of a region that draws its order, inside a fence: its plain law serves. -/
theorem stepIn_append {F : Fence} {m : Nat} {P : Program} {ops : Array Oper} {o : Oper} {a : Act} {w : World} {Q : Exit → Act → World → Prop} {K : Act → World → Prop} {E' : Prop}
    (hgd : o.guard = none) (s x : Operand) (t : TypeId) (ho : o.op = .call { callee := .builtin .append, args := #[s, x], argTypes := #[t, t] })
    (h : if Region.wanted o (yielded ops a.tmps) = true then Oper.wp P o a w K Q else True) : if Region.wanted o (yielded ops a.tmps) = true then Oper.wpIn F m P o a w K Q else E' := by
  have hw : Region.wanted o (yielded ops a.tmps) = true := by simp [Region.wanted, hgd]
  rw [if_pos hw] at h ⊢
  unfold Oper.wpIn
  refine ⟨by simp [Oper.about, ho, resolve, Target.leads, Sem.run_pure], ?_⟩
  rw [Oper.semAt_plain F _ _ (by rw [ho]; intro c hc'; cases hc')]
  unfold Oper.wp at h
  simp only [execOp, ho, resolve, invoke, builtin, Sem.run_bind, Sem.run_pure, Result.andThen_ok] at h ⊢
  generalize hr : (Builtin.append_ _ _ _).run P w = r at h ⊢
  cases r with
  | ok v w' => exact h
  | halt x w' => cases x <;> exact h
/-- What a round keeps: what lay below n₀, and one block besides (the iterator's captured variable). -/
def KpB (n₀ Bn : Nat) (A B : World) : Prop := Below n₀ A B ∧ B.heap[Bn]? = A.heap[Bn]?
theorem KpB.refl (n₀ Bn : Nat) (A : World) : KpB n₀ Bn A A := ⟨Below.refl _ _, rfl⟩
theorem KpB.trans {n₀ Bn : Nat} {A B C : World} (h : KpB n₀ Bn A B) (k : KpB n₀ Bn B C) : KpB n₀ Bn A C := ⟨h.1.trans k.1, k.2.trans h.2⟩
theorem kpB_t {n₀ Bn : Nat} {A B C : World} (h : KpB n₀ Bn A B) (k : KpB n₀ Bn B C) : KpB n₀ Bn A C := h.trans k
theorem kpB_b {n₀ Bn : Nat} {w : World} (hn : n₀ ≤ w.heap.size) (hb : Bn < w.heap.size) (W : World) (l : Nat) (o o' : Obj) (hl : w.heap.size ≤ l) (h : W.heap[l]? = some o) (h1 : o.isCells = false) (h2 : o.isWalk = false) : KpB n₀ Bn W (W.putObj l o') :=
  ⟨belowK_b hn W l o o' hl h h1 h2, World.putObj_heap_other (fun e => by omega)⟩
theorem grownBy_drewN (W : World) (m : Nat) : W.grownBy (W.drewN m) none := by
  have h := below_drewN (Below.refl W.heap.size W) m
  exact ⟨h.os, h.tape, h.output, h.size, fun k hk _ => h.block k hk⟩
theorem keepsOthers_drewN (W : World) (m : Nat) : KeepsOthers W (W.drewN m) := KeepsOthers.of_grownBy (grownBy_drewN W m) (fun j o e => by cases e)
end
section
set_option linter.unusedSimpArgs false
set_option linter.unusedVariables false
open Go.RowKit Sha
set_option maxHeartbeats 400000 in
theorem fsize_any (n : Int) (w : World) (h : -9223372036854775808 ≤ n ∧ n ≤ 9223372036854775807) :
    Calls Tryz.prog 66 #[.int .i64 n] w fun e w' => e = .returned (.int .i64 (fsize n)) ∧ w = w' := by
  obtain ⟨h0, h9⟩ := h
  have HS := Lib.hid (show fsize n = if n < 1 ∨ 4000 < n then 0 else 8 + n from rfl)
  by_cases h1 : n < 1
  · go_enter Tryz.func66, Tryz.ntmps66
    go_wp2_with fail
    go_ret
    exact ⟨ret_int (by rw [HS.out, if_pos (.inl h1)]), rfl⟩
  · by_cases h2 : 4000 < n
    · go_enter Tryz.func66, Tryz.ntmps66
      go_wp2_with fail
      go_ret
      exact ⟨ret_int (by rw [HS.out, if_pos (.inr h2)]), rfl⟩
    · go_enter Tryz.func66, Tryz.ntmps66
      go_wp2_with fail
      go_ret
      exact ⟨ret_int (by rw [HS.out, if_neg (by omega)]), rfl⟩
/-- A block's cells while four bytes are laid into it. -/
def layTo (cs : List Value) (off n : Nat) : Nat → List Value
  | 0 => cs
  | k + 1 => (layTo cs off n k).set (off + k) (v8 ((n / 256 ^ k % 256 : Nat) : Int))
theorem layTo_length (cs : List Value) (off n k : Nat) : (layTo cs off n k).length = cs.length := by
  induction k with
  | zero => rfl
  | succ k ih => simp [layTo, ih]
theorem layTo_step (cs : List Value) (off n k : Nat) (x : Int) (hx : x = ((n / 256 ^ k % 256 : Nat) : Int)) : (layTo cs off n k).set (off + k) (.int .u8 x) = layTo cs off n (k + 1) := by rw [hx]; rfl
def LayDone (B g : Nat) (cs : List Value) (t : TypeId) (w : World) (e : Ending) (w' : World) : Prop := e = .returned (.tuple #[]) ∧ Blk w' g cs t ∧ Below B w w'
set_option maxRecDepth 100000 in
set_option maxHeartbeats 1000000 in
theorem lay_any (B g off cap : Nat) (cs : List Value) (t : TypeId) (n : Nat) (hn : n < 4294967296) (w : World) (hB : B ≤ g) (hb : Blk w g cs t) (hl : off + 4 ≤ cs.length) :
    Calls Tryz.prog 84 #[.slice (some ⟨g, off, none⟩) 4 cap, .int .u32 n] w (LayDone B g (layTo cs off n 4) t w) := by
  have HB := Lib.hid hb
  clear hb
  go_enter Tryz.func84, Tryz.ntmps84
  go_wp2_with fail
  go_loopw [4, 7] (fun _ i wr => ∃ k : Nat, k ≤ 4 ∧ i = .int .i64 k ∧ Hid (Blk wr g (layTo cs off n k) t) ∧ Hid (Below B w wr)) (fun _ i _ => 4 - (intOf i).toNat)
  case atStart => exact ⟨0, by omega, rfl, HB, Lib.hid (Below.refl _ _)⟩
  case round =>
    obtain ⟨k, hk, rfl, HK, HW⟩ := hrel
    by_cases hlt : k < 4
    · have hkl : off + k < (layTo cs off n k).length := by rw [layTo_length]; omega
      have ck : wr.cell? ⟨g, off + k, none⟩ = some ((layTo cs off n k)[off + k]) := by rw [HK.out.cell, List.getElem?_eq_getElem hkl]
      have cf : wr.frozen? ⟨g, off + k, none⟩ = false := HK.out.free _
      have HSET := Lib.hid (fun (x : Int) (hx : x = ((n / 256 ^ k % 256 : Nat) : Int)) => show Blk (wr.setCell ⟨g, off + k, none⟩ (.int .u8 x)) g (layTo cs off n (k + 1)) t ∧ Below B w (wr.setCell ⟨g, off + k, none⟩ (.int .u8 x)) from
        ⟨by rw [← layTo_step cs off n k x hx]; exact HK.out.set _ _, HW.out.setCell (by simp; omega) _⟩)
      generalize (layTo cs off n k)[off + k] = old at ck
      clear hkl
      have hk4 : k = 0 ∨ k = 1 ∨ k = 2 ∨ k = 3 := by omega
      rcases hk4 with rfl | rfl | rfl | rfl
      · rw [Nat.add_zero] at ck cf HSET
        have HS := Lib.hid (HSET.out ((n : Int) % 256) (by omega))
        clear HSET
        go_wp2_with fail
        go_roundw
        case rel => exact ⟨1, by omega, rfl, HS.out⟩
        case measure => simp [intOf]
      · have HS := Lib.hid (HSET.out ((n : Int) / 256 % 256) (by omega))
        clear HSET
        go_wp2_with fail
        go_roundw
        case rel => exact ⟨2, by omega, rfl, HS.out⟩
        case measure => simp [intOf]
      · have HS := Lib.hid (HSET.out ((n : Int) / 65536 % 256) (by omega))
        clear HSET
        go_wp2_with fail
        go_roundw
        case rel => exact ⟨3, by omega, rfl, HS.out⟩
        case measure => simp [intOf]
      · have HS := Lib.hid (HSET.out ((n : Int) / 16777216) (by omega))
        clear HSET
        go_wp2_with fail
        go_roundw
        case rel => exact ⟨4, by omega, rfl, HS.out⟩
        case measure => simp [intOf]
    · obtain rfl : k = 4 := by omega
      go_wp2_with fail
      go_end0
      exact ⟨rfl, HK.out, HW.out⟩
theorem or_add (s : Nat) (x c : Int) (hs : s ≤ 32) (hx : 0 ≤ x ∧ x < 2 ^ s) (hc : 0 ≤ c ∧ c ≤ 255) : bits .or .i64 x (c * 2 ^ s) = x + c * 2 ^ s := by
  obtain ⟨a, rfl⟩ : ∃ a : Nat, x = a := ⟨x.toNat, by omega⟩
  obtain ⟨b, rfl⟩ : ∃ b : Nat, c = b := ⟨c.toNat, by omega⟩
  have ha : a < 2 ^ s := by exact_mod_cast hx.2
  have hp : 2 ^ s ≤ 2 ^ 32 := Nat.pow_le_pow_right (by decide) hs
  have hb : b ≤ 255 := by omega
  have hm : b * 2 ^ s ≤ 255 * 2 ^ 32 := Nat.mul_le_mul hb hp
  have e : (b : Int) * 2 ^ s = ((b * 2 ^ s : Nat) : Int) := by push_cast; rfl
  rw [e]
  show IntKind.i64.wrap ((BitVec.ofInt 64 (a : Int) ||| BitVec.ofInt 64 ((b * 2 ^ s : Nat) : Int)).toNat : Int) = _
  have e2 : (BitVec.ofInt 64 (a : Int) ||| BitVec.ofInt 64 ((b * 2 ^ s : Nat) : Int)).toNat = a + b * 2 ^ s := by
    rw [BitVec.toNat_or, BitVec.ofInt_natCast, BitVec.ofInt_natCast, BitVec.toNat_ofNat, BitVec.toNat_ofNat, Nat.mod_eq_of_lt (by omega), Nat.mod_eq_of_lt (by omega), Nat.or_comm, Nat.mul_comm b, ← Nat.two_pow_add_eq_or_of_lt ha, Nat.add_comm]
  rw [e2]
  rw [IntWalk.i64_in _ (by omega)]
  push_cast; rfl
/-- A length's bytes, read so far. -/
def lenTo (a b c d : Int) : Nat → Int
  | 0 => 0
  | 1 => a
  | 2 => a + b * 256
  | 3 => a + b * 256 + c * 65536
  | _ => a + b * 256 + c * 65536 + d * 16777216
set_option maxRecDepth 100000 in
set_option maxHeartbeats 1000000 in
theorem hlength_any (l : List Int) (hl : l.length = 8) (hb : ∀ n ∈ l, 0 ≤ n ∧ n ≤ 255) (w : World) :
    Calls Tryz.prog 93 #[.agg (l.map v8).toArray] w fun e w' => e = .returned (.int .i64 (Crc.leN (l.take 4) : Nat)) ∧ w' = w.alloc (.cells (l.map v8).toArray 85) := by
  obtain ⟨a, b, c, d, rest, hz⟩ := four_heads (zs := l) (by omega)
  have ba := hb a (by rw [hz]; simp)
  have bb := hb b (by rw [hz]; simp)
  have bc := hb c (by rw [hz]; simp)
  have bd := hb d (by rw [hz]; simp)
  have hr : a + b * 256 + c * 65536 + d * 16777216 = ((Crc.leN (l.take 4) : Nat) : Int) := by rw [hz]; simp only [List.take_succ_cons, List.take_zero, Crc.leN]; omega
  have HR := Lib.hid hr
  have HBK := Lib.hid (Blk.new w (l.map v8).toArray 85)
  have HZ := Lib.hid hz
  clear hr hb hz hl
  go_enter Tryz.func93, Tryz.ntmps93
  go_wp2_with (refine wpList_box_arr rfl 85 _ rfl _ rfl ?_)
  obtain ⟨w1, hw1⟩ : ∃ w1, w1 = w.alloc (.cells (l.map v8).toArray 85) := ⟨_, rfl⟩
  rw [← hw1] at HBK ⊢
  have c0 : w1.cell? ⟨w.heap.size, 0, none⟩ = some (v8 a) := by rw [HBK.out.cell, HZ.out]; rfl
  have c1 : w1.cell? ⟨w.heap.size, 1, none⟩ = some (v8 b) := by rw [HBK.out.cell, HZ.out]; rfl
  have c2 : w1.cell? ⟨w.heap.size, 2, none⟩ = some (v8 c) := by rw [HBK.out.cell, HZ.out]; rfl
  have c3 : w1.cell? ⟨w.heap.size, 3, none⟩ = some (v8 d) := by rw [HBK.out.cell, HZ.out]; rfl
  have HW1 := Lib.hid hw1
  clear hw1 HBK HZ
  go_loop [3, 8] (fun v i => ∃ k : Nat, k ≤ 4 ∧ i = .int .i64 k ∧ v = .int .i64 (lenTo a b c d k)) (fun _ i => 4 - (intOf i).toNat)
  case atStart => exact ⟨0, by omega, rfl, rfl⟩
  case round =>
    obtain ⟨k, hk, rfl, rfl⟩ := hrel
    by_cases hlt : k < 4
    · have hk4 : k = 0 ∨ k = 1 ∨ k = 2 ∨ k = 3 := by omega
      rcases hk4 with rfl | rfl | rfl | rfl
      · unfold lenTo
        go_wp2_with fail
        go_round
        case rel => exact ⟨1, by omega, rfl, congrArg _ (by have h := or_add 0 0 a (by omega) (by omega) ba; simpa using h)⟩
        case measure => simp [intOf]
      · unfold lenTo
        go_wp2_with fail
        go_round
        case rel => exact ⟨2, by omega, rfl, congrArg _ (by have h := or_add 8 a b (by omega) (by omega) bb; exact h)⟩
        case measure => simp [intOf]
      · unfold lenTo
        go_wp2_with fail
        go_round
        case rel => exact ⟨3, by omega, rfl, congrArg _ (by have h := or_add 16 (a + b * 256) c (by omega) (by omega) bc; exact h)⟩
        case measure => simp [intOf]
      · unfold lenTo
        go_wp2_with fail
        go_round
        case rel => exact ⟨4, by omega, rfl, congrArg _ (by have h := or_add 24 (a + b * 256 + c * 65536) d (by omega) (by omega) bd; exact h)⟩
        case measure => simp [intOf]
    · obtain rfl : k = 4 := by omega
      unfold lenTo
      go_wp2_with fail
      go_ret
      exact ⟨ret_int HR.out, HW1.out⟩
theorem infoHead : (Tryz.prog.info? 85).map (fun i => i.zero) = some (some (.agg #[v8 0, v8 0, v8 0, v8 0, v8 0, v8 0, v8 0, v8 0])) := by kernel_rfl
theorem sizeHead : (Tryz.prog.info? 85).map (fun i => i.size) = some 8 := by kernel_rfl
theorem laid8 (n s : Nat) : layTo (layTo [v8 0, v8 0, v8 0, v8 0, v8 0, v8 0, v8 0, v8 0] 0 n 4) 4 s 4 = (Frm.le4 n ++ Frm.le4 s).map v8 := by
  simp [layTo, Frm.le4]
/-- The head that a record has to have. -/
def hd (b : List Int) : List Int := Frm.le4 b.length ++ Frm.le4 (Frm.sumN b)
theorem hd_length (b : List Int) : (hd b).length = 8 := by simp [hd, Frm.le4_length]
def HeadDone (zs : List Int) (w : World) (e : Ending) (w' : World) : Prop := e = .returned (.agg ((hd zs).map v8).toArray) ∧ Below w.heap.size w w'
set_option maxRecDepth 100000 in
set_option maxHeartbeats 1000000 in
theorem headOf_any (zs : List Int) (n : Nat) (p : Option Addr) (cap : Nat) (w : World) (hn : zs.length = n) (h : GoodS w (zs, p, cap)) (hs : n ≤ 4000) :
    Calls Tryz.prog 52 #[.slice p n cap] w (HeadDone zs w) := by
  have G := Lib.hid h
  have HN := Lib.hid hn
  have hm := h.max
  have hc : n ≤ cap := by rw [← hn]; exact h.le
  simp only at hm
  have HLT := Lib.hid (Frm.sumN_lt zs)
  obtain ⟨sn, hsn⟩ : ∃ s, s = Frm.sumN zs := ⟨_, rfl⟩
  have HSN := Lib.hid (show v32 (Crc.sum zs) = .int .u32 sn by rw [hsn]; rfl)
  rw [← hsn] at HLT
  have HHD := Lib.hid (show hd zs = Frm.le4 n ++ Frm.le4 sn by unfold hd; rw [hsn, hn])
  clear h hn hsn
  go_enter Tryz.func52, Tryz.ntmps52
  go_wp2_with (refine wpList_alloc_arr rfl 85 rfl _ infoHead ?_)
  have b2 := ((Below.refl w.heap.size w).alloc (by simp) (Obj.cells #[v8 0, v8 0, v8 0, v8 0, v8 0, v8 0, v8 0, v8 0] 85)).alloc (by simp) (Obj.cells #[v8 0, v8 0, v8 0, v8 0, v8 0, v8 0, v8 0, v8 0] 85)
  have k0 := (Blk.new w #[v8 0, v8 0, v8 0, v8 0, v8 0, v8 0, v8 0, v8 0] 85).old (Obj.cells #[v8 0, v8 0, v8 0, v8 0, v8 0, v8 0, v8 0, v8 0] 85)
  have k1 := Blk.new (w.alloc (Obj.cells #[v8 0, v8 0, v8 0, v8 0, v8 0, v8 0, v8 0, v8 0] 85)) #[v8 0, v8 0, v8 0, v8 0, v8 0, v8 0, v8 0, v8 0] 85
  generalize (w.alloc (Obj.cells #[v8 0, v8 0, v8 0, v8 0, v8 0, v8 0, v8 0, v8 0] 85)).alloc (Obj.cells #[v8 0, v8 0, v8 0, v8 0, v8 0, v8 0, v8 0, v8 0] 85) = w2 at *
  simp only [World.size_alloc] at k0 k1
  refine (lay_any (w.heap.size + 1) (w.heap.size + 1) 0 8 _ 85 n (by omega) w2 (Nat.le_refl _) k1 (by simp)).mono ?_
  rintro e w3 ⟨rfl, hk3, hb3⟩
  have K0 := Lib.hid (k0.below hb3 (by omega))
  have K3 := Lib.hid hk3
  have B3 := Lib.hid (b2.trans (hb3.mono (by omega)))
  clear b2 k0 k1 hk3 hb3
  go_wp2_with fail
  go_region_law (first
    | (go_simp; go_at_call 85; refine (csum_any zs n p cap w3.drew HN.out.symm G.out.bytes (G.out.at_.below B3.out.drew) hc hm).mono ?_; rw [HSN.out]; rintro e w4 ⟨rfl, hb4⟩; have K0' := Lib.hid (K0.out.drew.below hb4 K0.out.lt); have K4 := Lib.hid (K3.out.drew.below hb4 K3.out.lt); have B4 := Lib.hid (B3.out.drew.trans (hb4.mono B3.out.size)); clear hb4; have tk1 : True := trivial)
    | (have _t := tk1; go_simp; go_at_call 84; clear tk1 _t; refine (lay_any (w.heap.size + 1) (w.heap.size + 1) 4 4 _ 85 sn HLT.out w4 (Nat.le_refl _) K4.out (by rw [layTo_length]; simp)).mono ?_; rintro e w5 ⟨rfl, hk5, hb5⟩; rw [laid8] at hk5; have K05 := Lib.hid (K0'.out.below hb5 (by omega)); have K5 := Lib.hid hk5; have B5 := Lib.hid (B4.out.trans (hb5.mono (by omega))); clear hk5 hb5))
  all_goals
    have hsz : (Tryz.prog.info? 85).map (fun i => i.size) = some ((Frm.le4 n ++ Frm.le4 sn).map v8).toArray.size := by rw [sizeHead]; simp [Frm.le4_length]
    have hsz0 : (Tryz.prog.info? 85).map (fun i => i.size) = some [v8 0, v8 0, v8 0, v8 0, v8 0, v8 0, v8 0, v8 0].toArray.size := by rw [sizeHead]; rfl
    go_wp2_with (first
      | (refine wpList_load_row rfl 85 _ rfl _ rfl _ _ _ _ K5.out (Tryz.underlying85) rfl hsz ?_)
      | (refine wpList_store_row rfl 85 _ _ rfl _ _ rfl rfl _ _ K05.out hsz0 (by simp [Frm.le4_length]) (by simp [Value.oneCell']) ?_))
    refine bodyPost_ret (v := .agg ((Frm.le4 n ++ Frm.le4 sn).map v8).toArray) ?_ rfl ⟨by rw [HHD.out], Below.setRow B5.out (by omega) _⟩
    exact results_cell_row rfl _ _ _ _ _ _ _ rfl (K05.out.row _) (Tryz.underlying85) rfl hsz
end
section
set_option linter.unusedSimpArgs false
set_option linter.unusedVariables false
open Go.RowKit Sha
/-- A head, and a record, as they come: good in the world in which the going began. -/
abbrev Piece := List Int × SHdr
abbrev Comes (w0 : World) := { y : Piece // y.1.length = 8 ∧ GoodS w0 y.2 ∧ 1 ≤ y.2.1.length ∧ y.2.1.length ≤ 4000 }
def encsP {w0 : World} (y : Comes w0) : Array Value := #[.agg (y.1.1.map v8).toArray, cellS y.1.2]
/-- What comes, one by one, from the bytes' beginning on, and where one stands behind it. -/
inductive Going (zs : List Int) : List Piece → Nat → Prop
  | nil : Going zs [] 0
  | snoc {pre : List Piece} {k : Nat} (y : Piece) (m : Nat) : Going zs pre k → m = Crc.leN ((zs.drop k).take 4) → 1 ≤ m → m ≤ 4000 → 8 + m ≤ (zs.drop k).length → y.1 = (zs.drop k).take 8 → y.2.1 = ((zs.drop k).drop 8).take m → Going zs (pre ++ [y]) (k + 8 + m)
theorem take8 (l : List Int) : l.take 8 = l.take 4 ++ (l.drop 4).take 4 := by
  conv => lhs; rw [show (8 : Nat) = 4 + 4 from rfl, List.take_add]
/-- Whether a frame stands there: its head is its record's. -/
theorem stands_hd (l : List Int) (hb : Frm.Bytes l) (m : Nat) (hm : m = Crc.leN (l.take 4)) (h1 : 1 ≤ m) (h4 : m ≤ 4000) (hl : 8 + m ≤ l.length) :
    Frm.stands l = if l.take 8 = hd ((l.drop 8).take m) then (l.drop 8).take m else [] := by
  rw [stands_in (by omega) hm (by omega)]
  have hrl : ((l.drop 8).take m).length = m := by rw [List.length_take, List.length_drop]; omega
  have e4 : Frm.le4 m = l.take 4 := by rw [hm]; exact Frm.le4_leN _ (hb.take 4) (by rw [List.length_take]; omega)
  have e8 : (l.take 8 = hd ((l.drop 8).take m)) ↔ (Frm.sumN ((l.drop 8).take m) = Crc.leN ((l.drop 4).take 4)) := by
    unfold hd
    rw [hrl, e4, take8]
    constructor
    · intro h
      have := List.append_cancel_left h
      rw [this, Frm.leN_le4 _ (Frm.sumN_lt _)]
    · intro h
      rw [h, Frm.le4_leN _ ((hb.drop 4).take 4) (by rw [List.length_take, List.length_drop]; omega)]
  by_cases h : Frm.sumN ((l.drop 8).take m) = Crc.leN ((l.drop 4).take 4)
  · rw [if_pos h, if_pos (e8.2 h)]
  · rw [if_neg h, if_neg fun e => h (e8.1 e)]
/-- How far one has come. -/
def farOf (pre : List Piece) : Nat := (pre.map fun y => 8 + y.2.1.length).sum
theorem farOf_snoc (pre : List Piece) (y : Piece) : farOf (pre ++ [y]) = farOf pre + (8 + y.2.1.length) := by simp [farOf]
theorem Going.far {zs : List Int} {pre : List Piece} {k : Nat} (h : Going zs pre k) : k = farOf pre := by
  induction h with
  | nil => rfl
  | @snoc pre k y m h1 h2 h3 h4 h5 h6 h7 ih =>
    have hl : y.2.1.length = m := by rw [h7, List.length_take, List.length_drop]; omega
    rw [farOf_snoc, hl, ← ih]; omega
theorem Going.le {zs : List Int} {pre : List Piece} {k : Nat} (h : Going zs pre k) : 9 * pre.length ≤ k ∧ k ≤ zs.length := by
  induction h with
  | nil => simp
  | @snoc pre k y m h1 h2 h3 h4 h5 h6 h7 ih =>
    rw [List.length_drop] at h5
    rw [List.length_append]
    simp; omega
theorem Going.split {zs : List Int} (hb : Frm.Bytes zs) {pre : List Piece} {k : Nat} (h : Going zs pre k) : (∀ y ∈ pre, y.1 = hd y.2.1) → Frm.split zs = (pre.map (·.2.1) ++ (Frm.split (zs.drop k)).1, k + (Frm.split (zs.drop k)).2) := by
  induction h with
  | nil => intro _; simp
  | @snoc pre k y m h1 h2 h3 h4 h5 h6 h7 ih =>
    intro hn
    have hy := hn y (by simp)
    have hl : y.2.1.length = m := by rw [h7, List.length_take, List.length_drop]; omega
    have hs : Frm.stands (zs.drop k) = y.2.1 := by
      rw [stands_hd _ (hb.drop k) m h2 h3 h4 h5, ← h7, ← h6, if_pos hy]
    have := split_go (ih fun z hz => hn z (by simp [hz])) (by rw [hs]; intro e; rw [e] at hl; simp at hl; omega)
    rw [hs, hl] at this
    rw [this]; simp
theorem Going.last {zs : List Int} (hb : Frm.Bytes zs) {pre : List Piece} {y : Piece} {k : Nat} (h : Going zs (pre ++ [y]) k) (hy : y.1 ≠ hd y.2.1) : ∃ k0, Going zs pre k0 ∧ Frm.stands (zs.drop k0) = [] := by
  generalize hq : pre ++ [y] = q at h
  cases h with
  | nil => simp at hq
  | @snoc p0 k0 z m h1 h2 h3 h4 h5 h6 h7 =>
    obtain ⟨rfl, e⟩ := List.append_inj' hq rfl
    cases e
    exact ⟨k0, h1, by rw [stands_hd _ (hb.drop k0) m h2 h3 h4 h5, ← h7, ← h6, if_neg hy]⟩
end
section
set_option linter.unusedSimpArgs false
set_option linter.unusedVariables false
variable {F : Fence} {m : Nat} {P : Program} {ops : Array Oper} {Q : Exit → Act → World → Prop} {a : Act} {w : World} {rest : List Oper} {o : Oper} {K : Act → World → Prop}
theorem wpIn_value {v : Value} {w' : World} (hab : o.about P w a.eval = none) (hnd : ∀ c, o.op ≠ .defer c) (hr : (execOp a.eval o).run P w = .ok (.value v) w') (h : K (a.put o.dst v) w') : o.wpIn F m P a w K Q := by
  unfold Oper.wpIn
  refine ⟨(fun f e => by rw [hab] at e; cases e), ?_⟩
  rw [Oper.semAt_plain F _ _ hnd, hr]; exact h
theorem wpIn_skip {w' : World} (hab : o.about P w a.eval = none) (hnd : ∀ c, o.op ≠ .defer c) (hr : (execOp a.eval o).run P w = .ok .skip w') (h : K (a.put o.dst undef) w') : o.wpIn F m P a w K Q := by
  unfold Oper.wpIn
  refine ⟨(fun f e => by rw [hab] at e; cases e), ?_⟩
  rw [Oper.semAt_plain F _ _ hnd, hr]; exact h
theorem wpListIn_alloc_arr (hgd : o.guard = none) (ty : TypeId) (ho : o.op = .alloc ty) (cs : Array Value) (hz : (P.info? ty).map (fun i => i.zero) = some (some (.agg cs)))
    (h : wpListIn F m P ops Q rest (a.put o.dst (.pointer (some ⟨w.heap.size, 0, none⟩))) (w.alloc (.cells cs ty))) : wpListIn F m P ops Q (o :: rest) a w := by
  have hz' : (zeroValue ty).run P w = .ok (.agg cs) w := by
    cases hq : P.info? ty with
    | none => simp [hq] at hz
    | some i => simp [hq] at hz; simp [zeroValue, typeInfo, hq, hz]
  exact wpListIn_plain hgd fun K hK => wpIn_value (by simp [Oper.about, ho]) (by rw [ho]; intro c hc; cases hc) (by unfold execOp; simp only [ho, Instr.alloc, Sem.run_bind, hz', Result.andThen_ok, Sem.run_pure]; rfl) (hK _ _ h)
theorem wpListIn_load_row (hgd : o.guard = none) (ty : TypeId) (x : Operand) (ho : o.op = .load ty x)
    (g : Nat) (hx : a.eval x = .pointer (some ⟨g, 0, none⟩)) (t : TypeId) (cs : Array Value) (fr : Nat × Nat) (d : TypeDesc) (hg : w.heap[g]? = some (.cells cs t fr))
    (hu : P.underlying ty = some d) (hd : (match d with | .struct _ | .array _ _ => true | _ => false) = true) (hi : (P.info? ty).map (·.size) = some cs.size)
    (h : wpListIn F m P ops Q rest (a.put o.dst (.agg cs)) w) : wpListIn F m P ops Q (o :: rest) a w :=
  wpListIn_plain hgd fun K hK => wpIn_value (by simp [Oper.about, ho]) (by rw [ho]; intro c hc; cases hc) (by unfold execOp; simp only [ho, hx, Instr.loadAt, Instr.sureAddr, Sem.run_bind, Sem.run_pure, Result.andThen_ok, run_loadVar_row w g t ty cs fr d hg hu hd hi]) (hK _ _ h)
theorem wpListIn_load_mid (hgd : o.guard = none) (ty : TypeId) (x : Operand) (ho : o.op = .load ty x) (b off : Nat) (hx : a.eval x = .pointer (some ⟨b, off, none⟩)) (cs : List Value) (d : TypeDesc) (hC : w.rangeAt b off cs)
    (hu : P.underlying ty = some d) (hd : d.isRow = true) (hi : (P.info? ty).map (·.size) = some cs.length) (h : wpListIn F m P ops Q rest (a.put o.dst (.agg cs.toArray)) w) : wpListIn F m P ops Q (o :: rest) a w :=
  wpListIn_plain hgd fun K hK => wpIn_value (by simp [Oper.about, ho]) (by rw [ho]; intro c hc; cases hc) (by unfold execOp; simp only [ho, hx, Instr.loadAt, Instr.sureAddr, Sem.run_bind, Sem.run_pure, Result.andThen_ok, run_loadVar_mid w b off ty cs d hC hu hd hi]) (hK _ _ h)
theorem wpListIn_store_row (hgd : o.guard = none) (ty : TypeId) (x y : Operand) (ho : o.op = .store ty x y)
    (g : Nat) (cells : Array Value) (hx : a.eval x = .pointer (some ⟨g, 0, none⟩)) (hy : a.eval y = .agg cells)
    (t : TypeId) (old : Array Value) (hg : w.heap[g]? = some (.cells old t (0, 0))) (hi : (P.info? ty).map (·.size) = some cells.size)
    (hold : old.size = cells.size) (h1 : cells.all (·.oneCell') = true)
    (h : wpListIn F m P ops Q rest (a.put o.dst undef) (w.setRow g cells)) : wpListIn F m P ops Q (o :: rest) a w :=
  wpListIn_plain hgd fun K hK => wpIn_skip (by simp [Oper.about, ho]) (by rw [ho]; intro c hc; cases hc) (by unfold execOp; simp only [ho, hx, hy, Instr.storeAt, Instr.sureAddr, Sem.run_bind, Sem.run_pure, Result.andThen_ok, run_storeVar_row w g t ty old cells hg hi hold h1]) (hK _ _ h)
theorem wpListIn_array (hgd : o.guard = none) (t : TypeId) (x : Operand) (ho : o.op = .sliceToArrayPointer t x) (e : TypeId) (n : Nat) (p : Option Addr) (len cap : Nat) (hu : P.underlying t = some (.array n e)) (hn : n ≤ len)
    (hx : a.eval x = .slice p len cap) (h : wpListIn F m P ops Q rest (a.put o.dst (.pointer p)) w) : wpListIn F m P ops Q (o :: rest) a w :=
  wpListIn_plain hgd fun K hK => wpIn_value (by simp [Oper.about, ho]) (by rw [ho]; intro c hc; cases hc) (by unfold execOp; simp only [ho, hx, Sem.run_bind, run_arrayAt w t e n p len cap hu hn, Result.andThen_ok, Sem.run_pure]) (hK _ _ h)
end
section
set_option linter.unusedSimpArgs false
set_option linter.unusedVariables false
open Go.RowKit Sha
@[irreducible] def hloadOp (t : TypeId) (v : Value) : Sem Next := do pure (.value (← Instr.loadAt t v))
@[irreducible] def hneqOp (t : TypeId) (x y : Operand) (u v : Value) : Sem Next := do pure (.value (← (do eqGuard .neq t x y u v; binOp .neq t u v)))
theorem execOp_loadHead (ρ : Operand → Value) (dst : Option Tmp) (x : Operand) (ty : TypeId) (pos : String) (after : Array Edge) (guard : Option (Nat × Bool)) :
    execOp ρ { dst := dst, op := .load 85 x, type := ty, pos := pos, after := after, guard := guard } = hloadOp 85 (ρ x) := by unfold hloadOp; rfl
theorem execOp_neqHead (ρ : Operand → Value) (dst : Option Tmp) (x y : Operand) (ty r : TypeId) (pos : String) (after : Array Edge) (guard : Option (Nat × Bool)) :
    execOp ρ { dst := dst, op := .binOp .neq 85 x y r, type := ty, pos := pos, after := after, guard := guard } = hneqOp 85 x y (ρ x) (ρ y) := by unfold hneqOp; rfl
theorem run_neqHead (x y : Operand) (xs ys : List Int) (hx : xs.length = 8) (hy : ys.length = 8) (w : World) : (hneqOp 85 x y (.agg (xs.map v8).toArray) (.agg (ys.map v8).toArray)).run Tryz.prog w = .ok (.value (.bool (!decide (xs = ys)))) w := by
  have h := run_neq_arr (P := Tryz.prog) w x y 85 5 8 .u8 Tryz.underlying85 Tryz.underlying5 kslice1 xs ys hx hy
  unfold hneqOp
  rw [Sem.run_bind, h]
  simp only [Result.andThen_ok, Sem.run_pure]
theorem load_head {w : World} {g : Nat} {z : List Int} {t : TypeId} (hz : z.length = 8) (h : Blk w g (z.map v8) t) : (hloadOp 85 (.pointer (some ⟨g, 0, none⟩))).run Tryz.prog w = .ok (.value (.agg (z.map v8).toArray)) w := by
  unfold hloadOp
  simp only [Instr.loadAt, Instr.sureAddr, Sem.run_bind, Sem.run_pure, Result.andThen_ok, run_loadVar_row w g t 85 _ (0, 0) _ h Tryz.underlying85 rfl (by rw [sizeHead]; simp [hz])]
end
end Go.Proofs.YtbogjfmefkhglaaGreat
