/-
  The law FactBack.
  The law FactBack, its contract over the program's own (factFold: FcZq).
  The last step of a law's row: it answered true, and left what was there as it was.
  What rows ask of the program itself; a slice of bytes among the arguments.
  A slice of bytes in memory that is looked through, opened.
  Facts among the arguments: one, and a slice of them, opened.
-/
import Derived.Test.YtokpabkcaofahaaGreatPb14
import Derived.Test.YtokpabkcaofahaaGreatPb47
import Derived.Test.YtokpabkcaofahaaGreatPb1
import Derived.ProofKit
import Derived.OpenShut
import Derived.Test.YtokpabkcaofahaaGreatRows
import Derived.ChangeSlices
import Derived.Test.YtokpabkcaofahaaGreatPb2
import Derived.Deep.Slices
import Derived.Deep.Strs
import Derived.Test.YtokpabkcaofahaaGreatPb7
namespace Go.Proofs.YtokpabkcaofahaaGreat
section
set_option linter.unusedSimpArgs false
set_option linter.unusedVariables false
open Go.RowKit Sha Fct
attribute [local go_sem ↓] execOp_allocFact execOp_allocSte execOp_storeFact execOp_storeSte execOp_boxFact execOp_boxSte execOp_loadSte execOp_makeFact execOp_makeSte execOp_buildFacts execOp_loadFact
set_option maxRecDepth 100000 in
set_option maxHeartbeats 8000000 in
theorem fback_any (F : FactsFold) (x : Fac) (q : Option Addr) (c : Nat) (b : List Int) (p : Option Addr) (n cap : Nat) (w : World) (hx : sF.Good w x q c) (hn : b.length = n) (hb : ∀ m ∈ b, 0 ≤ m ∧ m ≤ 255) (hA : At w p (b.map v8)) (hc : n ≤ cap) (hcm : cap ≤ 9223372036854775807) (hp : p = none → cap = 0) :
    Calls Tryz.prog 6 #[.agg (fcells x q c).toArray, .slice p n cap] w fun e w' => e = .returned (.bool true) ∧ Below w.heap.size w w' := by
  have al := fun w => alloc_fact w
  have bx := fun w => run_boxOp (P := Tryz.prog) (t := 28) (cs := (fcells x q c).toArray) w
  have HX := Lib.hid hx
  have HN := Lib.hid hn
  have HBB := Lib.hid hb
  have HA := Lib.hid hA
  have HP := Lib.hid hp
  have hxl := hx.ok.len
  clear hx hn hb hA hp
  go_enter Tryz.func6, Tryz.ntmps6
  go_wp2_with fail
  have hk := Blk.new w (fcells x q c).toArray 28
  have hb1 := (Below.refl w.heap.size w).alloc (Nat.le_refl _) (Obj.cells (fcells x q c).toArray 28)
  refine (fknown_any F _).mono ?_
  rintro e w1 ⟨rfl, hb⟩
  have hb2 := hb1.trans (hb.mono (by simp))
  have B1 := Lib.hid hb2
  have K1 := Lib.hid (hk.below hb (by simp))
  have X1 := Lib.hid (HX.out.below hb2)
  have A1 := Lib.hid (HA.out.below hb2)
  clear hk hb1 hb hb2 HA HX
  obtain ⟨g0, hg0⟩ : ∃ g, g = w.heap.size := ⟨_, rfl⟩
  rw [← hg0] at K1 ⊢
  clear hg0
  obtain ⟨m, hm⟩ : ∃ m, m = x.B.length := ⟨_, rfl⟩
  have c37 : w1.cell? ⟨g0, 37, none⟩ = some (.slice q m c) := by rw [hm]; exact (K1.out.cell 37).trans (fcells_B hxl q c)
  have HM := Lib.hid hm
  clear hm
  by_cases hbig : 5000 < m
  · have hbig' : (5000 : Int) < (m : Int) := by omega
    go_wp2_with fail
    go_ret
    exact ⟨rfl, B1.out⟩
  have hbig' : ¬ (5000 : Int) < (m : Int) := by omega
  by_cases hbn : 600 < n
  · have hbn' : (600 : Int) < (n : Int) := by omega
    go_wp2_with fail
    go_ret
    exact ⟨rfl, B1.out⟩
  have hbn' : ¬ (600 : Int) < (n : Int) := by omega
  have hmost : x.B.length ≤ dataMost := by rw [← HM.out]; have : dataMost = 1000000000000 := rfl; omega
  have HMO := Lib.hid hmost
  have ld := load_factB K1.out hxl
  have HPUT := Lib.hid (F.put x q c w1 X1.out hmost)
  have HPE := Lib.hid (put_err x)
  have HPB := Lib.hid (Fct.put_bd X1.out.ok)
  have HPL := Lib.hid (put_len X1.out.ok)
  have HGP := Lib.hid (fun b h => get_put X1.out.ok (b := b) h)
  unfold FPut at HPUT
  obtain ⟨⟨cb, ce⟩, hr⟩ : ∃ r, r = Fct.put x := ⟨_, rfl⟩
  rw [← hr] at HPUT HPE HPB HPL HGP
  simp only at HPE HPB HPL
  clear hmost hr
  go_wp2_with fail
  refine HPUT.out.mono ?_
  rintro e w2 ⟨v, rfl, ho, hb⟩
  obtain ⟨p2, c2, rfl, hl2, hm2, hA2, _, hn2⟩ := own_at ho.row
  have B2 := Lib.hid (B1.out.trans (hb.mono B1.out.size))
  have K2 := Lib.hid (K1.out.below hb K1.out.lt)
  have X2 := Lib.hid (X1.out.below hb)
  have A2 := Lib.hid (A1.out.below hb)
  have C2 := Lib.hid hA2
  have N2 := Lib.hid hn2
  clear ho hb hA2 hn2 HPUT c37 ld B1 K1 X1 A1
  simp only
  by_cases hce : ce = 0
  · subst hce
    have hgc := HGP.out cb rfl
    have HGC := Lib.hid (F.get cb p2 cb.length c2 w2 rfl HPB.out C2.out hl2 (by unfold maxLen at hm2; omega) N2.out (by have := HPL.out; omega))
    unfold FGet at HGC
    rw [hgc] at HGC
    clear hgc
    go_wp2_with fail
    refine HGC.out.mono ?_
    rintro e w3 ⟨q3, d3, rfl, hg3, hb3⟩
    have B3 := Lib.hid (B2.out.trans (hb3.mono B2.out.size))
    have K3 := Lib.hid (K2.out.below hb3 K2.out.lt)
    have X3 := Lib.hid (X2.out.below hb3)
    have A3 := Lib.hid (A2.out.below hb3)
    have G3 := Lib.hid hg3
    have st := fun o => store_fact2 w3 o (x := x) (q := q3) (c := d3) hxl
    clear hg3 hb3 B2 K2 X2 A2 HGC
    simp only
    have hb6 := ((Below.refl w3.heap.size w3).alloc (Nat.le_refl _) (Obj.cells (fcells x q3 d3).toArray 28)).alloc (by simp) (Obj.cells #[.int .i64 0, .int .i64 0] 64)
    have kf6 := (Blk.new w3 (fcells x q3 d3).toArray 28).old (Obj.cells #[.int .i64 0, .int .i64 0] 64)
    have ld6 := load_factB (K3.out.below hb6 K3.out.lt) hxl
    have ly6 := load_factB kf6 hxl
    go_wp2_with fail
    refine (sameFact_any x x q3 q d3 c _ (G3.out.below hb6) (X3.out.below hb6)).mono ?_
    rintro e w4 ⟨rfl, hb⟩
    have hb7 := hb6.trans (hb.mono hb6.size)
    have B4 := Lib.hid (B3.out.trans (hb7.mono B3.out.size))
    have K4 := Lib.hid (K3.out.below hb7 K3.out.lt)
    have X4 := Lib.hid (X3.out.below hb7)
    have A4 := Lib.hid (A3.out.below hb7)
    clear hb hb6 hb7 kf6 ld6 ly6 st B3 K3 X3 A3 G3 C2 N2
    rw [decide_eq_true (rfl : x = x)]
    go_wp2_with fail
    have HG := Lib.hid (F.get b p n cap w4 HN.out HBB.out A4.out hc hcm HP.out (by omega))
    obtain ⟨⟨y, yr, ya⟩, hr⟩ : ∃ r, r = Fct.get b := ⟨_, rfl⟩
    have HGE := Lib.hid (fun h => get_err HBB.out h)
    have HGO := Lib.hid (fun f k h => put_get HBB.out (f := f) (k := k) h)
    rw [← hr] at HG HGE HGO
    simp only at HGE
    unfold FGet at HG
    clear hr
    refine HG.out.mono ?_
    rintro e w5 ⟨q5, d5, rfl, hg5, hb5⟩
    have B5 := Lib.hid (B4.out.trans (hb5.mono B4.out.size))
    have K5 := Lib.hid (K4.out.below hb5 K4.out.lt)
    have X5 := Lib.hid (X4.out.below hb5)
    have A5 := Lib.hid (A4.out.below hb5)
    have G5 := Lib.hid hg5
    have hyl := hg5.ok.len
    have st := fun o => store_fact2 w5 o (x := y) (q := q5) (c := d5) hyl
    clear hg5 hb5 B4 K4 X4 A4 HG
    simp only
    obtain ⟨yi, hyi⟩ : ∃ i : Int, i = (ya : Int) := ⟨_, rfl⟩
    rw [← hyi]
    have hb6 := ((Below.refl w5.heap.size w5).alloc (Nat.le_refl _) (Obj.cells (fcells y q5 d5).toArray 28)).alloc (by simp) (Obj.cells #[.int .i64 yr, .int .i64 yi] 64)
    have kf6 := (Blk.new w5 (fcells y q5 d5).toArray 28).old (Obj.cells #[.int .i64 yr, .int .i64 yi] 64)
    have B6 := Lib.hid (B5.out.trans (hb6.mono B5.out.size))
    have K6 := Lib.hid (K5.out.below hb6 K5.out.lt)
    have X6 := Lib.hid (X5.out.below hb6)
    have A6 := Lib.hid (A5.out.below hb6)
    have G6 := Lib.hid (G5.out.below hb6)
    have F6 := Lib.hid kf6
    have ld6 := load_factB K6.out hxl
    have ly6 := load_factB kf6 hyl
    have cy0 := (kf6.cell 0).trans (fcells_K y q5 d5)
    have hckx := F.check x q c _ X6.out HMO.out
    clear B5 K5 X5 A5 G5 hb6 kf6
    by_cases hyr : yr = 0
    · subst hyr
      obtain ⟨hpy, hyo, hyc, -⟩ := HGO.out y ya rfl
      clear hyi
      have hym : y.B.length ≤ dataMost := by
        have h1 := hyc.most
        have : dataMost = 1000000000000 := rfl
        split at h1 <;> omega
      have HPY := Lib.hid (F.put y q5 d5 _ G6.out hym)
      unfold FPut at HPY
      rw [hpy] at HPY
      clear hpy hyo hyc hym
      go_wp2_with fail
      refine HPY.out.mono ?_
      rintro e w8 ⟨v8_, rfl, ho, hb⟩
      obtain ⟨p8, c8, rfl, _, _, hA8, _, _⟩ := own_at ho.row
      have B8 := Lib.hid (B6.out.trans (hb.mono B6.out.size))
      have K8 := Lib.hid (K6.out.below hb K6.out.lt)
      have X8 := Lib.hid (X6.out.below hb)
      have A8 := Lib.hid (A6.out.below hb)
      have C8 := Lib.hid hA8
      have ld8 := load_factB K8.out hxl
      clear ho hb hA8 HPY B6 K6 X6 A6 G6 F6 ld6 ly6 cy0 hckx
      simp only
      go_wp2_with fail
      refine (F.check x q c _ X8.out HMO.out).mono ?_
      rintro e w9 ⟨rfl, hb⟩
      have B9 := Lib.hid (B8.out.trans (hb.mono B8.out.size))
      have A9 := Lib.hid (A8.out.below hb)
      have C9 := Lib.hid (C8.out.below hb)
      clear hb B8 K8 X8 A8 C8 ld8
      rw [← HPE.out]
      go_wp2_with fail
      refine (same_true b b.length n p8 p c8 cap w9 rfl HN.out C9.out A9.out HBB.out).mono ?_
      rintro e w10 ⟨rfl, rfl⟩
      go_wp2_with fail
      go_ret
      exact ⟨rfl, B9.out⟩
    · have hyr' : (yr == 0) = false := by rw [beq_eq_false_iff_ne]; exact hyr
      obtain ⟨hy1, hy2⟩ := HGE.out hyr
      subst hy1
      have hya : ya ≤ n := by rw [← HN.out]; exact hy2
      have hyi0 : 0 ≤ yi := by omega
      have hyin : yi ≤ (n : Int) := by omega
      clear hy2 hya hyi
      go_wp2_with fail
      refine hckx.mono ?_
      rintro e w9 ⟨rfl, hb⟩
      have B9 := Lib.hid (B6.out.trans (hb.mono B6.out.size))
      have z0 : w9.cell? ⟨w5.heap.size, 0, none⟩ = some (.int .i64 0) := (F6.out.below hb F6.out.lt).cell 0
      have z1 : w9.cell? ⟨w5.heap.size + 1, 1, none⟩ = some (.int .i64 yi) := by
        have h1 := Blk.new (w5.alloc (Obj.cells (fcells Fct.none_ q5 d5).toArray 28)) #[.int .i64 yr, .int .i64 yi] 64
        rw [World.size_alloc] at h1
        exact ((h1.below hb (by simp)).cell 1)
      clear hb B6 K6 X6 A6 G6 F6 ld6 ly6 cy0 hckx
      rw [← HPE.out]
      go_wp2_with fail
      go_ret
      exact ⟨rfl, B9.out⟩
  · have hce' : (ce == 0) = false := by rw [beq_eq_false_iff_ne]; exact hce
    clear C2 N2
    go_wp2_with fail
    have HG := Lib.hid (F.get b p n cap w2 HN.out HBB.out A2.out hc hcm HP.out (by omega))
    obtain ⟨⟨y, yr, ya⟩, hr⟩ : ∃ r, r = Fct.get b := ⟨_, rfl⟩
    have HGE := Lib.hid (fun h => get_err HBB.out h)
    have HGO := Lib.hid (fun f k h => put_get HBB.out (f := f) (k := k) h)
    rw [← hr] at HG HGE HGO
    simp only at HGE
    unfold FGet at HG
    clear hr
    refine HG.out.mono ?_
    rintro e w5 ⟨q5, d5, rfl, hg5, hb5⟩
    have B5 := Lib.hid (B2.out.trans (hb5.mono B2.out.size))
    have K5 := Lib.hid (K2.out.below hb5 K2.out.lt)
    have X5 := Lib.hid (X2.out.below hb5)
    have A5 := Lib.hid (A2.out.below hb5)
    have G5 := Lib.hid hg5
    have hyl := hg5.ok.len
    have st := fun o => store_fact2 w5 o (x := y) (q := q5) (c := d5) hyl
    clear hg5 hb5 B2 K2 X2 A2 HG
    simp only
    obtain ⟨yi, hyi⟩ : ∃ i : Int, i = (ya : Int) := ⟨_, rfl⟩
    rw [← hyi]
    have hb6 := ((Below.refl w5.heap.size w5).alloc (Nat.le_refl _) (Obj.cells (fcells y q5 d5).toArray 28)).alloc (by simp) (Obj.cells #[.int .i64 yr, .int .i64 yi] 64)
    have kf6 := (Blk.new w5 (fcells y q5 d5).toArray 28).old (Obj.cells #[.int .i64 yr, .int .i64 yi] 64)
    have B6 := Lib.hid (B5.out.trans (hb6.mono B5.out.size))
    have K6 := Lib.hid (K5.out.below hb6 K5.out.lt)
    have X6 := Lib.hid (X5.out.below hb6)
    have A6 := Lib.hid (A5.out.below hb6)
    have G6 := Lib.hid (G5.out.below hb6)
    have F6 := Lib.hid kf6
    have ld6 := load_factB K6.out hxl
    have ly6 := load_factB kf6 hyl
    have cy0 := (kf6.cell 0).trans (fcells_K y q5 d5)
    have hckx := F.check x q c _ X6.out HMO.out
    clear B5 K5 X5 A5 G5 hb6 kf6
    by_cases hyr : yr = 0
    · subst hyr
      obtain ⟨hpy, hyo, hyc, -⟩ := HGO.out y ya rfl
      clear hyi
      have hym : y.B.length ≤ dataMost := by
        have h1 := hyc.most
        have : dataMost = 1000000000000 := rfl
        split at h1 <;> omega
      have HPY := Lib.hid (F.put y q5 d5 _ G6.out hym)
      unfold FPut at HPY
      rw [hpy] at HPY
      clear hpy hyo hyc hym
      go_wp2_with fail
      refine HPY.out.mono ?_
      rintro e w8 ⟨v8_, rfl, ho, hb⟩
      obtain ⟨p8, c8, rfl, _, _, hA8, _, _⟩ := own_at ho.row
      have B8 := Lib.hid (B6.out.trans (hb.mono B6.out.size))
      have K8 := Lib.hid (K6.out.below hb K6.out.lt)
      have X8 := Lib.hid (X6.out.below hb)
      have A8 := Lib.hid (A6.out.below hb)
      have C8 := Lib.hid hA8
      have ld8 := load_factB K8.out hxl
      clear ho hb hA8 HPY B6 K6 X6 A6 G6 F6 ld6 ly6 cy0 hckx
      simp only
      go_wp2_with fail
      refine (F.check x q c _ X8.out HMO.out).mono ?_
      rintro e w9 ⟨rfl, hb⟩
      have B9 := Lib.hid (B8.out.trans (hb.mono B8.out.size))
      have A9 := Lib.hid (A8.out.below hb)
      have C9 := Lib.hid (C8.out.below hb)
      clear hb B8 K8 X8 A8 C8 ld8
      rw [← HPE.out]
      go_wp2_with fail
      refine (same_true b b.length n p8 p c8 cap w9 rfl HN.out C9.out A9.out HBB.out).mono ?_
      rintro e w10 ⟨rfl, rfl⟩
      go_wp2_with fail
      go_ret
      exact ⟨rfl, B9.out⟩
    · have hyr' : (yr == 0) = false := by rw [beq_eq_false_iff_ne]; exact hyr
      obtain ⟨hy1, hy2⟩ := HGE.out hyr
      subst hy1
      have hya : ya ≤ n := by rw [← HN.out]; exact hy2
      have hyi0 : 0 ≤ yi := by omega
      have hyin : yi ≤ (n : Int) := by omega
      clear hy2 hya hyi
      go_wp2_with fail
      refine hckx.mono ?_
      rintro e w9 ⟨rfl, hb⟩
      have B9 := Lib.hid (B6.out.trans (hb.mono B6.out.size))
      have z0 : w9.cell? ⟨w5.heap.size, 0, none⟩ = some (.int .i64 0) := (F6.out.below hb F6.out.lt).cell 0
      have z1 : w9.cell? ⟨w5.heap.size + 1, 1, none⟩ = some (.int .i64 yi) := by
        have h1 := Blk.new (w5.alloc (Obj.cells (fcells Fct.none_ q5 d5).toArray 28)) #[.int .i64 yr, .int .i64 yi] 64
        rw [World.size_alloc] at h1
        exact ((h1.below hb (by simp)).cell 1)
      clear hb B6 K6 X6 A6 G6 F6 ld6 ly6 cy0 hckx
      rw [← HPE.out]
      go_wp2_with fail
      go_ret
      exact ⟨rfl, B9.out⟩
end
section
set_option linter.unusedSimpArgs false
set_option linter.unusedVariables false
open Go.RowKit Sha Fct
theorem factBack_law (x : Fac) (q : Option Addr) (c : Nat) (b : List Int) (n : Nat) (p : Option Addr) (cap : Nat) (w : World) (hx : sF.Good w x q c) (h1 : b.length = n) (h2 : At w p (b.map v8)) (h3 : n ≤ cap) (h4 : cap ≤ maxLen) (h5 : p = none → cap = 0) (h6 : ∀ n ∈ b, 0 ≤ n ∧ n ≤ 255) :
    Calls Tryz.prog 6 #[.agg (fcells x q c).toArray, .slice p n cap] w fun e w' => e = .returned (.bool true) ∧ Below w.heap.size w w' :=
  fback_any factFold x q c b p n cap w hx h1 h6 h2 h3 (by unfold maxLen at h4; omega) h5
end
section
set_option linter.unusedSimpArgs false
set_option linter.unusedVariables false
open Go.ChangeShapes Go.WideShapes Go.ChangeAt Go.RowKit
section
variable {H : Type} {enc : TypeId × Value → H} {P : Program}
theorem trodAll_carry {W W' : World} (hl : laidOutB P = true) (hb : Below W.heap.size W W') :
    ∀ {ts : List TypeId} {vs : List Value} {ds : List (DataW H)} {ps : List MemPlace}, DataW.TrodAll enc P W 0 (fun _ => true) true ts vs ds ps → (∀ t ∈ ts, P.readableRec t = true ∧ t < P.types.size) → (∀ x ∈ ps, x.block < W.heap.size) →
      DataW.TrodAll enc P W' 0 (fun b => decide (b < W.heap.size)) true ts vs ds ps
  | [], vs, ds, ps, h, _, _ => by
    obtain ⟨rfl, rfl, rfl⟩ := trodAll_nil h
    exact trodAll_mk0
  | t :: ts, vs, ds, ps, h, hr, hp => by
    obtain ⟨v, vs', d, ds', p, p', rfl, rfl, rfl, h1, h2⟩ := trodAll_cons h
    exact ⟨p, p', Below.trod hl (hr t (by simp)).1 (hr t (by simp)).2 h1 hb (fun x hx => hp x (by simp [hx])), trodAll_carry hl hb h2 (fun t ht => hr t (by simp [ht])) (fun x hx => hp x (by simp [hx])), rfl⟩
/-- What a law's row asks behind the call. -/
theorem law_post {f : Func} {s : ChangeSpec} {W W' : World} {args : Array Value} {ds : List (DataW H)} {before : List MemPlace} {tb : TypeId}
    (hW : DataW.Whole enc P f.params.toList s.vars false W args.toList ds [] before) (hv : s.vars = []) (hfn : s.fn H (ds ++ []) = { results := [.lit (.bool true)], args := ds })
    (hr : f.resultTypes = #[tb]) (hu : P.underlying tb = some .bool) (hl : laidOutB P = true) (hps : ∀ t ∈ f.params.toList, P.readableRec t = true ∧ t < P.types.size) (hb : Below W.heap.size W W') :
    s.post enc P f false true false false W args (.bool true) W' := by
  have hlt : ∀ p ∈ before, p.block < W.heap.size := fun p hp => hW.lt p hp
  have hW2 := hW
  obtain ⟨p, q, hA, hV, hbe, _, _⟩ := hW2
  rw [hv] at hV
  obtain ⟨_, hq⟩ := trodVars_none hV
  have hbp : before = p := by rw [hbe, hq, List.append_nil]
  refine ⟨ds, [], before, [], p, [], hW, ?_, ?_, ?_, ?_, fun h => by cases h⟩
  · rw [hr, hfn]
    exact trodAll_mk1 (shut_bool hu true)
  · rw [hfn]
    exact trodAll_carry hl hb hA hps (fun x hx => hlt x (by rw [hbp]; exact hx))
  · rw [hv, hfn]; rfl
  · refine World.keptBut_mono (fun x hx => ⟨hx, ?_⟩) (hb.frame (· ∈ before))
    right; left
    rw [← hbp]; exact hx
end
end
section
set_option linter.unusedSimpArgs false
set_option linter.unusedVariables false
open Go.ChangeShapes Go.WideShapes Go.ChangeAt Go.RowKit
theorem Tryz.own : ownKnob Tryz.prog.godebug = none := by kernel_rfl
theorem Tryz.laidOut : laidOutB Tryz.prog = true := by kernel_rfl
section
variable {H : Type} {enc : TypeId × Value → H} {P : Program} {w : World} {base : Nat} {spare : Nat → Bool} {held : Bool}
/-- A slice of bytes among the arguments: its numbers. -/
theorem open_bytesl {r : Reach} {b0 : Nat} {t e : TypeId} {v : Value} {d : DataW H} {p : List MemPlace} (ht : P.underlying t = some (.slice e)) (he : P.underlying e = some (.int .u8)) (hc : P.cellsOf e = 1)
    (hv : Value.okWide P w r b0 t v) (h : DataW.Trod enc P w base spare held t v d p) :
    ∃ (q : Option Addr) (xs : List Int) (len cap : Nat), v = .slice q len cap ∧ xs.length = len ∧ At w q (xs.map (Value.int .u8)) ∧ len ≤ cap ∧ cap ≤ maxLen ∧ (q = none → cap = 0) ∧ (∀ n ∈ xs, 0 ≤ n ∧ n ≤ 255) := by
  obtain ⟨a0, len0, cap0, rfl⟩ := okWide_slice ht hv
  obtain ⟨fuel, hf⟩ := h
  rcases open_ints ht he hc hf with ⟨hcs, hx⟩ | ⟨a, len, cap, zs, hcs, _, hl, hm, hz, hx, hcell, hwz⟩
  · simp [Value.cells] at hcs
    obtain ⟨rfl, rfl, rfl⟩ := hcs
    exact ⟨none, [], 0, 0, rfl, rfl, At.nil _ _, Nat.le_refl _, by simp [maxLen], fun _ => rfl, by simp⟩
  · simp [Value.cells] at hcs
    obtain ⟨rfl, rfl, rfl⟩ := hcs
    have hzl : len0 ≤ zs.length := by rw [hz]; split <;> omega
    refine ⟨some a, zs.take len0, len0, cap0, rfl, by simp; omega, ?_, hl, hm, (fun h => by cases h), fun n hn => bounds_u8 (hwz n (List.mem_of_mem_take hn))⟩
    by_cases h0 : len0 = 0
    · subst h0; simp; exact At.nil _ _
    · have h1 := hcell 0 (by omega)
      have hsp : a.spot = none := by
        have : a.add 0 = a := by simp [Addr.add]
        rw [this] at h1
        cases hs : a.spot with
        | none => rfl
        | some s =>
          unfold World.cell? at h1
          split at h1
          · simp [hs] at h1
          · cases h1
      obtain ⟨b, off, sp⟩ := a
      simp only at hsp
      subst hsp
      refine Or.inr ⟨b, off, rfl, fun i v hi => ?_⟩
      rw [List.getElem?_map] at hi
      rcases Nat.lt_or_ge i len0 with hlt | hge
      · rw [List.getElem?_take, if_pos hlt, List.getElem?_eq_getElem (by omega)] at hi
        simp at hi
        subst hi
        have := hcell i (by omega)
        rw [Addr.add_mid] at this
        rw [this]; simp [List.getElem?_eq_getElem (show i < zs.length by omega)]
      · rw [List.getElem?_eq_none (by simp; omega)] at hi; cases hi
end
end
section
set_option linter.unusedSimpArgs false
set_option linter.unusedVariables false
open Go.ChangeShapes Go.WideShapes Go.ChangeAt Go.RowKit Sha
section
variable {H : Type} {enc : TypeId × Value → H} {P : Program} {w : World} {base : Nat} {spare : Nat → Bool} {held : Bool}
/-- A slice of bytes in memory: its numbers. -/
theorem cells_bytesl {t e : TypeId} {fuel : Nat} {cs : List Value} {x : DataW H × List MemPlace} (ht : P.underlying t = some (.slice e)) (he : P.underlying e = some (.int .u8)) (hc : P.cellsOf e = 1)
    (hf : DataW.trod enc P w base spare held fuel t cs = some x) :
    ∃ (q : Option Addr) (xs : List Int) (cap : Nat), cs = [.slice q xs.length cap] ∧ At w q (xs.map v8) ∧ xs.length ≤ cap ∧ cap ≤ maxLen ∧ (q = none → cap = 0) ∧ (∀ n ∈ xs, 0 ≤ n ∧ n ≤ 255) := by
  rcases open_ints ht he hc hf with ⟨hcs, hx⟩ | ⟨a, len, cap, zs, hcs, _, hl, hm, hz, hx, hcell, hwz⟩
  · exact ⟨none, [], 0, hcs, At.nil _ _, Nat.le_refl _, by simp [maxLen], fun _ => rfl, by simp⟩
  · have hzl : len ≤ zs.length := by rw [hz]; split <;> omega
    have hlen : (zs.take len).length = len := by simp; omega
    refine ⟨some a, zs.take len, cap, by rw [hlen]; exact hcs, ?_, by rw [hlen]; exact hl, hm, (fun h => by cases h), fun n hn => bounds_u8 (hwz n (List.mem_of_mem_take hn))⟩
    by_cases h0 : len = 0
    · subst h0; simp; exact At.nil _ _
    · have h1 := hcell 0 (by omega)
      have hsp : a.spot = none := by
        have : a.add 0 = a := by simp [Addr.add]
        rw [this] at h1
        cases hs : a.spot with
        | none => rfl
        | some s =>
          unfold World.cell? at h1
          split at h1
          · simp [hs] at h1
          · cases h1
      obtain ⟨b, off, sp⟩ := a
      simp only at hsp
      subst hsp
      refine Or.inr ⟨b, off, rfl, fun i v hi => ?_⟩
      rw [List.getElem?_map] at hi
      rcases Nat.lt_or_ge i len with hlt | hge
      · rw [List.getElem?_take, if_pos hlt, List.getElem?_eq_getElem (by omega)] at hi
        simp at hi
        subst hi
        have := hcell i (by omega)
        rw [Addr.add_mid] at this
        rw [this]; simp [v8, List.getElem?_eq_getElem (show i < zs.length by omega)]
      · rw [List.getElem?_eq_none (by simp; omega)] at hi; cases hi
end
end
section
set_option linter.unusedSimpArgs false
set_option linter.unusedVariables false
set_option maxRecDepth 100000
open Go.ChangeShapes Go.WideShapes Go.ChangeAt Go.RowKit Sha Fct
section
variable {H : Type} {enc : TypeId × Value → H} {P : Program} {w : World} {base : Nat} {spare : Nat → Bool} {held : Bool}
/-- An array of bytes in memory. -/
theorem cells_bytes9 {t e : TypeId} {n fuel : Nat} {cs : List Value} {x : DataW H × List MemPlace} (ht : P.underlying t = some (.array n e)) (he : P.underlying e = some (.int .u8)) (hce : P.cellsOf e = 1) (hct : P.cellsOf t = n)
    (hf : DataW.trod enc P w base spare held fuel t cs = some x) :
    ∃ xs : List Int, cs = xs.map v8 ∧ xs.length = n ∧ (∀ m ∈ xs, 0 ≤ m ∧ m ≤ 255) := by
  obtain ⟨ys, m, _, hx, hl, hyl, hel⟩ := DataW.trod_array ht hf
  simp only [hce, Nat.mul_one] at hel
  have hcl : cs.length = n := by rw [hl, hct]
  have each : ∀ i, i < n → ∃ z, cs[i]? = some (.int .u8 z) ∧ 0 ≤ z ∧ z ≤ 255 := by
    intro i hi
    have h1 := hel i hi
    obtain ⟨y, hy⟩ : ∃ y, ys[i]? = some y := ⟨ys[i], List.getElem?_eq_getElem (by omega)⟩
    rw [hy] at h1
    obtain ⟨z, hc, rfl, hwf⟩ := DataW.trod_int he h1
    refine ⟨z, ?_, bounds_u8 hwf⟩
    have := congrArg (·[0]?) hc
    simpa [List.getElem?_take, List.getElem?_drop] using this
  refine ⟨(cs.map fun c => match c with | .int _ z => z | _ => 0), ?_, by simpa using hcl, ?_⟩
  · simp only [List.map_map]
    apply List.ext_getElem?
    intro i
    rw [List.getElem?_map]
    by_cases hi : i < n
    · obtain ⟨z, hz, _⟩ := each i hi
      simp [hz, v8]
    · rw [List.getElem?_eq_none (by omega)]; rfl
  · intro q hq
    obtain ⟨c, hc, rfl⟩ := List.mem_map.1 hq
    obtain ⟨i, hi, hci⟩ := List.mem_iff_getElem.1 hc
    obtain ⟨z, hz, hb⟩ := each i (by omega)
    rw [List.getElem?_eq_getElem hi, hci] at hz
    cases hz
    exact hb
end
section
variable {H : Type} {enc : TypeId × Value → H} {w : World} {base : Nat} {spare : Nat → Bool} {held : Bool}
theorem trod_struct6 {P : Program} {t : TypeId} {f0 f1 f2 f3 f4 f5 : Field} {fuel : Nat} {cs : List Value} {x : DataW H × List MemPlace} (ht : P.underlying t = some (.struct #[f0, f1, f2, f3, f4, f5])) (h : DataW.trod enc P w base spare held fuel t cs = some x) :
    ∃ y0 y1 y2 y3 y4 y5 n, cs.length = P.cellsOf t ∧ DataW.trod enc P w base spare held n f0.type ((cs.drop f0.offset).take (P.cellsOf f0.type)) = some y0 ∧
      DataW.trod enc P w base spare held n f1.type ((cs.drop f1.offset).take (P.cellsOf f1.type)) = some y1 ∧ DataW.trod enc P w base spare held n f2.type ((cs.drop f2.offset).take (P.cellsOf f2.type)) = some y2 ∧
      DataW.trod enc P w base spare held n f3.type ((cs.drop f3.offset).take (P.cellsOf f3.type)) = some y3 ∧ DataW.trod enc P w base spare held n f4.type ((cs.drop f4.offset).take (P.cellsOf f4.type)) = some y4 ∧
      DataW.trod enc P w base spare held n f5.type ((cs.drop f5.offset).take (P.cellsOf f5.type)) = some y5 := by
  obtain ⟨xs, n, _, rfl, hl, hlen, hf⟩ := DataW.trod_struct ht h
  match xs, hlen with
  | [y0, y1, y2, y3, y4, y5], _ => exact ⟨y0, y1, y2, y3, y4, y5, n, hl, by simpa using hf 0 f0 rfl, by simpa using hf 1 f1 rfl, by simpa using hf 2 f2 rfl, by simpa using hf 3 f3 rfl, by simpa using hf 4 f4 rfl, by simpa using hf 5 f5 rfl⟩
theorem cells32f : Tryz.prog.cellsOf 25 = 32 := by kernel_rfl
theorem cells1sf : Tryz.prog.cellsOf 26 = 1 := by kernel_rfl
theorem cells1bf : Tryz.prog.cellsOf 5 = 1 := by kernel_rfl
theorem cells1if : Tryz.prog.cellsOf 3 = 1 := by kernel_rfl
theorem cells38 : Tryz.prog.cellsOf 28 = 38 := by kernel_rfl
theorem cells2b : Tryz.prog.cellsOf 23 = 2 := by kernel_rfl
theorem open_fact {fuel : Nat} {cs : List Value} {x : DataW H × List MemPlace} (h : DataW.trod enc Tryz.prog w base spare held fuel 28 cs = some x) :
    ∃ y : Hd Fac, cs = sF.row y ∧ sF.Good w y.1 y.2.1 y.2.2 := by
  obtain ⟨y0, y1, y2, y3, y4, y5, n, hl, h0, h1, h2, h3, h4, h5⟩ := trod_struct6 Tryz.underlying28 h
  have h0' : DataW.trod enc Tryz.prog w base spare held n 3 ((cs.drop 0).take 1) = some y0 := by rw [← cells1if]; exact h0
  have h1' : DataW.trod enc Tryz.prog w base spare held n 3 ((cs.drop 1).take 1) = some y1 := by rw [← cells1if]; exact h1
  have h2' : DataW.trod enc Tryz.prog w base spare held n 3 ((cs.drop 2).take 1) = some y2 := by rw [← cells1if]; exact h2
  have h3' : DataW.trod enc Tryz.prog w base spare held n 23 ((cs.drop 3).take 2) = some y3 := by rw [← cells2b]; exact h3
  have h4' : DataW.trod enc Tryz.prog w base spare held n 25 ((cs.drop 5).take 32) = some y4 := by rw [← cells32f]; exact h4
  have h5' : DataW.trod enc Tryz.prog w base spare held n 26 ((cs.drop 37).take 1) = some y5 := by rw [← cells1sf]; exact h5
  rw [cells38] at hl
  clear h0 h1 h2 h3 h4 h5 h
  obtain ⟨K, c0, _, hw0⟩ := DataW.trod_int Tryz.underlying3 h0'
  obtain ⟨S, c1, _, hw1⟩ := DataW.trod_int Tryz.underlying3 h1'
  obtain ⟨Hm, c2, _, hw2⟩ := DataW.trod_int Tryz.underlying3 h2'
  obtain ⟨z0, z1, n3, _, hl3, g0, g1⟩ := Go.ChangeShapes.trod_struct2 Tryz.underlying23 h3'
  have g0' : DataW.trod enc Tryz.prog w base spare held n3 3 ((((cs.drop 3).take 2).drop 0).take 1) = some z0 := by rw [← cells1if]; exact g0
  have g1' : DataW.trod enc Tryz.prog w base spare held n3 3 ((((cs.drop 3).take 2).drop 1).take 1) = some z1 := by rw [← cells1if]; exact g1
  obtain ⟨N, c3, _, hw3⟩ := DataW.trod_int Tryz.underlying3 g0'
  obtain ⟨O, c4, _, hw4⟩ := DataW.trod_int Tryz.underlying3 g1'
  obtain ⟨D, c5, hD, hDb⟩ := cells_bytes9 Tryz.underlying25 Tryz.underlying5 cells1bf cells32f h4'
  obtain ⟨q, B, cap, c6, hA, hle, hm, hn, hB⟩ := cells_bytesl Tryz.underlying26 Tryz.underlying5 cells1bf h5'
  clear h0' h1' h2' h3' h4' h5' g0 g1 g0' g1' hl3
  have e : cs = .int .i64 K :: .int .i64 S :: .int .i64 Hm :: .int .i64 N :: .int .i64 O :: (D.map v8 ++ [.slice q B.length cap]) := by
    rcases cs with _ | ⟨a0, _ | ⟨a1, _ | ⟨a2, _ | ⟨a3, _ | ⟨a4, r⟩⟩⟩⟩⟩
    · simp at hl
    · simp at hl
    · simp at hl
    · simp at hl
    · simp at hl
    · simp at c0 c1 c2 c3 c4 c5 c6 hl
      subst c0 c1 c2 c3 c4
      rw [← c5, ← c6]
      have hr : r = r.take 32 ++ (r.drop 32).take 1 := by rw [List.take_of_length_le (l := r.drop 32) (by rw [List.length_drop]; omega), List.take_append_drop]
      rw [← hr]
  have k0 := bounds_i64 hw0
  have k1 := bounds_i64 hw1
  have k2 := bounds_i64 hw2
  have k3 := bounds_i64 hw3
  have k4 := bounds_i64 hw4
  exact ⟨(⟨K, S, Hm, N, O, D, B⟩, q, cap), e, ⟨⟨k0, k1, k2, k3, k4, hDb, hB, hD⟩, hA, hle, by unfold maxLen at hm; omega, hn⟩⟩
/-- A fact among the arguments. -/
theorem open_fact1 {r : Reach} {b0 : Nat} {v : Value} {d : DataW H} {p : List MemPlace} (hv : Value.okWide Tryz.prog w r b0 28 v) (h : DataW.Trod enc Tryz.prog w base spare held 28 v d p) :
    ∃ (x : Fac) (q : Option Addr) (c : Nat), v = .agg (fcells x q c).toArray ∧ sF.Good w x q c := by
  obtain ⟨cs, rfl, _⟩ := okWide_struct Tryz.underlying28 hv
  obtain ⟨fuel, hf⟩ := h
  obtain ⟨⟨x, q, c⟩, h1, h2⟩ := open_fact hf
  exact ⟨x, q, c, by simp [Value.cells] at h1; rw [show (fcells x q c) = cs.toList from h1.symm], h2⟩
end
end
end Go.Proofs.YtokpabkcaofahaaGreat
