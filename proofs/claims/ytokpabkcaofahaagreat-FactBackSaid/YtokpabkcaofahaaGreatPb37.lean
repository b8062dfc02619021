/-
  The program's slices.BinarySearchFunc at api.Vote (written by mk9.py from Bs.src).
  The program's place at api.Vote: a thing is laid where it belongs, if it isn't there (written by mk9.py from Pl.src).
-/
import Derived.Test.YtokpabkcaofahaaGreatPb36
import Derived.Test.YtokpabkcaofahaaGreatPb15
import Derived.Test.YtokpabkcaofahaaGreatPb26
namespace Go.Proofs.YtokpabkcaofahaaGreat
section
set_option linter.unusedSimpArgs false
set_option linter.unusedVariables false
open Go.RowKit Sha Fct
theorem ordc_V (x y : Vot) (q r : Option Addr) (c d : Nat) (w : World) (hx : sV.ok x) (hy : sV.ok y) :
    Calls Tryz.prog 160 #[.agg (vcells x q c).toArray, .agg (vcells y r d).toArray] w fun e w' => e = .returned (.int .i64 (ordV x y)) ∧ Below w.heap.size w w' := votes_any x y q r c d w
theorem ordn_V (x y : Vot) : ordV x y < 0 ↔ ilt (vkey x) (vkey y) = true := cmpI_neg x.S y.S
theorem ordz_V (x y : Vot) : ordV x y = 0 ↔ vkey x = vkey y := cmpI_zero x.S y.S
theorem execOp_loadOV (ρ : Operand → Value) (dst : Option Tmp) (x : Operand) (ty : TypeId) (pos : String) (after : Array Edge) (guard : Option (Nat × Bool)) :
    execOp ρ { dst := dst, op := .load 62 x, type := ty, pos := pos, after := after, guard := guard } = loadOp 62 (ρ x) := by unfold loadOp; rfl
theorem load_OV {w : World} {g o : Nat} {x : Vot} (hx : sV.ok x) {q : Option Addr} {c : Nat} (h : w.rangeAt g o (vcells x q c)) : (loadOp 62 (.pointer (some ⟨g, o, none⟩))).run Tryz.prog w = .ok (.value (.agg (vcells x q c).toArray)) w :=
  run_loadOp (run_loadAt_mid w g o 62 _ _ h Tryz.underlying62 rfl (by rw [isize_V]; exact congrArg some (sV.len q c hx).symm))
attribute [local go_sem ↓] execOp_loadOV execOp_boxOV
set_option maxRecDepth 100000 in
set_option maxHeartbeats 2000000 in
theorem bs_V (l : List (Vot)) (p : Option Addr) (n c : Nat) (w : World) (h : sV.Told w p n c l) (hup : Rise.Up vkey ilt l) (x : Vot) (q : Option Addr) (d : Nat) (hx : sV.ok x) (hn : n ≤ 1000000000) :
    Calls Tryz.prog 180 #[.slice p n c, .agg (vcells x q d).toArray, .func (.func 160) #[] #[]] w fun e w' =>
      e = .returned (.tuple #[.int .i64 (Rise.place vkey ilt (vkey x) l : Nat), .bool (Rise.found vkey ilt (vkey x) l)]) ∧ Below w.heap.size w w' := by
  have bx := run_boxOp (P := Tryz.prog) (t := 62) (cs := (vcells x q d).toArray) w
  have hb1 := (Below.refl w.heap.size w).alloc (Nat.le_refl _) (.cells (vcells x q d).toArray 62)
  have hk1 : Blk (w.alloc (.cells (vcells x q d).toArray 62)) w.heap.size (vcells x q d) 62 := Blk.new w _ 62
  obtain ⟨w1, hw1⟩ : ∃ v, v = w.alloc (.cells (vcells x q d).toArray 62) := ⟨_, rfl⟩
  rw [← hw1] at bx hb1 hk1
  obtain ⟨g0, hg0⟩ : ∃ g, g = w.heap.size := ⟨_, rfl⟩
  rw [← hg0] at bx hk1
  obtain ⟨pl, hpl⟩ : ∃ k, k = Rise.place vkey ilt (vkey x) l := ⟨_, rfl⟩
  have hple : pl ≤ n := by rw [hpl, h.len]; exact Rise.place_le _ _
  have HPL := Lib.hid hpl
  have HB1 := Lib.hid hb1
  have HK := Lib.hid hk1
  have HT := Lib.hid (h.below hb1)
  have HX := Lib.hid hx
  have HUP := Lib.hid hup
  have HN := Lib.hid (show n = l.length from h.len)
  rw [← hpl]
  obtain ⟨fd, hfd⟩ : ∃ f, f = Rise.found vkey ilt (vkey x) l := ⟨_, rfl⟩
  have HFD := Lib.hid hfd
  rw [← hfd]
  clear hfd hw1 hg0 hpl hb1 hk1 h hup hx
  go_enter Tryz.func180, Tryz.ntmps180
  go_wp2_with fail
  go_loopw [9, 10] (fun i j wr => ∃ a b : Nat, i = .int .i64 a ∧ j = .int .i64 b ∧ a ≤ pl ∧ pl ≤ b ∧ b ≤ n ∧ Hid (Below w1.heap.size w1 wr)) (fun i j _ => (intOf j).toNat - (intOf i).toNat)
  case atStart => exact ⟨0, n, rfl, rfl, by omega, hple, by omega, Lib.hid (Below.refl _ _)⟩
  case round =>
    obtain ⟨a, b, rfl, rfl, ha, hb, hbn, HBR⟩ := hrel
    by_cases hab : a < b
    · obtain ⟨m, hm⟩ : ∃ m, m = (a + b) / 2 := ⟨_, rfl⟩
      have hma : a ≤ m ∧ m < b := by omega
      have hm2 : ((a : Int) + (b : Int)) / 2 = (m : Int) := by omega
      have hml : m < l.length := by rw [← HN.out]; omega
      obtain ⟨b0, off, q2, c2, hp, hr, hgd⟩ := (HT.out.below HBR.out).rows.get m hml
      obtain ⟨y, hy⟩ : ∃ y, y = l[m] := ⟨_, rfl⟩
      have hlo := fun h => Rise.place_lt (key := vkey) (lt := ilt) (vkey x) l m hml (by rw [← HPL.out]; exact h)
      have hhi := fun h => Rise.place_ge ilt_ord (vkey x) l HUP.out m hml (by rw [← HPL.out]; exact h)
      rw [← hy] at hr hgd hlo hhi
      subst hp
      have hr2 : wr.rangeAt b0 (off + m * 6) (vcells y q2 c2) := hr
      obtain ⟨I, W, hC⟩ := cls_of wr
      have hne : Nonempty I := hC.ne
      have lM := fun n => load_OV hgd.ok (range_below hr2 (hC.back n))
      have lX := fun n => load_OV HX.out ((HK.out.below HBR.out HK.out.lt).below (hC.back n) (HK.out.below HBR.out HK.out.lt).lt).range
      have QS := Lib.hid (hC.call (P := Tryz.prog) (f := 160) (args := #[.agg (vcells y q2 c2).toArray, .agg (vcells x q d).toArray]) (v := .int .i64 (ordV y x)) (fun w' hb => ordc_V y x q2 q c2 d w' hgd.ok HX.out))
      have hjn : (0 : Int) ≤ (m : Int) ∧ (m : Int) < (n : Int) := by omega
      have HC := Lib.hid hC
      have HDN := Lib.hid (ordn_V y x)
      generalize hod : ordV y x = od at *
      clear hod hr hr2 hgd hy hml hm hC
      by_cases hpm : m < pl
      · have t1 : decide (od < 0) = true := by rw [decide_eq_true_iff]; exact HDN.out.2 (hlo hpm)
        clear hlo hhi HDN
        go_wp2_with fail
        refine wp_region_cls W (by kernel_rfl) (by kernel_rfl) HC.out.one ?_
        repeat go_big_quiet_step ((go_at_call 160; exact QS.out _))
        refine wpQuiet_nil ?_
        rintro _ ⟨nq, rfl⟩
        have HB2 := Lib.hid (HBR.out.trans ((HC.out.back nq).mono HBR.out.size))
        clear lM lX QS hm2
        go_wp2_with fail
        go_roundw
        case rel => exact ⟨m + 1, b, by go_num, rfl, by omega, hb, hbn, HB2⟩
        case measure => simp [intOf]; omega
      · have t1 : decide (od < 0) = false := by
          rw [decide_eq_false_iff_not]
          intro h
          have h2 := HDN.out.1 h
          rw [hhi (by omega)] at h2; cases h2
        clear hlo hhi HDN
        go_wp2_with fail
        refine wp_region_cls W (by kernel_rfl) (by kernel_rfl) HC.out.one ?_
        repeat go_big_quiet_step ((go_at_call 160; exact QS.out _))
        refine wpQuiet_nil ?_
        rintro _ ⟨nq, rfl⟩
        have HB2 := Lib.hid (HBR.out.trans ((HC.out.back nq).mono HBR.out.size))
        clear lM lX QS hm2
        go_wp2_with fail
        go_roundw
        case rel => exact ⟨a, m, rfl, rfl, ha, by omega, by omega, HB2⟩
        case measure => simp [intOf]; omega
    · obtain rfl : a = pl := by omega
      obtain rfl : b = a := by omega
      by_cases hbl : b < n
      · have hml : b < l.length := by rw [← HN.out]; omega
        obtain ⟨b0, off, q2, c2, hp, hr, hgd⟩ := (HT.out.below HBR.out).rows.get b hml
        have hfi : fd = true ↔ vkey l[b] = vkey x := by
          have h2 := Rise.found_iff (key := vkey) (lt := ilt) (vkey x) l
          rw [← HFD.out] at h2
          rw [h2]
          have h3 := HPL.out
          constructor
          · rintro ⟨_, h⟩; simpa only [← h3] using h
          · intro h; exact ⟨by rw [← h3]; exact hml, by simpa only [← h3] using h⟩
        obtain ⟨y, hy⟩ : ∃ y, y = l[b] := ⟨_, rfl⟩
        rw [← hy] at hr hgd hfi
        subst hp
        have hr2 : wr.rangeAt b0 (off + b * 6) (vcells y q2 c2) := hr
        obtain ⟨I, W, hC⟩ := cls_of wr
        have hne : Nonempty I := hC.ne
        have lM := fun n => load_OV hgd.ok (range_below hr2 (hC.back n))
        have lX := fun n => load_OV HX.out ((HK.out.below HBR.out HK.out.lt).below (hC.back n) (HK.out.below HBR.out HK.out.lt).lt).range
        have QS := Lib.hid (hC.call (P := Tryz.prog) (f := 160) (args := #[.agg (vcells y q2 c2).toArray, .agg (vcells x q d).toArray]) (v := .int .i64 (ordV y x)) (fun w' hb => ordc_V y x q2 q c2 d w' hgd.ok HX.out))
        have hjn : (0 : Int) ≤ (b : Int) ∧ (b : Int) < (n : Int) := by omega
        have HC := Lib.hid hC
        have hdz := ordz_V y x
        have t1 : (ordV y x == 0) = fd := by
          rw [Bool.eq_iff_iff, beq_iff_eq, hdz]; exact hfi.symm
        have tg : decide ((b : Int) < (n : Int)) = true := by simpa using hbl
        generalize ordV y x = od at *
        clear hdz hr hr2 hgd hy hml hC hfi
        go_wp2_with fail
        refine wp_region_cls W (by kernel_rfl) (by kernel_rfl) HC.out.one ?_
        repeat go_big_quiet_step ((go_at_call 160; exact QS.out _))
        refine wpQuiet_nil ?_
        rintro _ ⟨nq, rfl⟩
        have HB2 := Lib.hid (HB1.out.trans ((HBR.out.trans ((HC.out.back nq).mono HBR.out.size)).mono HB1.out.size))
        clear lM lX QS
        go_wp2_with fail
        go_ret2
        exact ⟨rfl, HB2.out⟩
      · have hf2 : fd = false := by
          rw [Bool.eq_false_iff]
          intro h
          rw [HFD.out, Rise.found_iff] at h
          obtain ⟨h2, _⟩ := h
          rw [← HPL.out, ← HN.out] at h2
          exact hbl h2
        subst hf2
        have tg : decide ((b : Int) < (n : Int)) = false := by simpa using hbl
        obtain ⟨I, W, hC⟩ := cls_of wr
        have hne : Nonempty I := hC.ne
        have HC := Lib.hid hC
        clear hC
        go_wp2_with fail
        refine wp_region_cls W (by kernel_rfl) (by kernel_rfl) HC.out.one ?_
        repeat go_big_quiet_step (fail)
        refine wpQuiet_nil ?_
        rintro _ ⟨nq, rfl⟩
        have HB2 := Lib.hid (HB1.out.trans ((HBR.out.trans ((HC.out.back nq).mono HBR.out.size)).mono HB1.out.size))
        go_wp2_with fail
        go_ret2
        exact ⟨rfl, HB2.out⟩
end
section
set_option linter.unusedSimpArgs false
set_option linter.unusedVariables false
open Go.RowKit Sha Fct
theorem info2_V : (Tryz.prog.info? 62).map (fun i => (i.zero, i.size)) = some (some (.agg (vcells ⟨0, 0, 0, 0, 0, []⟩ none 0).toArray), 6) := by unfold vcells; kernel_rfl
theorem execOp_buildOV (ρ : Operand → Value) (dst : Option Tmp) (len : Nat) (parts : Array (Nat × Operand)) (ty : TypeId) (pos : String) (after : Array Edge) (guard : Option (Nat × Bool)) :
    execOp ρ { dst := dst, op := .buildSlice 44 len parts, type := ty, pos := pos, after := after, guard := guard } = buildOp 44 len (parts.map fun (i, x) => (i, ρ x)) := by unfold buildOp; rfl
theorem build_OV (w : World) {x : Vot} (hx : sV.ok x) (q : Option Addr) (c : Nat) : (buildOp 44 1 #[(0, .agg (vcells x q c).toArray)]).run Tryz.prog w = .ok (.value (.slice (some ⟨w.heap.size, 0, none⟩) 1 1)) (w.alloc (.cells (vcells x q c).toArray 62)) := by
  have hl : (vcells x q c).length = 6 := sV.len q c hx
  have := run_build_items (P := Tryz.prog) w 44 62 6 _ (by omega) Tryz.underlying44 info2_V [vcells x q c] (by intro d hd; simp at hd; subst hd; exact hl) (by simp)
  exact run_buildOp (by simpa using this)
theorem t8_V : (5 : TypeId) ≠ 62 := by decide
/-- What place leaves. -/
def PlcV (w : World) (B : Nat) (v : Value) (l : List (Vot)) (x : Vot) (e : Ending) (w' : World) : Prop :=
  ∃ v' zs, e = .returned (.tuple #[v', .int .i64 (Rise.place vkey ilt (vkey x) l : Nat)]) ∧ Rws sV 62 w' B v' zs ∧ zs.map (·.1) = Rise.add vkey ilt x l ∧ w.grownBy w' v.ownBlock ∧ RowTy w v.ownBlock 62 ∧ (∀ g, v'.ownBlock = some g → v.ownBlock = some g ∨ w.heap.size ≤ g)
attribute [local go_sem ↓] execOp_loadOV execOp_boxOV execOp_buildOV
set_option maxRecDepth 100000 in
set_option maxHeartbeats 2000000 in
theorem place_V (w : World) (B : Nat) (v : Value) (ys : List (Hd (Vot))) (h : Rws sV 62 w B v ys) (hup : Rise.Up vkey ilt (ys.map (·.1))) (x : Vot) (q : Option Addr) (d : Nat) (hx : sV.Good w x q d) (hu : U8 w q (sV.byt x)) (hn : ys.length ≤ 1000000000) (hB : B ≤ w.heap.size) :
    Calls Tryz.prog 159 #[v, .agg (vcells x q d).toArray, .func (.func 160) #[] #[]] w (PlcV w B v (ys.map (·.1)) x) := by
  obtain ⟨p, c, rfl, ht⟩ := h.told
  obtain ⟨n, hnl⟩ : ∃ n, n = ys.length := ⟨_, rfl⟩
  rw [← hnl] at ht hn
  have bx := run_boxOp (P := Tryz.prog) (t := 62) (cs := (vcells x q d).toArray) w
  have hb1 := (Below.refl w.heap.size w).alloc (Nat.le_refl _) (.cells (vcells x q d).toArray 62)
  have hk1 : Blk (w.alloc (.cells (vcells x q d).toArray 62)) w.heap.size (vcells x q d) 62 := Blk.new w _ 62
  obtain ⟨w1, hw1⟩ : ∃ v, v = w.alloc (.cells (vcells x q d).toArray 62) := ⟨_, rfl⟩
  rw [← hw1] at bx hb1 hk1
  obtain ⟨g0, hg0⟩ : ∃ g, g = w.heap.size := ⟨_, rfl⟩
  rw [← hg0] at bx hk1
  have HBS := Lib.hid (bs_V (ys.map (·.1)) p n c w1 (ht.below hb1) hup x q d hx.ok hn)
  obtain ⟨l, hl⟩ : ∃ l, l = ys.map (·.1) := ⟨_, rfl⟩
  rw [← hl] at HBS hup ht ⊢
  obtain ⟨pl, hpl⟩ : ∃ k, k = Rise.place vkey ilt (vkey x) l := ⟨_, rfl⟩
  have hple : pl ≤ n := by rw [hpl, ht.len]; exact Rise.place_le _ _
  have HPL := Lib.hid hpl
  have HL := Lib.hid hl
  have HNL := Lib.hid hnl
  have HB1 := Lib.hid hb1
  have HK := Lib.hid hk1
  have HR := Lib.hid h
  have HX := Lib.hid hx
  have HU := Lib.hid hu
  rw [← hpl] at HBS
  rw [← hnl]
  clear hw1 hg0 hpl hl hnl hb1 hk1 h hup hx hu ht
  cases hf : Rise.found vkey ilt (vkey x) l with
  | true =>
    rw [hf] at HBS
    have HQ := Lib.hid (Rise.add_found (x := x) hf)
    clear hf
    have l1 := load_OV HX.out.ok HK.out.range
    go_enter Tryz.func159, Tryz.ntmps159
    go_wp2_with fail
    refine HBS.out.mono ?_
    rintro e w2 ⟨rfl, hb2⟩
    have HB2 := Lib.hid (HB1.out.trans (hb2.mono HB1.out.size))
    clear hb2
    go_wp2_with fail
    go_ret2
    refine ⟨.slice p n c, ys, by rw [← HPL.out]; rfl, ?_, by rw [HQ.out, HL.out], ⟨HB2.out.os, HB2.out.tape, HB2.out.output, HB2.out.size, fun k hk _ => HB2.out.block k hk⟩, ?_, fun g hg => Or.inl hg⟩
    · have h2 := HR.out.below HB2.out
      rw [HNL.out]; exact h2
    · have h2 := RowTy.of HR.out.own
      rw [HNL.out]; exact h2
  | false =>
    rw [hf] at HBS
    have HQ := Lib.hid (Rise.add_new (x := x) hf)
    clear hf
    have l1 := load_OV HX.out.ok HK.out.range
    go_enter Tryz.func159, Tryz.ntmps159
    go_wp2_with fail
    refine HBS.out.mono ?_
    rintro e w2 ⟨rfl, hb2⟩
    have HB2 := Lib.hid (HB1.out.trans (hb2.mono HB1.out.size))
    have HK2 := Lib.hid (HK.out.below hb2 HK.out.lt)
    have HR2 := Lib.hid (HR.out.below HB2.out)
    have lx := load_OV HX.out.ok HK2.out.range
    have bi := build_OV w2 HX.out.ok q d
    have hb3 := HB2.out.alloc HB2.out.size (.cells (vcells x q d).toArray 62)
    have hb23 := (Below.refl w2.heap.size w2).alloc (Nat.le_refl _) (.cells (vcells x q d).toArray 62)
    have hk3 : Blk (w2.alloc (.cells (vcells x q d).toArray 62)) w2.heap.size (vcells x q d) 62 := Blk.new w2 _ 62
    have hr3 := HR2.out.below hb23
    have hlt3 := fun k hk => (HR2.out.own.lt k hk).2
    obtain ⟨pb, hpb⟩ : ∃ g, g = w2.heap.size := ⟨_, rfl⟩
    rw [← hpb] at bi hk3
    have HNE := Lib.hid (show (Value.slice p n c).ownBlock ≠ some pb from fun e => by
      have h2 := hlt3 pb (by rw [← HNL.out]; exact e)
      omega)
    generalize w2.alloc (.cells (vcells x q d).toArray 62) = w3 at *
    have HIN := Lib.hid (ins_V w3 B (.slice p n c) n (ys.flatMap sV.row) (by have h2 := hr3.own; rw [← HNL.out] at h2; exact h2) (Shp.flat_one ys) pl hple pb (vcells x q d) (sV.len q d HX.out.ok) (sV.one x q d) hk3 HNE.out hn (Nat.le_trans hB hb3.size))
    have HB3 := Lib.hid hb3
    have HR3 := Lib.hid hr3
    clear hb2 hb23 hk3 hr3 hlt3 hpb hb3 HBS
    go_wp2_with fail
    refine HIN.out.mono ?_
    rintro e w4 ⟨v4, rfl, ho4, hg4, ha4⟩
    have HO4 := Lib.hid ho4
    have HG4 := Lib.hid hg4
    have HA4 := Lib.hid ha4
    clear ho4 hg4 ha4
    go_wp2_with fail
    go_ret2
    have hfl : (ys.flatMap sV.row).take (pl * 6) ++ vcells x q d ++ (ys.flatMap sV.row).drop (pl * 6) = (ys.take pl ++ (x, q, d) :: ys.drop pl).flatMap sV.row := by
      have h1 := flat_takeS (S := sV) ys HR.out.ok pl
      have h2 := flat_dropS (S := sV) ys HR.out.ok pl
      rw [List.flatMap_append, List.flatMap_cons, ← h1, ← h2, List.append_assoc]; rfl
    have hty : RowTy w3 (Value.slice p n c).ownBlock 62 := by have h2 := RowTy.of HR3.out.own; rw [← HNL.out] at h2; exact h2
    have hll : (ys.take pl ++ (x, q, d) :: ys.drop pl).length = n + 1 := by
      rw [List.length_append, List.length_cons, List.length_take, List.length_drop, ← HNL.out]; omega
    refine ⟨v4, ys.take pl ++ (x, q, d) :: ys.drop pl, by rw [← HPL.out]; rfl, ⟨?_, ?_⟩, ?_, ?_, ?_, ?_⟩
    · rw [hll, ← hfl]; exact HO4.out
    · intro y hy
      have hold : ∀ y ∈ ys, sV.Good w4 y.1 y.2.1 y.2.2 ∧ U8 w4 y.2.1 (sV.byt y.1) := fun y hy =>
        ⟨good_grown (HR3.out.good y hy).1 (HR3.out.good y hy).2 HG4.out hty t8_V, u8_grown (HR3.out.good y hy).2 HG4.out hty t8_V⟩
      rcases List.mem_append.1 hy with hy | hy
      · exact hold y (List.mem_of_mem_take hy)
      · rcases List.mem_cons.1 hy with rfl | hy
        · exact ⟨good_grown (HX.out.below HB3.out) (HU.out.below HB3.out) HG4.out hty t8_V, u8_grown (HU.out.below HB3.out) HG4.out hty t8_V⟩
        · exact hold y (List.mem_of_mem_drop hy)
    · rw [HQ.out, ← HPL.out, HL.out]; simp
    · exact ⟨HG4.out.os.trans HB3.out.os, HG4.out.tape.trans HB3.out.tape, HG4.out.output.trans HB3.out.output, Nat.le_trans HB3.out.size HG4.out.size, fun k hk hne => (HG4.out.block k (Nat.lt_of_lt_of_le hk HB3.out.size) hne).trans (HB3.out.block k hk)⟩
    · have h2 := RowTy.of HR.out.own
      rw [← HNL.out] at h2; exact h2
    · intro g hg
      rcases HA4.out g hg with h2 | h2
      · exact Or.inl h2
      · exact Or.inr (Nat.le_trans HB3.out.size h2)
end
end Go.Proofs.YtokpabkcaofahaaGreat
