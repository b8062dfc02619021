/-
  The reference of the wire package: may a note's numbers be? (written by mkrw15.py)
  The reference of the wire package: may a note's other fields be? (written by mkrw15.py)
-/
import Derived.Test.YtbogjfmefkhglaaGreatP6
import Derived.Test.YtbogjfmefkhglaaGreatP3
import Derived.Test.YtbogjfmefkhglaaGreatP7
import Derived.Deep.CutRange
namespace Go.Proofs.YtbogjfmefkhglaaGreat
section
set_option linter.unusedSimpArgs false
set_option linter.unusedVariables false
open Go.RowKit Sha Nte
section
variable (ρ : Operand → Value) (dst : Option Tmp) (ty r : TypeId) (pos : String) (after : Array Edge) (guard : Option (Nat × Bool)) (x y : Operand)
theorem execOp_neCallR : execOp ρ { dst := dst, op := .binOp .neq 23 x y r, type := ty, pos := pos, after := after, guard := guard } = neO 23 x y (ρ x) (ρ y) := by unfold neO; rfl
theorem execOp_neBalR : execOp ρ { dst := dst, op := .binOp .neq 25 x y r, type := ty, pos := pos, after := after, guard := guard } = neO 25 x y (ρ x) (ρ y) := by unfold neO; rfl
theorem execOp_makeCallR (parts : Array (Nat × Operand)) : execOp ρ { dst := dst, op := .build 23 parts, type := ty, pos := pos, after := after, guard := guard } = makeOp 23 (parts.map fun (i, x) => (i, ρ x)) := by unfold makeOp; rfl
theorem execOp_makeBalR (parts : Array (Nat × Operand)) : execOp ρ { dst := dst, op := .build 25 parts, type := ty, pos := pos, after := after, guard := guard } = makeOp 25 (parts.map fun (i, x) => (i, ρ x)) := by unfold makeOp; rfl
end
theorem run_neCallR (a b c : Int) (e : Bool) (he : e = !decide (a = 0 ∧ b = 0 ∧ c = 0)) (x y : Operand) (w : World) : (neO 23 x y (.agg #[nic a, nic b, nic c]) (.agg #[nic 0, nic 0, nic 0])).run Tryz.prog w = .ok (.value (.bool e)) w := by
  subst he
  have hd : (!decide (a = 0 ∧ b = 0 ∧ c = 0)) = !(a == 0 && b == 0 && c == 0) := by
    rw [Bool.eq_iff_iff]; simp [or_assoc]
  rw [hd]
  unfold neO
  by_cases h : a = 0 <;> by_cases h2 : b = 0 <;> by_cases h3 : c = 0 <;> simp [go_sem, h, h2, h3]
theorem run_neBalR (a b : Int) (e : Bool) (he : e = !decide (a = 0 ∧ b = 0)) (x y : Operand) (w : World) : (neO 25 x y (.agg #[nic a, nic b]) (.agg #[nic 0, nic 0])).run Tryz.prog w = .ok (.value (.bool e)) w := by
  subst he
  have hd : (!decide (a = 0 ∧ b = 0)) = !(a == 0 && b == 0) := by
    rw [Bool.eq_iff_iff]; simp
  rw [hd]
  unfold neO
  by_cases h : a = 0 <;> by_cases h2 : b = 0 <;> simp [go_sem, h, h2]
theorem callR_zero : Tryz.prog.built 23 [] = some #[nic 0, nic 0, nic 0] := by kernel_rfl
theorem balR_zero : Tryz.prog.built 25 [] = some #[nic 0, nic 0] := by kernel_rfl
/-- A part of an answer: a letter's field is beyond its bounds, or set without its letter. -/
def nbad (has ok zero : Bool) : Bool := (has && !ok) || (!has && !zero)
theorem nbad_no {p q r : Prop} [Decidable p] [Decidable q] [Decidable r] : nbad (decide p) (decide q) (decide r) = !decide (if p then q else r) := by
  unfold nbad
  by_cases h : p <;> simp [h]
section
attribute [local go_sem ↓] execOp_boxNote execOp_loadInt execOp_loadBool execOp_loadCall execOp_loadBall execOp_neCallR execOp_neBalR execOp_makeCallR execOp_makeBalR execOp_eqBall
set_option maxRecDepth 100000 in
set_option maxHeartbeats 4000000 in
theorem rnumbers_any (x : Not) (h : NHd) (w : World) (hx : x.D.length = 32) : Calls Tryz.prog 30 #[.agg (ncells x h).toArray] w fun e w' => e = .returned (.bool (decide (Nums x))) ∧ Below w.heap.size w w' := by
  obtain ⟨g, w1, r1, hg1, hl1, K1, B1⟩ := box_note w x h
  have HB1 := Lib.hid B1
  have HK1 := Lib.hid K1
  have HX := Lib.hid hx
  obtain ⟨kd, hkd⟩ : ∃ k, k = x.K := ⟨_, rfl⟩
  obtain ⟨bc, hbc⟩ : ∃ b, b = decide (99 ∈ letters x.K) := ⟨_, rfl⟩
  obtain ⟨bs, hbs⟩ : ∃ b, b = decide (115 ∈ letters x.K) := ⟨_, rfl⟩
  obtain ⟨bh, hbh⟩ : ∃ b, b = decide (104 ∈ letters x.K) := ⟨_, rfl⟩
  obtain ⟨bb, hbb⟩ : ∃ b, b = decide (98 ∈ letters x.K) := ⟨_, rfl⟩
  obtain ⟨bo, hbo⟩ : ∃ b, b = decide (111 ∈ letters x.K) := ⟨_, rfl⟩
  have HS := Lib.hid (show ∀ w', Below w1.heap.size w1 w' → (loadOp 3 (.pointer (some ⟨g, 0, none⟩))).run Tryz.prog w' = .ok (.value (nic kd)) w' from fun w' hb => by rw [hkd]; exact (nblk (HK1.out.below hb HK1.out.lt) HX.out).c0)
  have NB := Lib.hid (show ∀ w', Below w1.heap.size w1 w' → NBlk w' g x h from fun w' hb => nblk (HK1.out.below hb HK1.out.lt) HX.out)
  have H99 := Lib.hid (show ∀ w, Calls Tryz.prog 59 #[.int .i64 kd, .int .u8 99] w fun e w' => e = .returned (.bool bc) ∧ Below w.heap.size w w' from fun w => by rw [hkd, hbc]; exact rhas_any _ _ w)
  have H115 := Lib.hid (show ∀ w, Calls Tryz.prog 59 #[.int .i64 kd, .int .u8 115] w fun e w' => e = .returned (.bool bs) ∧ Below w.heap.size w w' from fun w => by rw [hkd, hbs]; exact rhas_any _ _ w)
  have H104 := Lib.hid (show ∀ w, Calls Tryz.prog 59 #[.int .i64 kd, .int .u8 104] w fun e w' => e = .returned (.bool bh) ∧ Below w.heap.size w w' from fun w => by rw [hkd, hbh]; exact rhas_any _ _ w)
  have H98 := Lib.hid (show ∀ w, Calls Tryz.prog 59 #[.int .i64 kd, .int .u8 98] w fun e w' => e = .returned (.bool bb) ∧ Below w.heap.size w w' from fun w => by rw [hkd, hbb]; exact rhas_any _ _ w)
  have H111 := Lib.hid (show ∀ w, Calls Tryz.prog 59 #[.int .i64 kd, .int .u8 111] w fun e w' => e = .returned (.bool bo) ∧ Below w.heap.size w w' from fun w => by rw [hkd, hbo]; exact rhas_any _ _ w)
  obtain ⟨ca, hca⟩ : ∃ b, b = decide (Nte.Call x) := ⟨_, rfl⟩
  obtain ⟨cz, hcz⟩ : ∃ b, b = decide (NoCall x) := ⟨_, rfl⟩
  obtain ⟨so, hso⟩ : ∃ b, b = decide (setOk x.S) := ⟨_, rfl⟩
  obtain ⟨sz, hsz⟩ : ∃ b, b = decide (x.S = 0) := ⟨_, rfl⟩
  obtain ⟨ho, hho⟩ : ∃ b, b = decide (nodeOk x.H) := ⟨_, rfl⟩
  obtain ⟨hz, hhz⟩ : ∃ b, b = decide (x.H = 0) := ⟨_, rfl⟩
  obtain ⟨bl, hbl⟩ : ∃ b, b = decide (setOk x.B1 ∧ nodeOk x.B2) := ⟨_, rfl⟩
  obtain ⟨bz, hbz⟩ : ∃ b, b = decide (x.B1 = 0 ∧ x.B2 = 0) := ⟨_, rfl⟩
  obtain ⟨oo, hoo⟩ : ∃ b, b = decide (setOk x.O1 ∧ nodeOk x.O2) := ⟨_, rfl⟩
  obtain ⟨oz, hoz⟩ : ∃ b, b = decide (x.O1 = 0 ∧ x.O2 = 0) := ⟨_, rfl⟩
  obtain ⟨k12, hk12⟩ : ∃ b, b = (x.K == 12) := ⟨_, rfl⟩
  obtain ⟨yy, hyy⟩ : ∃ b, b = x.Y := ⟨_, rfl⟩
  have HV := Lib.hid (show ((!(nbad bc ca cz || nbad bs so sz)) && ((!(nbad bh ho hz || nbad bb bl bz)) && (oz || (bo && (oo && !(k12 && yy)))))) = decide (Nums x) by
    rw [hbc, hca, hcz, hbs, hso, hsz, hbh, hho, hhz, hbb, hbl, hbz, hoz, hbo, hoo, hk12, hyy, nbad_no, nbad_no, nbad_no, nbad_no, Bool.eq_iff_iff, decide_eq_true_iff]
    unfold Nums
    simp only [Bool.and_eq_true, Bool.or_eq_true, Bool.not_eq_true', Bool.or_eq_false_iff, Bool.not_eq_false', decide_eq_true_eq, Bool.and_eq_false_iff, beq_iff_eq, beq_eq_false_iff_ne, and_assoc, ne_eq, Classical.not_and_iff_not_or_not, Bool.not_eq_true])
  have HC := Lib.hid (show ∀ w, Calls Tryz.prog 60 #[.agg #[nic x.C1, nic x.C2, nic x.C3]] w fun e w' => e = .returned (.bool ca) ∧ Below w.heap.size w w' from fun w => by rw [hca]; exact rcall_any _ _ _ w)
  have HSE := Lib.hid (show ∀ w, Calls Tryz.prog 61 #[.int .i64 x.S] w fun e w' => e = .returned (.bool so) ∧ w = w' from fun w => by rw [hso]; exact rset_any _ w)
  have HNO := Lib.hid (show ∀ w, Calls Tryz.prog 29 #[.int .i64 x.H] w fun e w' => e = .returned (.bool ho) ∧ w = w' from fun w => by rw [hho]; exact rnode_any _ w)
  have HBA := Lib.hid (show ∀ w, Calls Tryz.prog 62 #[.agg #[nic x.B1, nic x.B2]] w fun e w' => e = .returned (.bool bl) ∧ Below w.heap.size w w' from fun w => by rw [hbl]; exact rballot_any _ _ w)
  have HOB := Lib.hid (show ∀ w, Calls Tryz.prog 62 #[.agg #[nic x.O1, nic x.O2]] w fun e w' => e = .returned (.bool oo) ∧ Below w.heap.size w w' from fun w => by rw [hoo]; exact rballot_any _ _ w)
  have ec := run_neCallR x.C1 x.C2 x.C3 (!cz) (by rw [hcz]; rfl)
  have eb := run_neBalR x.B1 x.B2 (!bz) (by rw [hbz])
  have eo := run_eqBall x.O1 x.O2 0 0 oz hoz
  have es : (x.S != 0) = !sz := by rw [hsz]; rfl
  have eh : (x.H != 0) = !hz := by rw [hhz]; rfl
  have ek : (x.K == 12) = k12 := hk12.symm
  have mc := fun w => run_makeOp w callR_zero
  have mb := fun w => run_makeOp w balR_zero
  have HYY := Lib.hid hyy
  clear hyy hkd hbc hbs hbh hbb hbo hca hcz hso hsz hho hhz hbl hbz hoo hoz hk12 K1 B1 hx hg1 hl1 HK1
  go_enter Tryz.func30, Tryz.ntmps30
  go_upto_region 1 with (fail)
  go_cut [3, 4, 5, 6, 7] from 8 to 22 (fun s3 s4 s5 s6 s7 wx => s3 = .bool bc ∧ s4 = .bool bs ∧ s5 = .bool bh ∧ s6 = .bool bb ∧ s7 = .bool bo ∧ Hid (Below w1.heap.size w1 wx))
  case first =>
    refine wp_region_held_drew (S := (fun w' => (loadOp 3 (.pointer (some ⟨g, 0, none⟩))).run Tryz.prog w' = .ok (.value (nic kd)) w')) (by kernel_rfl) (HS.out _ (Below.refl w1.heap.size w1).drew) (fun hHeld => ?_)
    have BD := Lib.hid (Below.refl w1.heap.size w1).drew
    generalize w1.drew = wd at *
    refine take_at 0 (by kernel_rfl) (v := ?v1) (by kernel_rfl) (by kernel_rfl) (by kernel_rfl) (fun _ _ _ h => h) (by rfl) ?y1 (by assumption) ?r1
    case y1 => (intro w hSw; (try dsimp only at hSw); simp only [List.getElem_cons_succ, List.getElem_cons_zero]; go_simp; (try with_reducible rfl))
    try simp only [List.getElem_cons_succ, List.getElem_cons_zero, Act.put, List.setIfInBounds_toArray, List.set_cons_zero, List.set_cons_succ]
    refine take_at 1 (by kernel_rfl) (v := ?v2) (by kernel_rfl) (by kernel_rfl) (by kernel_rfl) (fun _ _ _ h => h) (by rfl) ?y2 (by assumption) ?r2
    case y2 => (intro w hSw; (try dsimp only at hSw); simp only [List.getElem_cons_succ, List.getElem_cons_zero]; go_simp; (try with_reducible rfl))
    try simp only [List.getElem_cons_succ, List.getElem_cons_zero, Act.put, List.setIfInBounds_toArray, List.set_cons_zero, List.set_cons_succ]
    refine take_at 3 (by kernel_rfl) (v := ?v3) (by kernel_rfl) (by kernel_rfl) (by kernel_rfl) (fun _ _ _ h => h) (by rfl) ?y3 (by assumption) ?r3
    case y3 => (intro w hSw; (try dsimp only at hSw); simp only [List.getElem_cons_succ, List.getElem_cons_zero]; go_simp; (try with_reducible rfl))
    try simp only [List.getElem_cons_succ, List.getElem_cons_zero, Act.put, List.setIfInBounds_toArray, List.set_cons_zero, List.set_cons_succ]
    refine take_at 4 (by kernel_rfl) (v := ?v4) (by kernel_rfl) (by kernel_rfl) (by kernel_rfl) (fun _ _ _ h => h) (by rfl) ?y4 (by assumption) ?r4
    case y4 => (intro w hSw; (try dsimp only at hSw); simp only [List.getElem_cons_succ, List.getElem_cons_zero]; go_simp; (try with_reducible rfl))
    try simp only [List.getElem_cons_succ, List.getElem_cons_zero, Act.put, List.setIfInBounds_toArray, List.set_cons_zero, List.set_cons_succ]
    refine take_at 6 (by kernel_rfl) (v := ?v5) (by kernel_rfl) (by kernel_rfl) (by kernel_rfl) (fun _ _ _ h => h) (by rfl) ?y5 (by assumption) ?r5
    case y5 => (intro w hSw; (try dsimp only at hSw); simp only [List.getElem_cons_succ, List.getElem_cons_zero]; go_simp; (try with_reducible rfl))
    try simp only [List.getElem_cons_succ, List.getElem_cons_zero, Act.put, List.setIfInBounds_toArray, List.set_cons_zero, List.set_cons_succ]
    refine take_at 7 (by kernel_rfl) (v := ?v6) (by kernel_rfl) (by kernel_rfl) (by kernel_rfl) (fun _ _ _ h => h) (by rfl) ?y6 (by assumption) ?r6
    case y6 => (intro w hSw; (try dsimp only at hSw); simp only [List.getElem_cons_succ, List.getElem_cons_zero]; go_simp; (try with_reducible rfl))
    try simp only [List.getElem_cons_succ, List.getElem_cons_zero, Act.put, List.setIfInBounds_toArray, List.set_cons_zero, List.set_cons_succ]
    refine take_at 9 (by kernel_rfl) (v := ?v7) (by kernel_rfl) (by kernel_rfl) (by kernel_rfl) (fun _ _ _ h => h) (by rfl) ?y7 (by assumption) ?r7
    case y7 => (intro w hSw; (try dsimp only at hSw); simp only [List.getElem_cons_succ, List.getElem_cons_zero]; go_simp; (try with_reducible rfl))
    try simp only [List.getElem_cons_succ, List.getElem_cons_zero, Act.put, List.setIfInBounds_toArray, List.set_cons_zero, List.set_cons_succ]
    refine take_at 10 (by kernel_rfl) (v := ?v8) (by kernel_rfl) (by kernel_rfl) (by kernel_rfl) (fun _ _ _ h => h) (by rfl) ?y8 (by assumption) ?r8
    case y8 => (intro w hSw; (try dsimp only at hSw); simp only [List.getElem_cons_succ, List.getElem_cons_zero]; go_simp; (try with_reducible rfl))
    try simp only [List.getElem_cons_succ, List.getElem_cons_zero, Act.put, List.setIfInBounds_toArray, List.set_cons_zero, List.set_cons_succ]
    refine take_at 12 (by kernel_rfl) (v := ?v9) (by kernel_rfl) (by kernel_rfl) (by kernel_rfl) (fun _ _ _ h => h) (by rfl) ?y9 (by assumption) ?r9
    case y9 => (intro w hSw; (try dsimp only at hSw); simp only [List.getElem_cons_succ, List.getElem_cons_zero]; go_simp; (try with_reducible rfl))
    try simp only [List.getElem_cons_succ, List.getElem_cons_zero, Act.put, List.setIfInBounds_toArray, List.set_cons_zero, List.set_cons_succ]
    refine take_at 13 (by kernel_rfl) (v := ?v10) (by kernel_rfl) (by kernel_rfl) (by kernel_rfl) (fun _ _ _ h => h) (by rfl) ?y10 (by assumption) ?r10
    case y10 => (intro w hSw; (try dsimp only at hSw); simp only [List.getElem_cons_succ, List.getElem_cons_zero]; go_simp; (try with_reducible rfl))
    try simp only [List.getElem_cons_succ, List.getElem_cons_zero, Act.put, List.setIfInBounds_toArray, List.set_cons_zero, List.set_cons_succ]
    refine ready_at 2 (by kernel_rfl) (by kernel_rfl) (fun K hK => ?_)
    simp only [List.getElem_cons_succ, List.getElem_cons_zero]
    go_simp
    go_at_call 59
    refine (H99.out _).mono ?_
    rintro e wh0 ⟨rfl, hb_⟩
    have BH0 := Lib.hid (BD.out.trans (hb_.mono BD.out.size))
    clear hb_
    (try go_wp2_with fail)
    refine hK.out _ _ (HS.out _ BH0.out) (fun hHeld => ?_)
    clear hK K
    try simp only [List.getElem_cons_succ, List.getElem_cons_zero, Act.put, List.setIfInBounds_toArray, List.set_cons_zero, List.set_cons_succ]
    refine ready_at 5 (by kernel_rfl) (by kernel_rfl) (fun K hK => ?_)
    simp only [List.getElem_cons_succ, List.getElem_cons_zero]
    go_simp
    go_at_call 59
    refine (H115.out _).mono ?_
    rintro e wh1 ⟨rfl, hb_⟩
    have BH1 := Lib.hid (BH0.out.trans (hb_.mono BH0.out.size))
    clear hb_
    (try go_wp2_with fail)
    refine hK.out _ _ (HS.out _ BH1.out) (fun hHeld => ?_)
    clear hK K
    try simp only [List.getElem_cons_succ, List.getElem_cons_zero, Act.put, List.setIfInBounds_toArray, List.set_cons_zero, List.set_cons_succ]
    refine ready_at 8 (by kernel_rfl) (by kernel_rfl) (fun K hK => ?_)
    simp only [List.getElem_cons_succ, List.getElem_cons_zero]
    go_simp
    go_at_call 59
    refine (H104.out _).mono ?_
    rintro e wh2 ⟨rfl, hb_⟩
    have BH2 := Lib.hid (BH1.out.trans (hb_.mono BH1.out.size))
    clear hb_
    (try go_wp2_with fail)
    refine hK.out _ _ (HS.out _ BH2.out) (fun hHeld => ?_)
    clear hK K
    try simp only [List.getElem_cons_succ, List.getElem_cons_zero, Act.put, List.setIfInBounds_toArray, List.set_cons_zero, List.set_cons_succ]
    refine ready_at 11 (by kernel_rfl) (by kernel_rfl) (fun K hK => ?_)
    simp only [List.getElem_cons_succ, List.getElem_cons_zero]
    go_simp
    go_at_call 59
    refine (H98.out _).mono ?_
    rintro e wh3 ⟨rfl, hb_⟩
    have BH3 := Lib.hid (BH2.out.trans (hb_.mono BH2.out.size))
    clear hb_
    (try go_wp2_with fail)
    refine hK.out _ _ (HS.out _ BH3.out) (fun hHeld => ?_)
    clear hK K
    try simp only [List.getElem_cons_succ, List.getElem_cons_zero, Act.put, List.setIfInBounds_toArray, List.set_cons_zero, List.set_cons_succ]
    refine ready_at 14 (by kernel_rfl) (by kernel_rfl) (fun K hK => ?_)
    simp only [List.getElem_cons_succ, List.getElem_cons_zero]
    go_simp
    go_at_call 59
    refine (H111.out _).mono ?_
    rintro e wh4 ⟨rfl, hb_⟩
    have BH4 := Lib.hid (BH3.out.trans (hb_.mono BH3.out.size))
    clear hb_
    (try go_wp2_with fail)
    refine hK.out _ _ (HS.out _ BH4.out) (fun hHeld => ?_)
    clear hK K
    try simp only [List.getElem_cons_succ, List.getElem_cons_zero, Act.put, List.setIfInBounds_toArray, List.set_cons_zero, List.set_cons_succ]
    refine take_at 15 (by kernel_rfl) (v := ?v11) (by kernel_rfl) (by kernel_rfl) (by kernel_rfl) (fun _ _ _ h => h) (by rfl) ?y11 (by assumption) ?r11
    case y11 => (intro w hSw; (try dsimp only at hSw); simp only [List.getElem_cons_succ, List.getElem_cons_zero]; go_simp; (try with_reducible rfl))
    try simp only [List.getElem_cons_succ, List.getElem_cons_zero, Act.put, List.setIfInBounds_toArray, List.set_cons_zero, List.set_cons_succ]
    refine take_at 16 (by kernel_rfl) (v := ?v12) (by kernel_rfl) (by kernel_rfl) (by kernel_rfl) (fun _ _ _ h => h) (by rfl) ?y12 (by assumption) ?r12
    case y12 => (intro w hSw; (try dsimp only at hSw); simp only [List.getElem_cons_succ, List.getElem_cons_zero]; go_simp; (try with_reducible rfl))
    try simp only [List.getElem_cons_succ, List.getElem_cons_zero, Act.put, List.setIfInBounds_toArray, List.set_cons_zero, List.set_cons_succ]
    refine take_at 17 (by kernel_rfl) (v := ?v13) (by kernel_rfl) (by kernel_rfl) (by kernel_rfl) (fun _ _ _ h => h) (by rfl) ?y13 (by assumption) ?r13
    case y13 => (intro w hSw; (try dsimp only at hSw); simp only [List.getElem_cons_succ, List.getElem_cons_zero]; go_simp; (try with_reducible rfl))
    try simp only [List.getElem_cons_succ, List.getElem_cons_zero, Act.put, List.setIfInBounds_toArray, List.set_cons_zero, List.set_cons_succ]
    refine take_at 18 (by kernel_rfl) (v := ?v14) (by kernel_rfl) (by kernel_rfl) (by kernel_rfl) (fun _ _ _ h => h) (by rfl) ?y14 (by assumption) ?r14
    case y14 => (intro w hSw; (try dsimp only at hSw); simp only [List.getElem_cons_succ, List.getElem_cons_zero]; go_simp; (try with_reducible rfl))
    try simp only [List.getElem_cons_succ, List.getElem_cons_zero, Act.put, List.setIfInBounds_toArray, List.set_cons_zero, List.set_cons_succ]
    refine take_at 19 (by kernel_rfl) (v := ?v15) (by kernel_rfl) (by kernel_rfl) (by kernel_rfl) (fun _ _ _ h => h) (by rfl) ?y15 (by assumption) ?r15
    case y15 => (intro w hSw; (try dsimp only at hSw); simp only [List.getElem_cons_succ, List.getElem_cons_zero]; go_simp; (try with_reducible rfl))
    try simp only [List.getElem_cons_succ, List.getElem_cons_zero, Act.put, List.setIfInBounds_toArray, List.set_cons_zero, List.set_cons_succ]
    refine wpAnyH_done (by kernel_rfl) ?_ _
    go_wp2_with fail
    go_meet
    case rel => exact ⟨rfl, rfl, rfl, rfl, rfl, BH4⟩
  case rest =>
    obtain ⟨rfl, rfl, rfl, rfl, rfl, HB⟩ := hcut
    clear H99 H115 H104 H98 H111 HS r1
    generalize wc = w2 at *
    go_upto_region 2 with (fail)
    go_cut [57] from 23 to 57 (fun s wx => ∃ v, s = .bool v ∧ Hid (v = (nbad bc ca cz || nbad bs so sz)) ∧ Hid (Below w1.heap.size w1 wx))
    case first =>
      cases bc with
      | true =>
        have nb := NB.out _ HB.out
        have l3 := nb.c3
        clear nb
        go_wp2_with fail
        refine (HC.out _).mono ?_
        rintro e wp ⟨rfl, hb_⟩
        have Bwp := Lib.hid (HB.out.trans (hb_.mono HB.out.size))
        clear l3
        cases ca with
        | true =>
          cases bs with
          | true =>
            cases so with
            | true =>
              have nb := NB.out _ Bwp.out
              have l6 := nb.c6
              clear nb
              go_wp2_with fail
              refine (HSE.out _).mono ?_
              rintro e w_ ⟨rfl, rfl⟩
              go_wp2_with fail
              go_meet
              case rel => exact ⟨_, rfl, Lib.hid rfl, Bwp⟩
            | false =>
              have nb := NB.out _ Bwp.out
              have l6 := nb.c6
              clear nb
              go_wp2_with fail
              refine (HSE.out _).mono ?_
              rintro e w_ ⟨rfl, rfl⟩
              go_wp2_with fail
              go_meet
              case rel => exact ⟨_, rfl, Lib.hid rfl, Bwp⟩
          | false =>
            cases sz with
            | true =>
              have nb := NB.out _ Bwp.out
              have l6 := nb.c6
              clear nb
              go_wp2_with fail
              go_meet
              case rel => exact ⟨_, rfl, Lib.hid rfl, Bwp⟩
            | false =>
              have nb := NB.out _ Bwp.out
              have l6 := nb.c6
              clear nb
              go_wp2_with fail
              go_meet
              case rel => exact ⟨_, rfl, Lib.hid rfl, Bwp⟩
        | false =>
          go_wp2_with fail
          go_meet
          case rel => exact ⟨_, rfl, Lib.hid rfl, Bwp⟩
      | false =>
        have nb := NB.out _ HB.out
        have l3 := nb.c3
        clear nb
        cases cz with
        | true =>
          cases bs with
          | true =>
            cases so with
            | true =>
              have nb := NB.out _ HB.out
              have l6 := nb.c6
              clear nb
              go_wp2_with fail
              refine (HSE.out _).mono ?_
              rintro e w_ ⟨rfl, rfl⟩
              go_wp2_with fail
              go_meet
              case rel => exact ⟨_, rfl, Lib.hid rfl, HB⟩
            | false =>
              have nb := NB.out _ HB.out
              have l6 := nb.c6
              clear nb
              go_wp2_with fail
              refine (HSE.out _).mono ?_
              rintro e w_ ⟨rfl, rfl⟩
              go_wp2_with fail
              go_meet
              case rel => exact ⟨_, rfl, Lib.hid rfl, HB⟩
          | false =>
            cases sz with
            | true =>
              have nb := NB.out _ HB.out
              have l6 := nb.c6
              clear nb
              go_wp2_with fail
              go_meet
              case rel => exact ⟨_, rfl, Lib.hid rfl, HB⟩
            | false =>
              have nb := NB.out _ HB.out
              have l6 := nb.c6
              clear nb
              go_wp2_with fail
              go_meet
              case rel => exact ⟨_, rfl, Lib.hid rfl, HB⟩
        | false =>
          go_wp2_with fail
          go_meet
          case rel => exact ⟨_, rfl, Lib.hid rfl, HB⟩
    case rest =>
      obtain ⟨v, rfl, HV1, HB3⟩ := hcut
      clear HB
      generalize wc = w3 at *
      rw [← HV1.out] at HV
      clear HV1
      cases v with
      | true =>
        go_wp2_with fail
        go_ret
        exact ⟨ret_boolR HV.out, HB1.out.trans (HB3.out.mono HB1.out.size)⟩
      | false =>
        go_upto_region 4 with (fail)
        go_cut [92] from 58 to 92 (fun s wx => ∃ v, s = .bool v ∧ Hid (v = (nbad bh ho hz || nbad bb bl bz)) ∧ Hid (Below w1.heap.size w1 wx))
        case first =>
          cases bh with
          | true =>
            have nb := NB.out _ HB3.out
            have l7 := nb.c7
            clear nb
            go_wp2_with fail
            refine (HNO.out _).mono ?_
            rintro e w_ ⟨rfl, rfl⟩
            clear l7
            cases ho with
            | true =>
              cases bb with
              | true =>
                cases bl with
                | true =>
                  have nb := NB.out _ HB3.out
                  have l8 := nb.c8
                  clear nb
                  go_wp2_with fail
                  refine (HBA.out _).mono ?_
                  rintro e wq ⟨rfl, hb_⟩
                  have Bwq := Lib.hid (HB3.out.trans (hb_.mono HB3.out.size))
                  go_wp2_with fail
                  go_meet
                  case rel => exact ⟨_, rfl, Lib.hid rfl, Bwq⟩
                | false =>
                  have nb := NB.out _ HB3.out
                  have l8 := nb.c8
                  clear nb
                  go_wp2_with fail
                  refine (HBA.out _).mono ?_
                  rintro e wq ⟨rfl, hb_⟩
                  have Bwq := Lib.hid (HB3.out.trans (hb_.mono HB3.out.size))
                  go_wp2_with fail
                  go_meet
                  case rel => exact ⟨_, rfl, Lib.hid rfl, Bwq⟩
              | false =>
                cases bz with
                | true =>
                  have nb := NB.out _ HB3.out
                  have l8 := nb.c8
                  clear nb
                  go_wp2_with fail
                  go_meet
                  case rel => exact ⟨_, rfl, Lib.hid rfl, HB3⟩
                | false =>
                  have nb := NB.out _ HB3.out
                  have l8 := nb.c8
                  clear nb
                  go_wp2_with fail
                  go_meet
                  case rel => exact ⟨_, rfl, Lib.hid rfl, HB3⟩
            | false =>
              go_wp2_with fail
              go_meet
              case rel => exact ⟨_, rfl, Lib.hid rfl, HB3⟩
          | false =>
            have nb := NB.out _ HB3.out
            have l7 := nb.c7
            clear nb
            cases hz with
            | true =>
              cases bb with
              | true =>
                cases bl with
                | true =>
                  have nb := NB.out _ HB3.out
                  have l8 := nb.c8
                  clear nb
                  go_wp2_with fail
                  refine (HBA.out _).mono ?_
                  rintro e wq ⟨rfl, hb_⟩
                  have Bwq := Lib.hid (HB3.out.trans (hb_.mono HB3.out.size))
                  go_wp2_with fail
                  go_meet
                  case rel => exact ⟨_, rfl, Lib.hid rfl, Bwq⟩
                | false =>
                  have nb := NB.out _ HB3.out
                  have l8 := nb.c8
                  clear nb
                  go_wp2_with fail
                  refine (HBA.out _).mono ?_
                  rintro e wq ⟨rfl, hb_⟩
                  have Bwq := Lib.hid (HB3.out.trans (hb_.mono HB3.out.size))
                  go_wp2_with fail
                  go_meet
                  case rel => exact ⟨_, rfl, Lib.hid rfl, Bwq⟩
              | false =>
                cases bz with
                | true =>
                  have nb := NB.out _ HB3.out
                  have l8 := nb.c8
                  clear nb
                  go_wp2_with fail
                  go_meet
                  case rel => exact ⟨_, rfl, Lib.hid rfl, HB3⟩
                | false =>
                  have nb := NB.out _ HB3.out
                  have l8 := nb.c8
                  clear nb
                  go_wp2_with fail
                  go_meet
                  case rel => exact ⟨_, rfl, Lib.hid rfl, HB3⟩
            | false =>
              go_wp2_with fail
              go_meet
              case rel => exact ⟨_, rfl, Lib.hid rfl, HB3⟩
        case rest =>
          obtain ⟨v, rfl, HV2, HB4⟩ := hcut
          clear HB3
          generalize wc = w4 at *
          rw [← HV2.out] at HV
          clear HV2
          have nb := NB.out _ HB4.out
          have l0 := nb.c0
          have l10 := nb.c10
          have l12 := nb.c12
          rw [← HYY.out] at l12
          clear nb
          cases v with
          | true =>
            go_wp2_with fail
            go_ret
            exact ⟨ret_boolR HV.out, HB1.out.trans (HB4.out.mono HB1.out.size)⟩
          | false =>
            cases oz with
            | true =>
              go_wp2_with fail
              go_ret
              exact ⟨ret_boolR HV.out, HB1.out.trans (HB4.out.mono HB1.out.size)⟩
            | false =>
              cases bo with
              | true =>
                go_wp2_with fail
                refine (HOB.out _).mono ?_
                rintro e w5 ⟨rfl, hb_⟩
                have HB5 := Lib.hid (HB4.out.trans (hb_.mono HB4.out.size))
                clear l0 l10 l12 hb_
                have nb := NB.out _ HB5.out
                have l0 := nb.c0
                have l12 := nb.c12
                rw [← HYY.out] at l12
                clear nb
                cases oo with
                | true =>
                  cases k12 with
                  | true =>
                    go_wp2_with fail
                    go_ret
                    exact ⟨ret_boolR HV.out, HB1.out.trans (HB5.out.mono HB1.out.size)⟩
                  | false =>
                    go_wp2_with fail
                    go_ret
                    exact ⟨ret_boolR HV.out, HB1.out.trans (HB5.out.mono HB1.out.size)⟩
                | false =>
                  go_wp2_with fail
                  go_ret
                  exact ⟨ret_boolR HV.out, HB1.out.trans (HB5.out.mono HB1.out.size)⟩
              | false =>
                go_wp2_with fail
                go_ret
                exact ⟨ret_boolR HV.out, HB1.out.trans (HB4.out.mono HB1.out.size)⟩
end
end
section
set_option linter.unusedSimpArgs false
set_option linter.unusedVariables false
open Go.RowKit Sha Nte
open Fld (Itm)
section
variable (ρ : Operand → Value) (dst : Option Tmp) (ty r : TypeId) (pos : String) (after : Array Edge) (guard : Option (Nat × Bool)) (x y : Operand)
theorem execOp_neIdR : execOp ρ { dst := dst, op := .binOp .neq 27 x y r, type := ty, pos := pos, after := after, guard := guard } = neO 27 x y (ρ x) (ρ y) := by unfold neO; rfl
theorem execOp_makeIdR (parts : Array (Nat × Operand)) : execOp ρ { dst := dst, op := .build 27 parts, type := ty, pos := pos, after := after, guard := guard } = makeOp 27 (parts.map fun (i, x) => (i, ρ x)) := by unfold makeOp; rfl
end
theorem idR_zero : Tryz.prog.built 27 [] = some (Fld.zero32.map v8).toArray := by kernel_rfl
theorem run_neIdR (xs : List Int) (hx : xs.length = 32) (e : Bool) (he : e = !decide (xs = Fld.zero32)) (x y : Operand) (w : World) : (neO 27 x y (.agg (xs.map v8).toArray) (.agg (Fld.zero32.map v8).toArray)).run Tryz.prog w = .ok (.value (.bool e)) w := by
  subst he
  have hr := run_neq_arr (P := Tryz.prog) w x y 27 5 32 .u8 Tryz.underlying27 Tryz.underlying5 kslice1 xs Fld.zero32 hx Fld.zero32_length
  unfold neO
  rw [Sem.run_bind, hr]
  simp only [Result.andThen_ok, Sem.run_pure]
theorem len_nz {α : Type} (l : List α) : decide ((0 : Int) < (l.length : Int)) = !decide (l.length = 0) := by
  cases l with
  | nil => rfl
  | cons a l => simp
section
attribute [local go_sem ↓] execOp_boxNote execOp_loadInt execOp_loadBool execOp_loadId execOp_loadBytes execOp_loadIds execOp_loadWords execOp_neIdR execOp_makeIdR
set_option maxRecDepth 100000 in
set_option maxHeartbeats 4000000 in
theorem rothers_any (x : Not) (h : NHd) (w : World) (hg : NGood w x h) : Calls Tryz.prog 31 #[.agg (ncells x h).toArray] w fun e w' => e = .returned (.bool (decide (Nte.Rest x))) ∧ Below w.heap.size w w' := by
  obtain ⟨g, w1, r1, hg1, hl1, K1, B1⟩ := box_note w x h
  have HB1 := Lib.hid B1
  have HK1 := Lib.hid K1
  have hx := hg.ok.len
  have HX := Lib.hid hx
  have HT := Lib.hid (hg.below B1).W
  obtain ⟨kd, hkd⟩ : ∃ k, k = x.K := ⟨_, rfl⟩
  obtain ⟨yb, hyb⟩ : ∃ b, b = decide (121 ∈ letters x.K) := ⟨_, rfl⟩
  obtain ⟨db, hdb⟩ : ∃ b, b = decide (100 ∈ letters x.K) := ⟨_, rfl⟩
  obtain ⟨dt, hdt⟩ : ∃ b, b = decide (120 ∈ letters x.K) := ⟨_, rfl⟩
  obtain ⟨ib, hib⟩ : ∃ b, b = decide (105 ∈ letters x.K) := ⟨_, rfl⟩
  obtain ⟨wb, hwb⟩ : ∃ b, b = decide (119 ∈ letters x.K) := ⟨_, rfl⟩
  have HS := Lib.hid (show ∀ w', Below w1.heap.size w1 w' → (loadOp 3 (.pointer (some ⟨g, 0, none⟩))).run Tryz.prog w' = .ok (.value (nic kd)) w' from fun w' hb => by rw [hkd]; exact (nblk (HK1.out.below hb HK1.out.lt) HX.out).c0)
  have NB := Lib.hid (show ∀ w', Below w1.heap.size w1 w' → NBlk w' g x h from fun w' hb => nblk (HK1.out.below hb HK1.out.lt) HX.out)
  have H121 := Lib.hid (show ∀ w, Calls Tryz.prog 59 #[.int .i64 kd, .int .u8 121] w fun e w' => e = .returned (.bool yb) ∧ Below w.heap.size w w' from fun w => by rw [hkd, hyb]; exact rhas_any _ _ w)
  have H100 := Lib.hid (show ∀ w, Calls Tryz.prog 59 #[.int .i64 kd, .int .u8 100] w fun e w' => e = .returned (.bool db) ∧ Below w.heap.size w w' from fun w => by rw [hkd, hdb]; exact rhas_any _ _ w)
  have H120 := Lib.hid (show ∀ w, Calls Tryz.prog 59 #[.int .i64 kd, .int .u8 120] w fun e w' => e = .returned (.bool dt) ∧ Below w.heap.size w w' from fun w => by rw [hkd, hdt]; exact rhas_any _ _ w)
  have H105 := Lib.hid (show ∀ w, Calls Tryz.prog 59 #[.int .i64 kd, .int .u8 105] w fun e w' => e = .returned (.bool ib) ∧ Below w.heap.size w w' from fun w => by rw [hkd, hib]; exact rhas_any _ _ w)
  have H119 := Lib.hid (show ∀ w, Calls Tryz.prog 59 #[.int .i64 kd, .int .u8 119] w fun e w' => e = .returned (.bool wb) ∧ Below w.heap.size w w' from fun w => by rw [hkd, hwb]; exact rhas_any _ _ w)
  obtain ⟨yy, hyy⟩ : ∃ b, b = x.Y := ⟨_, rfl⟩
  obtain ⟨dn, hdn⟩ : ∃ b, b = !decide (x.D = Fld.zero32) := ⟨_, rfl⟩
  obtain ⟨nx, hnx⟩ : ∃ k, k = x.X.length := ⟨_, rfl⟩
  obtain ⟨ni, hni⟩ : ∃ k, k = x.I.length := ⟨_, rfl⟩
  obtain ⟨nw, hnw⟩ : ∃ k, k = x.W.length := ⟨_, rfl⟩
  obtain ⟨xn, hxn⟩ : ∃ b, b = decide ((0 : Int) < (nx : Int)) := ⟨_, rfl⟩
  obtain ⟨inz, hin⟩ : ∃ b, b = decide ((0 : Int) < (ni : Int)) := ⟨_, rfl⟩
  obtain ⟨wn, hwn⟩ : ∃ b, b = decide ((0 : Int) < (nw : Int)) := ⟨_, rfl⟩
  obtain ⟨il, hil⟩ : ∃ b, b = decide ((ni : Int) ≤ 64) := ⟨_, rfl⟩
  obtain ⟨ww, hww⟩ : ∃ b, b = decide ((∀ m ∈ x.W, m.May) ∧ x.W.length ≤ 64) := ⟨_, rfl⟩
  have HV := Lib.hid (show ((!(((!yb && yy) || (!db && dn)) || ((!ib && inz) || (!wb && wn)))) && ((!(xn && (!dt || (yb && !yy)))) && (il && ww))) = decide (Nte.Rest x) by
    have e0 : decide (Nte.Rest x) = (decide (x.Y = true → 121 ∈ letters x.K) && (decide (x.D = Fld.zero32 ∨ 100 ∈ letters x.K) && (decide (x.X = [] ∨ (120 ∈ letters x.K ∧ (121 ∈ letters x.K → x.Y = true))) && (decide (x.I = [] ∨ 105 ∈ letters x.K) && (decide (x.I.length ≤ 64) && (decide (x.W = [] ∨ 119 ∈ letters x.K) && (decide (x.W.length ≤ 64) && decide (∀ m ∈ x.W, m.May)))))))) := by
      rw [← Bool.decide_and, ← Bool.decide_and, ← Bool.decide_and, ← Bool.decide_and, ← Bool.decide_and, ← Bool.decide_and, ← Bool.decide_and]
      exact decide_eq_decide.2 Iff.rfl
    have e1 : decide (x.Y = true → 121 ∈ letters x.K) = (yb || !yy) := by rw [hyb, hyy]; cases x.Y <;> simp
    have e2 : decide (x.D = Fld.zero32 ∨ 100 ∈ letters x.K) = (db || !dn) := by rw [hdb, hdn]; by_cases h1 : x.D = Fld.zero32 <;> by_cases h2 : 100 ∈ letters x.K <;> simp [h1, h2]
    have e3 : decide (x.X = [] ∨ (120 ∈ letters x.K ∧ (121 ∈ letters x.K → x.Y = true))) = (!xn || (dt && (!yb || yy))) := by
      rw [hxn, hnx, len_nz, hdt, hyb, hyy]
      by_cases h1 : x.X = [] <;> by_cases h2 : 120 ∈ letters x.K <;> by_cases h3 : 121 ∈ letters x.K <;> cases x.Y <;> simp [h1, h2, h3]
    have e4 : decide (x.I = [] ∨ 105 ∈ letters x.K) = (ib || !inz) := by rw [hib, hin, hni, len_nz]; by_cases h1 : x.I = [] <;> by_cases h2 : 105 ∈ letters x.K <;> simp [h1, h2]
    have e5 : decide (x.I.length ≤ 64) = il := by rw [hil, hni]; exact decide_eq_decide.2 (by omega)
    have e6 : decide (x.W = [] ∨ 119 ∈ letters x.K) = (wb || !wn) := by rw [hwb, hwn, hnw, len_nz]; by_cases h1 : x.W = [] <;> by_cases h2 : 119 ∈ letters x.K <;> simp [h1, h2]
    have e7 : ww = (decide (∀ m ∈ x.W, m.May) && decide (x.W.length ≤ 64)) := by rw [hww, Bool.decide_and]
    rw [e0, e1, e2, e3, e4, e5, e6, e7]
    simp only [Bool.not_or, Bool.not_and, Bool.not_not]
    ac_rfl)
  have HW := Lib.hid (show ∀ w', Below w1.heap.size w1 w' → Calls Tryz.prog 63 #[.slice h.s nw h.e] w' fun e w'' => e = .returned (.bool ww) ∧ w' = w'' from fun w' hb => by rw [hww, hnw]; exact rwords_any _ _ _ _ _ (HT.out.below hb))
  have ed := run_neIdR x.D hx dn hdn
  have mi := fun w => run_makeOp w idR_zero
  have HYY := Lib.hid hyy
  have HNX := Lib.hid hnx
  have HNI := Lib.hid hni
  have HNW := Lib.hid hnw
  have HEI := Lib.hid hin
  have HEW := Lib.hid hwn
  have HEX := Lib.hid hxn
  have HEL := Lib.hid hil
  clear hyy hkd hyb hdb hdt hib hwb hdn hnx hni hnw hxn hin hwn hil hww K1 B1 hx hg1 hl1 HK1 hg
  go_enter Tryz.func31, Tryz.ntmps31
  go_upto_region 1 with (fail)
  go_cut [3, 4, 5, 6, 7] from 8 to 22 (fun s3 s4 s5 s6 s7 wx => s3 = .bool yb ∧ s4 = .bool db ∧ s5 = .bool dt ∧ s6 = .bool ib ∧ s7 = .bool wb ∧ Hid (Below w1.heap.size w1 wx))
  case first =>
    refine wp_region_held_drew (S := (fun w' => (loadOp 3 (.pointer (some ⟨g, 0, none⟩))).run Tryz.prog w' = .ok (.value (nic kd)) w')) (by kernel_rfl) (HS.out _ (Below.refl w1.heap.size w1).drew) (fun hHeld => ?_)
    have BD := Lib.hid (Below.refl w1.heap.size w1).drew
    generalize w1.drew = wd at *
    refine take_at 0 (by kernel_rfl) (v := ?v16) (by kernel_rfl) (by kernel_rfl) (by kernel_rfl) (fun _ _ _ h => h) (by rfl) ?y16 (by assumption) ?r16
    case y16 => (intro w hSw; (try dsimp only at hSw); simp only [List.getElem_cons_succ, List.getElem_cons_zero]; go_simp; (try with_reducible rfl))
    try simp only [List.getElem_cons_succ, List.getElem_cons_zero, Act.put, List.setIfInBounds_toArray, List.set_cons_zero, List.set_cons_succ]
    refine take_at 1 (by kernel_rfl) (v := ?v17) (by kernel_rfl) (by kernel_rfl) (by kernel_rfl) (fun _ _ _ h => h) (by rfl) ?y17 (by assumption) ?r17
    case y17 => (intro w hSw; (try dsimp only at hSw); simp only [List.getElem_cons_succ, List.getElem_cons_zero]; go_simp; (try with_reducible rfl))
    try simp only [List.getElem_cons_succ, List.getElem_cons_zero, Act.put, List.setIfInBounds_toArray, List.set_cons_zero, List.set_cons_succ]
    refine take_at 3 (by kernel_rfl) (v := ?v18) (by kernel_rfl) (by kernel_rfl) (by kernel_rfl) (fun _ _ _ h => h) (by rfl) ?y18 (by assumption) ?r18
    case y18 => (intro w hSw; (try dsimp only at hSw); simp only [List.getElem_cons_succ, List.getElem_cons_zero]; go_simp; (try with_reducible rfl))
    try simp only [List.getElem_cons_succ, List.getElem_cons_zero, Act.put, List.setIfInBounds_toArray, List.set_cons_zero, List.set_cons_succ]
    refine take_at 4 (by kernel_rfl) (v := ?v19) (by kernel_rfl) (by kernel_rfl) (by kernel_rfl) (fun _ _ _ h => h) (by rfl) ?y19 (by assumption) ?r19
    case y19 => (intro w hSw; (try dsimp only at hSw); simp only [List.getElem_cons_succ, List.getElem_cons_zero]; go_simp; (try with_reducible rfl))
    try simp only [List.getElem_cons_succ, List.getElem_cons_zero, Act.put, List.setIfInBounds_toArray, List.set_cons_zero, List.set_cons_succ]
    refine take_at 6 (by kernel_rfl) (v := ?v20) (by kernel_rfl) (by kernel_rfl) (by kernel_rfl) (fun _ _ _ h => h) (by rfl) ?y20 (by assumption) ?r20
    case y20 => (intro w hSw; (try dsimp only at hSw); simp only [List.getElem_cons_succ, List.getElem_cons_zero]; go_simp; (try with_reducible rfl))
    try simp only [List.getElem_cons_succ, List.getElem_cons_zero, Act.put, List.setIfInBounds_toArray, List.set_cons_zero, List.set_cons_succ]
    refine take_at 7 (by kernel_rfl) (v := ?v21) (by kernel_rfl) (by kernel_rfl) (by kernel_rfl) (fun _ _ _ h => h) (by rfl) ?y21 (by assumption) ?r21
    case y21 => (intro w hSw; (try dsimp only at hSw); simp only [List.getElem_cons_succ, List.getElem_cons_zero]; go_simp; (try with_reducible rfl))
    try simp only [List.getElem_cons_succ, List.getElem_cons_zero, Act.put, List.setIfInBounds_toArray, List.set_cons_zero, List.set_cons_succ]
    refine take_at 9 (by kernel_rfl) (v := ?v22) (by kernel_rfl) (by kernel_rfl) (by kernel_rfl) (fun _ _ _ h => h) (by rfl) ?y22 (by assumption) ?r22
    case y22 => (intro w hSw; (try dsimp only at hSw); simp only [List.getElem_cons_succ, List.getElem_cons_zero]; go_simp; (try with_reducible rfl))
    try simp only [List.getElem_cons_succ, List.getElem_cons_zero, Act.put, List.setIfInBounds_toArray, List.set_cons_zero, List.set_cons_succ]
    refine take_at 10 (by kernel_rfl) (v := ?v23) (by kernel_rfl) (by kernel_rfl) (by kernel_rfl) (fun _ _ _ h => h) (by rfl) ?y23 (by assumption) ?r23
    case y23 => (intro w hSw; (try dsimp only at hSw); simp only [List.getElem_cons_succ, List.getElem_cons_zero]; go_simp; (try with_reducible rfl))
    try simp only [List.getElem_cons_succ, List.getElem_cons_zero, Act.put, List.setIfInBounds_toArray, List.set_cons_zero, List.set_cons_succ]
    refine take_at 12 (by kernel_rfl) (v := ?v24) (by kernel_rfl) (by kernel_rfl) (by kernel_rfl) (fun _ _ _ h => h) (by rfl) ?y24 (by assumption) ?r24
    case y24 => (intro w hSw; (try dsimp only at hSw); simp only [List.getElem_cons_succ, List.getElem_cons_zero]; go_simp; (try with_reducible rfl))
    try simp only [List.getElem_cons_succ, List.getElem_cons_zero, Act.put, List.setIfInBounds_toArray, List.set_cons_zero, List.set_cons_succ]
    refine take_at 13 (by kernel_rfl) (v := ?v25) (by kernel_rfl) (by kernel_rfl) (by kernel_rfl) (fun _ _ _ h => h) (by rfl) ?y25 (by assumption) ?r25
    case y25 => (intro w hSw; (try dsimp only at hSw); simp only [List.getElem_cons_succ, List.getElem_cons_zero]; go_simp; (try with_reducible rfl))
    try simp only [List.getElem_cons_succ, List.getElem_cons_zero, Act.put, List.setIfInBounds_toArray, List.set_cons_zero, List.set_cons_succ]
    refine ready_at 2 (by kernel_rfl) (by kernel_rfl) (fun K hK => ?_)
    simp only [List.getElem_cons_succ, List.getElem_cons_zero]
    go_simp
    go_at_call 59
    refine (H121.out _).mono ?_
    rintro e wh0 ⟨rfl, hb_⟩
    have BH0 := Lib.hid (BD.out.trans (hb_.mono BD.out.size))
    clear hb_
    (try go_wp2_with fail)
    refine hK.out _ _ (HS.out _ BH0.out) (fun hHeld => ?_)
    clear hK K
    try simp only [List.getElem_cons_succ, List.getElem_cons_zero, Act.put, List.setIfInBounds_toArray, List.set_cons_zero, List.set_cons_succ]
    refine ready_at 5 (by kernel_rfl) (by kernel_rfl) (fun K hK => ?_)
    simp only [List.getElem_cons_succ, List.getElem_cons_zero]
    go_simp
    go_at_call 59
    refine (H100.out _).mono ?_
    rintro e wh1 ⟨rfl, hb_⟩
    have BH1 := Lib.hid (BH0.out.trans (hb_.mono BH0.out.size))
    clear hb_
    (try go_wp2_with fail)
    refine hK.out _ _ (HS.out _ BH1.out) (fun hHeld => ?_)
    clear hK K
    try simp only [List.getElem_cons_succ, List.getElem_cons_zero, Act.put, List.setIfInBounds_toArray, List.set_cons_zero, List.set_cons_succ]
    refine ready_at 8 (by kernel_rfl) (by kernel_rfl) (fun K hK => ?_)
    simp only [List.getElem_cons_succ, List.getElem_cons_zero]
    go_simp
    go_at_call 59
    refine (H120.out _).mono ?_
    rintro e wh2 ⟨rfl, hb_⟩
    have BH2 := Lib.hid (BH1.out.trans (hb_.mono BH1.out.size))
    clear hb_
    (try go_wp2_with fail)
    refine hK.out _ _ (HS.out _ BH2.out) (fun hHeld => ?_)
    clear hK K
    try simp only [List.getElem_cons_succ, List.getElem_cons_zero, Act.put, List.setIfInBounds_toArray, List.set_cons_zero, List.set_cons_succ]
    refine ready_at 11 (by kernel_rfl) (by kernel_rfl) (fun K hK => ?_)
    simp only [List.getElem_cons_succ, List.getElem_cons_zero]
    go_simp
    go_at_call 59
    refine (H105.out _).mono ?_
    rintro e wh3 ⟨rfl, hb_⟩
    have BH3 := Lib.hid (BH2.out.trans (hb_.mono BH2.out.size))
    clear hb_
    (try go_wp2_with fail)
    refine hK.out _ _ (HS.out _ BH3.out) (fun hHeld => ?_)
    clear hK K
    try simp only [List.getElem_cons_succ, List.getElem_cons_zero, Act.put, List.setIfInBounds_toArray, List.set_cons_zero, List.set_cons_succ]
    refine ready_at 14 (by kernel_rfl) (by kernel_rfl) (fun K hK => ?_)
    simp only [List.getElem_cons_succ, List.getElem_cons_zero]
    go_simp
    go_at_call 59
    refine (H119.out _).mono ?_
    rintro e wh4 ⟨rfl, hb_⟩
    have BH4 := Lib.hid (BH3.out.trans (hb_.mono BH3.out.size))
    clear hb_
    (try go_wp2_with fail)
    refine hK.out _ _ (HS.out _ BH4.out) (fun hHeld => ?_)
    clear hK K
    try simp only [List.getElem_cons_succ, List.getElem_cons_zero, Act.put, List.setIfInBounds_toArray, List.set_cons_zero, List.set_cons_succ]
    refine take_at 15 (by kernel_rfl) (v := ?v26) (by kernel_rfl) (by kernel_rfl) (by kernel_rfl) (fun _ _ _ h => h) (by rfl) ?y26 (by assumption) ?r26
    case y26 => (intro w hSw; (try dsimp only at hSw); simp only [List.getElem_cons_succ, List.getElem_cons_zero]; go_simp; (try with_reducible rfl))
    try simp only [List.getElem_cons_succ, List.getElem_cons_zero, Act.put, List.setIfInBounds_toArray, List.set_cons_zero, List.set_cons_succ]
    refine take_at 16 (by kernel_rfl) (v := ?v27) (by kernel_rfl) (by kernel_rfl) (by kernel_rfl) (fun _ _ _ h => h) (by rfl) ?y27 (by assumption) ?r27
    case y27 => (intro w hSw; (try dsimp only at hSw); simp only [List.getElem_cons_succ, List.getElem_cons_zero]; go_simp; (try with_reducible rfl))
    try simp only [List.getElem_cons_succ, List.getElem_cons_zero, Act.put, List.setIfInBounds_toArray, List.set_cons_zero, List.set_cons_succ]
    refine take_at 17 (by kernel_rfl) (v := ?v28) (by kernel_rfl) (by kernel_rfl) (by kernel_rfl) (fun _ _ _ h => h) (by rfl) ?y28 (by assumption) ?r28
    case y28 => (intro w hSw; (try dsimp only at hSw); simp only [List.getElem_cons_succ, List.getElem_cons_zero]; go_simp; (try with_reducible rfl))
    try simp only [List.getElem_cons_succ, List.getElem_cons_zero, Act.put, List.setIfInBounds_toArray, List.set_cons_zero, List.set_cons_succ]
    refine take_at 18 (by kernel_rfl) (v := ?v29) (by kernel_rfl) (by kernel_rfl) (by kernel_rfl) (fun _ _ _ h => h) (by rfl) ?y29 (by assumption) ?r29
    case y29 => (intro w hSw; (try dsimp only at hSw); simp only [List.getElem_cons_succ, List.getElem_cons_zero]; go_simp; (try with_reducible rfl))
    try simp only [List.getElem_cons_succ, List.getElem_cons_zero, Act.put, List.setIfInBounds_toArray, List.set_cons_zero, List.set_cons_succ]
    refine take_at 19 (by kernel_rfl) (v := ?v30) (by kernel_rfl) (by kernel_rfl) (by kernel_rfl) (fun _ _ _ h => h) (by rfl) ?y30 (by assumption) ?r30
    case y30 => (intro w hSw; (try dsimp only at hSw); simp only [List.getElem_cons_succ, List.getElem_cons_zero]; go_simp; (try with_reducible rfl))
    try simp only [List.getElem_cons_succ, List.getElem_cons_zero, Act.put, List.setIfInBounds_toArray, List.set_cons_zero, List.set_cons_succ]
    refine wpAnyH_done (by kernel_rfl) ?_ _
    go_wp2_with fail
    go_meet
    case rel => exact ⟨rfl, rfl, rfl, rfl, rfl, BH4⟩
  case rest =>
    obtain ⟨rfl, rfl, rfl, rfl, rfl, HB⟩ := hcut
    clear H121 H100 H120 H105 H119 HS r1
    generalize wc = w2 at *
    have nb := NB.out _ HB.out
    have l12 := nb.c12
    have l13 := nb.c13
    have l45 := nb.c45
    have l46 := nb.c46
    have l47 := nb.c47
    rw [← HYY.out] at l12
    rw [← HNX.out] at l45
    rw [← HNI.out] at l46
    rw [← HNW.out] at l47
    clear nb
    have HWW := Lib.hid (HW.out _ HB.out)
    go_upto_region 2 with (fail)
    go_cut [58] from 23 to 58 (fun s wx => ∃ v, s = .bool v ∧ Hid (v = (((!yb && yy) || (!db && dn)) || ((!ib && inz) || (!wb && wn)))) ∧ w2 = wx)
    case first =>
      cases yb with
      | true =>
        cases db with
        | true =>
          cases ib with
          | true =>
            cases wb with
            | true =>
              go_wp2_with fail
              go_meet
              case rel => exact ⟨_, rfl, Lib.hid rfl, by first | rfl | trivial⟩
            | false =>
              cases wn with
              | true =>
                have hz_wn : 0 < nw := by have := HEW.out; simpa using this.symm
                go_wp2_with fail
                go_meet
                case rel => exact ⟨_, rfl, Lib.hid rfl, by first | rfl | trivial⟩
              | false =>
                obtain rfl : nw = 0 := by have := HEW.out; simp at this; omega
                go_wp2_with fail
                go_meet
                case rel => exact ⟨_, rfl, Lib.hid rfl, by first | rfl | trivial⟩
          | false =>
            cases inz with
            | true =>
              have hz_inz : 0 < ni := by have := HEI.out; simpa using this.symm
              go_wp2_with fail
              go_meet
              case rel => exact ⟨_, rfl, Lib.hid rfl, by first | rfl | trivial⟩
            | false =>
              obtain rfl : ni = 0 := by have := HEI.out; simp at this; omega
              cases wb with
              | true =>
                go_wp2_with fail
                go_meet
                case rel => exact ⟨_, rfl, Lib.hid rfl, by first | rfl | trivial⟩
              | false =>
                cases wn with
                | true =>
                  have hz_wn : 0 < nw := by have := HEW.out; simpa using this.symm
                  go_wp2_with fail
                  go_meet
                  case rel => exact ⟨_, rfl, Lib.hid rfl, by first | rfl | trivial⟩
                | false =>
                  obtain rfl : nw = 0 := by have := HEW.out; simp at this; omega
                  go_wp2_with fail
                  go_meet
                  case rel => exact ⟨_, rfl, Lib.hid rfl, by first | rfl | trivial⟩
        | false =>
          cases dn with
          | true =>
            go_wp2_with fail
            go_meet
            case rel => exact ⟨_, rfl, Lib.hid rfl, by first | rfl | trivial⟩
          | false =>
            cases ib with
            | true =>
              cases wb with
              | true =>
                go_wp2_with fail
                go_meet
                case rel => exact ⟨_, rfl, Lib.hid rfl, by first | rfl | trivial⟩
              | false =>
                cases wn with
                | true =>
                  have hz_wn : 0 < nw := by have := HEW.out; simpa using this.symm
                  go_wp2_with fail
                  go_meet
                  case rel => exact ⟨_, rfl, Lib.hid rfl, by first | rfl | trivial⟩
                | false =>
                  obtain rfl : nw = 0 := by have := HEW.out; simp at this; omega
                  go_wp2_with fail
                  go_meet
                  case rel => exact ⟨_, rfl, Lib.hid rfl, by first | rfl | trivial⟩
            | false =>
              cases inz with
              | true =>
                have hz_inz : 0 < ni := by have := HEI.out; simpa using this.symm
                go_wp2_with fail
                go_meet
                case rel => exact ⟨_, rfl, Lib.hid rfl, by first | rfl | trivial⟩
              | false =>
                obtain rfl : ni = 0 := by have := HEI.out; simp at this; omega
                cases wb with
                | true =>
                  go_wp2_with fail
                  go_meet
                  case rel => exact ⟨_, rfl, Lib.hid rfl, by first | rfl | trivial⟩
                | false =>
                  cases wn with
                  | true =>
                    have hz_wn : 0 < nw := by have := HEW.out; simpa using this.symm
                    go_wp2_with fail
                    go_meet
                    case rel => exact ⟨_, rfl, Lib.hid rfl, by first | rfl | trivial⟩
                  | false =>
                    obtain rfl : nw = 0 := by have := HEW.out; simp at this; omega
                    go_wp2_with fail
                    go_meet
                    case rel => exact ⟨_, rfl, Lib.hid rfl, by first | rfl | trivial⟩
      | false =>
        cases yy with
        | true =>
          go_wp2_with fail
          go_meet
          case rel => exact ⟨_, rfl, Lib.hid rfl, by first | rfl | trivial⟩
        | false =>
          cases db with
          | true =>
            cases ib with
            | true =>
              cases wb with
              | true =>
                go_wp2_with fail
                go_meet
                case rel => exact ⟨_, rfl, Lib.hid rfl, by first | rfl | trivial⟩
              | false =>
                cases wn with
                | true =>
                  have hz_wn : 0 < nw := by have := HEW.out; simpa using this.symm
                  go_wp2_with fail
                  go_meet
                  case rel => exact ⟨_, rfl, Lib.hid rfl, by first | rfl | trivial⟩
                | false =>
                  obtain rfl : nw = 0 := by have := HEW.out; simp at this; omega
                  go_wp2_with fail
                  go_meet
                  case rel => exact ⟨_, rfl, Lib.hid rfl, by first | rfl | trivial⟩
            | false =>
              cases inz with
              | true =>
                have hz_inz : 0 < ni := by have := HEI.out; simpa using this.symm
                go_wp2_with fail
                go_meet
                case rel => exact ⟨_, rfl, Lib.hid rfl, by first | rfl | trivial⟩
              | false =>
                obtain rfl : ni = 0 := by have := HEI.out; simp at this; omega
                cases wb with
                | true =>
                  go_wp2_with fail
                  go_meet
                  case rel => exact ⟨_, rfl, Lib.hid rfl, by first | rfl | trivial⟩
                | false =>
                  cases wn with
                  | true =>
                    have hz_wn : 0 < nw := by have := HEW.out; simpa using this.symm
                    go_wp2_with fail
                    go_meet
                    case rel => exact ⟨_, rfl, Lib.hid rfl, by first | rfl | trivial⟩
                  | false =>
                    obtain rfl : nw = 0 := by have := HEW.out; simp at this; omega
                    go_wp2_with fail
                    go_meet
                    case rel => exact ⟨_, rfl, Lib.hid rfl, by first | rfl | trivial⟩
          | false =>
            cases dn with
            | true =>
              go_wp2_with fail
              go_meet
              case rel => exact ⟨_, rfl, Lib.hid rfl, by first | rfl | trivial⟩
            | false =>
              cases ib with
              | true =>
                cases wb with
                | true =>
                  go_wp2_with fail
                  go_meet
                  case rel => exact ⟨_, rfl, Lib.hid rfl, by first | rfl | trivial⟩
                | false =>
                  cases wn with
                  | true =>
                    have hz_wn : 0 < nw := by have := HEW.out; simpa using this.symm
                    go_wp2_with fail
                    go_meet
                    case rel => exact ⟨_, rfl, Lib.hid rfl, by first | rfl | trivial⟩
                  | false =>
                    obtain rfl : nw = 0 := by have := HEW.out; simp at this; omega
                    go_wp2_with fail
                    go_meet
                    case rel => exact ⟨_, rfl, Lib.hid rfl, by first | rfl | trivial⟩
              | false =>
                cases inz with
                | true =>
                  have hz_inz : 0 < ni := by have := HEI.out; simpa using this.symm
                  go_wp2_with fail
                  go_meet
                  case rel => exact ⟨_, rfl, Lib.hid rfl, by first | rfl | trivial⟩
                | false =>
                  obtain rfl : ni = 0 := by have := HEI.out; simp at this; omega
                  cases wb with
                  | true =>
                    go_wp2_with fail
                    go_meet
                    case rel => exact ⟨_, rfl, Lib.hid rfl, by first | rfl | trivial⟩
                  | false =>
                    cases wn with
                    | true =>
                      have hz_wn : 0 < nw := by have := HEW.out; simpa using this.symm
                      go_wp2_with fail
                      go_meet
                      case rel => exact ⟨_, rfl, Lib.hid rfl, by first | rfl | trivial⟩
                    | false =>
                      obtain rfl : nw = 0 := by have := HEW.out; simp at this; omega
                      go_wp2_with fail
                      go_meet
                      case rel => exact ⟨_, rfl, Lib.hid rfl, by first | rfl | trivial⟩
    case rest =>
      obtain ⟨v, rfl, HV1, rfl⟩ := hcut
      rw [← HV1.out] at HV
      clear HV1
      cases v with
      | true =>
        go_wp2_with fail
        go_ret
        exact ⟨ret_boolR HV.out, HB1.out.trans (HB.out.mono HB1.out.size)⟩
      | false =>
        go_upto_region 4 with (fail)
        go_cut [74] from 59 to 74 (fun s wx => ∃ v, s = .bool v ∧ Hid (v = (xn && (!dt || (yb && !yy)))) ∧ w2 = wx)
        case first =>
          cases xn with
          | true =>
            have hz_xn : 0 < nx := by have := HEX.out; simpa using this.symm
            cases dt with
            | true =>
              cases yb with
              | true =>
                cases yy with
                | true =>
                  go_wp2_with fail
                  go_meet
                  case rel => exact ⟨_, rfl, Lib.hid rfl, by first | rfl | trivial⟩
                | false =>
                  go_wp2_with fail
                  go_meet
                  case rel => exact ⟨_, rfl, Lib.hid rfl, by first | rfl | trivial⟩
              | false =>
                go_wp2_with fail
                go_meet
                case rel => exact ⟨_, rfl, Lib.hid rfl, by first | rfl | trivial⟩
            | false =>
              go_wp2_with fail
              go_meet
              case rel => exact ⟨_, rfl, Lib.hid rfl, by first | rfl | trivial⟩
          | false =>
            obtain rfl : nx = 0 := by have := HEX.out; simp at this; omega
            go_wp2_with fail
            go_meet
            case rel => exact ⟨_, rfl, Lib.hid rfl, by first | rfl | trivial⟩
        case rest =>
          obtain ⟨v, rfl, HV2, rfl⟩ := hcut
          rw [← HV2.out] at HV
          clear HV2
          cases v with
          | true =>
            go_wp2_with fail
            go_ret
            exact ⟨ret_boolR HV.out, HB1.out.trans (HB.out.mono HB1.out.size)⟩
          | false =>
            cases il with
            | true =>
              have hl : ni ≤ 64 := by have := HEL.out; have := of_decide_eq_true this.symm; omega
              go_wp2_with fail
              refine HWW.out.mono ?_
              rintro e w_ ⟨rfl, rfl⟩
              go_wp2_with fail
              go_ret
              exact ⟨ret_boolR HV.out, HB1.out.trans (HB.out.mono HB1.out.size)⟩
            | false =>
              obtain ⟨m, rfl⟩ : ∃ m, ni = m + 65 := ⟨ni - 65, by have := of_decide_eq_false HEL.out.symm; omega⟩
              have hl : ¬ (m + 65 ≤ 64) := by omega
              go_wp2_with fail
              go_ret
              exact ⟨ret_boolR HV.out, HB1.out.trans (HB.out.mono HB1.out.size)⟩
end
end
end Go.Proofs.YtbogjfmefkhglaaGreat
