/-
  The wire package's body (written by mknwp15.py).
-/
import Derived.Test.YteepaoklibflpaaR36
import Derived.Test.YteepaoklibflpaaR37
import Derived.Test.YteepaoklibflpaaR40
namespace Go.Proofs.Yteepaoklibflpaa
section
set_option linter.unusedSimpArgs false
set_option linter.unusedVariables false
open Go.RowKit Sha Nte
open Fld (Itm)
section
variable (ρ : Operand → Value) (dst : Option Tmp) (ty : TypeId) (pos : String) (after : Array Edge) (guard : Option (Nat × Bool)) (x y : Operand)
theorem execOp_allocForm15 : execOp ρ { dst := dst, op := .alloc 51, type := ty, pos := pos, after := after, guard := guard } = allocOp 51 := by unfold allocOp; rfl
theorem execOp_storeForm15 : execOp ρ { dst := dst, op := .store 51 x y, type := ty, pos := pos, after := after, guard := guard } = storeOp 51 (ρ x) (ρ y) := by unfold storeOp; rfl
end
theorem form_zero15 : (Try.prog.info? 51).map (fun i => i.zero) = some (some (.agg #[.string ⟨#[]⟩, .string ⟨#[]⟩, .string ⟨#[]⟩])) := by kernel_rfl
theorem alloc_form15 (w : World) : (allocOp 51).run Try.prog w = .ok (.value (.pointer (some ⟨w.heap.size, 0, none⟩))) (w.alloc (.cells #[.string ⟨#[]⟩, .string ⟨#[]⟩, .string ⟨#[]⟩] 51)) := run_allocOp w form_zero15
theorem store_form15 {w : World} {g : Nat} {a b c a' b' c' : ByteArray} (h : Blk w g (fcs a' b' c') 51) : (storeOp 51 (.pointer (some ⟨g, 0, none⟩)) (.agg #[.string a, .string b, .string c])).run Try.prog w = .ok .skip (w.setRow g #[.string a, .string b, .string c]) :=
  run_storeOp (old := #[.string a', .string b', .string c']) h (by rw [form_size15]; rfl) rfl (by simp [Value.oneCell'])
/-- The table looked into. -/
def isK (k : Int) : Bool := decide (1 ≤ k ∧ k ≤ 19)
def lkH (k : Int) : ByteArray := if isK k = true then kHas k else ⟨#[]⟩
def lkY (k : Int) : ByteArray := if isK k = true then kYes k else ⟨#[]⟩
def lkN (k : Int) : ByteArray := if isK k = true then kNo k else ⟨#[]⟩
theorem wlook_any {w : World} {m : Value} (h : WTab w m) (k : Int) : (Instr.lookup 53 m (.int .i64 k) true).run Try.prog w = .ok (.tuple #[.agg #[.string (lkH k), .string (lkY k), .string (lkN k)], .bool (isK k)]) w := by
  by_cases hk : 1 ≤ k ∧ k ≤ 19
  · have e : isK k = true := decide_eq_true hk
    rw [wlook_yes h k hk true]
    unfold lkH lkY lkN
    rw [e]
    rfl
  · have e : isK k = false := decide_eq_false hk
    rw [wlook_no h k hk true]
    unfold lkH lkY lkN
    rw [e]
    rfl
def bodyB (x : Not) : List Int := if check x = 0 then inner x else []
theorem bodyB_no {x : Not} (h : check x ≠ 0) : bodyB x = [] := by unfold bodyB; rw [if_neg h]
theorem bodyB_ok {x : Not} (h : check x = 0) : bodyB x = inner x := by unfold bodyB; rw [if_pos h]
def BDone15 (x : Not) (w0 : World) (e : Ending) (w : World) : Prop :=
  ∃ v, e = .returned (.tuple #[v, .int .i64 (check x)]) ∧ Own8 w w0.heap.size 5 v (bodyB x).length ((bodyB x).map v8) ∧ Below w0.heap.size w0 w
theorem left_items {w : World} {p : Option Addr} {n c : Nat} {ys : List Hdr} (h : LeftAt w p n c ys) : ItemsAt w p (ys.map (·.1)) := ⟨ys, rfl, h.at_, h.good⟩
section
attribute [local go_sem ↓] execOp_boxNote execOp_loadNote execOp_allocNote execOp_storeNote execOp_loadForm15 execOp_allocForm15 execOp_storeForm15
set_option maxRecDepth 100000 in
set_option maxHeartbeats 8000000 in
theorem wbody_any (x : Not) (h : NHd) (w : World) (hg : NGood w x h) (hf : Few x) : Calls Try.prog 22 #[.agg (ncells x h).toArray] w (BDone15 x w) := by
  obtain ⟨g, w1, r1, hg1, hl1, K1, B1⟩ := box_note w x h
  have HX := Lib.hid hg
  have HFW := Lib.hid hf
  have i1 := hf.I
  have i2 := hf.W
  have HK1 := Lib.hid K1
  have HB1 := Lib.hid B1
  have HS := Lib.hid (show ∀ w', Below w1.heap.size w1 w' → w'.cell? ⟨g, 0, none⟩ = some (nic x.K) from fun w' hb => nblk_cells (HK1.out.below hb HK1.out.lt).range 0 rfl)
  have LK := Lib.hid (show ∀ w' m, WTab w' m → _ from fun w' m hm => wlook_any hm x.K)
  have HLH := Lib.hid (show isK x.K = true → lkH x.K = kHas x.K ∧ lkY x.K = kYes x.K ∧ lkN x.K = kNo x.K from fun e => by unfold lkH lkY lkN; rw [e]; exact ⟨rfl, rfl, rfl⟩)
  have HIS := Lib.hid (show (isK x.K = true → 1 ≤ x.K ∧ x.K ≤ 19) ∧ (isK x.K = false → ¬ (1 ≤ x.K ∧ x.K ≤ 19)) from ⟨fun e => of_decide_eq_true e, fun e => of_decide_eq_false e⟩)
  obtain ⟨t, ht⟩ : ∃ t, t = lkH x.K := ⟨_, rfl⟩
  obtain ⟨t1, ht1⟩ : ∃ t, t = lkY x.K := ⟨_, rfl⟩
  obtain ⟨t2, ht2⟩ : ∃ t, t = lkN x.K := ⟨_, rfl⟩
  obtain ⟨is_, his⟩ : ∃ b, b = isK x.K := ⟨_, rfl⟩
  rw [← ht, ← ht1, ← ht2, ← his] at HLH
  rw [← his] at HIS
  have LK := Lib.hid (show ∀ w' m, WTab w' m → (Instr.lookup 53 m (.int .i64 x.K) true).run Try.prog w' = .ok (.tuple #[.agg #[.string t, .string t1, .string t2], .bool is_]) w' from fun w' m hm => by rw [ht, ht1, ht2, his]; exact LK.out w' m hm)
  clear ht ht1 ht2 his K1 B1 hg1 hl1 hg hf
  go_enter Try.func22, Try.ntmps22
  go_wp2_with fail
  go_upto_region 1 with (fail)
  go_cut [4, 5] from 11 to 17 (fun s4 s5 wx => ∃ gf : Nat, s4 = .pointer (some ⟨gf, 0, none⟩) ∧ s5 = .bool is_ ∧ Hid (Blk wx gf (fcs t t1 t2) 51) ∧ Hid (Below w1.heap.size w1 wx))
  case first =>
    refine wp_region_held_drew (S := (fun w' => w'.cell? ⟨g, 0, none⟩ = some (nic x.K))) (by kernel_rfl) (HS.out _ (Below.refl w1.heap.size w1).drew) (fun hHeld => ?_)
    have BD := Lib.hid (Below.refl w1.heap.size w1).drew
    generalize w1.drew = wd at *
    refine take_at 1 (by kernel_rfl) (v := ?v1) (by kernel_rfl) (by kernel_rfl) (by kernel_rfl) (fun _ _ _ h => h) (by rfl) ?y1 (by assumption) ?r1
    case y1 => (intro w hSw; (try dsimp only at hSw); simp only [List.getElem_cons_succ, List.getElem_cons_zero]; go_simp; (try with_reducible rfl))
    try simp only [List.getElem_cons_succ, List.getElem_cons_zero, Act.put, List.setIfInBounds_toArray, List.set_cons_zero, List.set_cons_succ]
    refine take_at 2 (by kernel_rfl) (v := ?v2) (by kernel_rfl) (by kernel_rfl) (by kernel_rfl) (fun _ _ _ h => h) (by rfl) ?y2 (by assumption) ?r2
    case y2 => (intro w hSw; (try dsimp only at hSw); simp only [List.getElem_cons_succ, List.getElem_cons_zero]; go_simp; (try with_reducible rfl))
    try simp only [List.getElem_cons_succ, List.getElem_cons_zero, Act.put, List.setIfInBounds_toArray, List.set_cons_zero, List.set_cons_succ]
    refine ready2_at 0 7 (by kernel_rfl) (by kernel_rfl) (by kernel_rfl) ?_ ?_
    · intro K hK
      simp only [List.getElem_cons_succ, List.getElem_cons_zero]
      go_simp
      go_at_call 18
      refine (wforms_any _).mono ?_
      rintro e wF ⟨mF, rfl, hT_, hB_⟩
      have BF := Lib.hid (BD.out.trans (hB_.mono BD.out.size))
      have TF := Lib.hid hT_
      clear hT_ hB_
      (try go_wp2_with fail)
      refine hK.out _ _ (HS.out _ BF.out) (fun hHeld => ?_)
      clear hK K
      try simp only [List.getElem_cons_succ, List.getElem_cons_zero, Act.put, List.setIfInBounds_toArray, List.set_cons_zero, List.set_cons_succ]
      refine ready2_at 3 7 (by kernel_rfl) (by kernel_rfl) (by kernel_rfl) ?_ ?_
      · intro K hK
        have lk := LK.out _ _ TF.out
        simp only [List.getElem_cons_succ, List.getElem_cons_zero]
        go_simp
        refine hK.out _ _ (HS.out _ BF.out) (fun hHeld => ?_)
        clear hK K
        try simp only [List.getElem_cons_succ, List.getElem_cons_zero, Act.put, List.setIfInBounds_toArray, List.set_cons_zero, List.set_cons_succ]
        clear lk
        refine take_at 4 (by kernel_rfl) (v := ?v7) (by kernel_rfl) (by kernel_rfl) (by kernel_rfl) (fun _ _ _ h => h) (by rfl) ?y7 (by assumption) ?r7
        case y7 => (intro w hSw; (try dsimp only at hSw); simp only [List.getElem_cons_succ, List.getElem_cons_zero]; go_simp; (try with_reducible rfl))
        try simp only [List.getElem_cons_succ, List.getElem_cons_zero, Act.put, List.setIfInBounds_toArray, List.set_cons_zero, List.set_cons_succ]
        refine take_at 5 (by kernel_rfl) (v := ?v8) (by kernel_rfl) (by kernel_rfl) (by kernel_rfl) (fun _ _ _ h => h) (by rfl) ?y8 (by assumption) ?r8
        case y8 => (intro w hSw; (try dsimp only at hSw); simp only [List.getElem_cons_succ, List.getElem_cons_zero]; go_simp; (try with_reducible rfl))
        try simp only [List.getElem_cons_succ, List.getElem_cons_zero, Act.put, List.setIfInBounds_toArray, List.set_cons_zero, List.set_cons_succ]
        refine take_at 6 (by kernel_rfl) (v := ?v9) (by kernel_rfl) (by kernel_rfl) (by kernel_rfl) (fun _ _ _ h => h) (by rfl) ?y9 (by assumption) ?r9
        case y9 => (intro w hSw; (try dsimp only at hSw); simp only [List.getElem_cons_succ, List.getElem_cons_zero]; go_simp; (try with_reducible rfl))
        try simp only [List.getElem_cons_succ, List.getElem_cons_zero, Act.put, List.setIfInBounds_toArray, List.set_cons_zero, List.set_cons_succ]
        have al := alloc_form15 wF
        have BA := Lib.hid (BF.out.alloc BF.out.size (.cells #[.string ⟨#[]⟩, .string ⟨#[]⟩, .string ⟨#[]⟩] 51))
        have FA := Lib.hid (show Blk (wF.alloc (.cells #[.string ⟨#[]⟩, .string ⟨#[]⟩, .string ⟨#[]⟩] 51)) wF.heap.size (fcs ⟨#[]⟩ ⟨#[]⟩ ⟨#[]⟩) 51 from Blk.new wF #[.string ⟨#[]⟩, .string ⟨#[]⟩, .string ⟨#[]⟩] 51)
        have TA := Lib.hid (TF.out.below ((Below.refl _ wF).alloc (Nat.le_refl _) (.cells #[.string ⟨#[]⟩, .string ⟨#[]⟩, .string ⟨#[]⟩] 51)))
        refine ready_at 7 (by kernel_rfl) (by kernel_rfl) (fun K hK => ?_)
        simp only [List.getElem_cons_succ, List.getElem_cons_zero]
        go_simp
        refine hK.out _ _ (HS.out _ BA.out) (fun hHeld => ?_)
        clear hK K
        try simp only [List.getElem_cons_succ, List.getElem_cons_zero, Act.put, List.setIfInBounds_toArray, List.set_cons_zero, List.set_cons_succ]
        have HGF := Lib.hid BF.out.size
        clear al
        generalize wF.alloc (.cells #[.string ⟨#[]⟩, .string ⟨#[]⟩, .string ⟨#[]⟩] 51) = wA at *
        generalize wF.heap.size = gF at *
        have sf := store_form15 (a := t) (b := t1) (c := t2) FA.out
        have B9 := Lib.hid (Go.Proofs.Yteepaoklibflpaa.Below.setRow BA.out HGF.out #[.string t, .string t1, .string t2])
        have F9 := Lib.hid (show Blk (wA.setRow gF #[.string t, .string t1, .string t2]) gF (fcs t t1 t2) 51 from FA.out.row (fcs t t1 t2))
        refine ready_at 8 (by kernel_rfl) (by kernel_rfl) (fun K hK => ?_)
        simp only [List.getElem_cons_succ, List.getElem_cons_zero]
        go_simp
        refine hK.out _ _ (HS.out _ B9.out) (fun hHeld => ?_)
        clear hK K
        try simp only [List.getElem_cons_succ, List.getElem_cons_zero, Act.put, List.setIfInBounds_toArray, List.set_cons_zero, List.set_cons_succ]
        refine take_at 9 (by kernel_rfl) (v := ?v10) (by kernel_rfl) (by kernel_rfl) (by kernel_rfl) (fun _ _ _ h => h) (by rfl) ?y10 (by assumption) ?r10
        case y10 => (intro w hSw; (try dsimp only at hSw); simp only [List.getElem_cons_succ, List.getElem_cons_zero]; go_simp; (try with_reducible rfl))
        try simp only [List.getElem_cons_succ, List.getElem_cons_zero, Act.put, List.setIfInBounds_toArray, List.set_cons_zero, List.set_cons_succ]
        refine wpAnyH_done (by kernel_rfl) ?_ _
        go_wp2_with fail
        go_meet
        case rel => exact ⟨gF, rfl, rfl, F9, B9⟩
      · intro K hK
        have al := alloc_form15 wF
        have BA := Lib.hid (BF.out.alloc BF.out.size (.cells #[.string ⟨#[]⟩, .string ⟨#[]⟩, .string ⟨#[]⟩] 51))
        have FA := Lib.hid (show Blk (wF.alloc (.cells #[.string ⟨#[]⟩, .string ⟨#[]⟩, .string ⟨#[]⟩] 51)) wF.heap.size (fcs ⟨#[]⟩ ⟨#[]⟩ ⟨#[]⟩) 51 from Blk.new wF #[.string ⟨#[]⟩, .string ⟨#[]⟩, .string ⟨#[]⟩] 51)
        have TA := Lib.hid (TF.out.below ((Below.refl _ wF).alloc (Nat.le_refl _) (.cells #[.string ⟨#[]⟩, .string ⟨#[]⟩, .string ⟨#[]⟩] 51)))
        simp only [List.getElem_cons_succ, List.getElem_cons_zero]
        go_simp
        refine hK.out _ _ (HS.out _ BA.out) (fun hHeld => ?_)
        clear hK K
        try simp only [List.getElem_cons_succ, List.getElem_cons_zero, Act.put, List.setIfInBounds_toArray, List.set_cons_zero, List.set_cons_succ]
        have HGF := Lib.hid BF.out.size
        clear al
        generalize wF.alloc (.cells #[.string ⟨#[]⟩, .string ⟨#[]⟩, .string ⟨#[]⟩] 51) = wA at *
        generalize wF.heap.size = gF at *
        have lk := LK.out _ _ TA.out
        refine ready_at 3 (by kernel_rfl) (by kernel_rfl) (fun K hK => ?_)
        simp only [List.getElem_cons_succ, List.getElem_cons_zero]
        go_simp
        refine hK.out _ _ (HS.out _ BA.out) (fun hHeld => ?_)
        clear hK K
        try simp only [List.getElem_cons_succ, List.getElem_cons_zero, Act.put, List.setIfInBounds_toArray, List.set_cons_zero, List.set_cons_succ]
        clear lk
        refine take_at 4 (by kernel_rfl) (v := ?v11) (by kernel_rfl) (by kernel_rfl) (by kernel_rfl) (fun _ _ _ h => h) (by rfl) ?y11 (by assumption) ?r11
        case y11 => (intro w hSw; (try dsimp only at hSw); simp only [List.getElem_cons_succ, List.getElem_cons_zero]; go_simp; (try with_reducible rfl))
        try simp only [List.getElem_cons_succ, List.getElem_cons_zero, Act.put, List.setIfInBounds_toArray, List.set_cons_zero, List.set_cons_succ]
        refine take_at 5 (by kernel_rfl) (v := ?v12) (by kernel_rfl) (by kernel_rfl) (by kernel_rfl) (fun _ _ _ h => h) (by rfl) ?y12 (by assumption) ?r12
        case y12 => (intro w hSw; (try dsimp only at hSw); simp only [List.getElem_cons_succ, List.getElem_cons_zero]; go_simp; (try with_reducible rfl))
        try simp only [List.getElem_cons_succ, List.getElem_cons_zero, Act.put, List.setIfInBounds_toArray, List.set_cons_zero, List.set_cons_succ]
        refine take_at 6 (by kernel_rfl) (v := ?v13) (by kernel_rfl) (by kernel_rfl) (by kernel_rfl) (fun _ _ _ h => h) (by rfl) ?y13 (by assumption) ?r13
        case y13 => (intro w hSw; (try dsimp only at hSw); simp only [List.getElem_cons_succ, List.getElem_cons_zero]; go_simp; (try with_reducible rfl))
        try simp only [List.getElem_cons_succ, List.getElem_cons_zero, Act.put, List.setIfInBounds_toArray, List.set_cons_zero, List.set_cons_succ]
        have sf := store_form15 (a := t) (b := t1) (c := t2) FA.out
        have B9 := Lib.hid (Go.Proofs.Yteepaoklibflpaa.Below.setRow BA.out HGF.out #[.string t, .string t1, .string t2])
        have F9 := Lib.hid (show Blk (wA.setRow gF #[.string t, .string t1, .string t2]) gF (fcs t t1 t2) 51 from FA.out.row (fcs t t1 t2))
        refine ready_at 8 (by kernel_rfl) (by kernel_rfl) (fun K hK => ?_)
        simp only [List.getElem_cons_succ, List.getElem_cons_zero]
        go_simp
        refine hK.out _ _ (HS.out _ B9.out) (fun hHeld => ?_)
        clear hK K
        try simp only [List.getElem_cons_succ, List.getElem_cons_zero, Act.put, List.setIfInBounds_toArray, List.set_cons_zero, List.set_cons_succ]
        refine take_at 9 (by kernel_rfl) (v := ?v14) (by kernel_rfl) (by kernel_rfl) (by kernel_rfl) (fun _ _ _ h => h) (by rfl) ?y14 (by assumption) ?r14
        case y14 => (intro w hSw; (try dsimp only at hSw); simp only [List.getElem_cons_succ, List.getElem_cons_zero]; go_simp; (try with_reducible rfl))
        try simp only [List.getElem_cons_succ, List.getElem_cons_zero, Act.put, List.setIfInBounds_toArray, List.set_cons_zero, List.set_cons_succ]
        refine wpAnyH_done (by kernel_rfl) ?_ _
        go_wp2_with fail
        go_meet
        case rel => exact ⟨gF, rfl, rfl, F9, B9⟩
    · intro K hK
      have al := alloc_form15 wd
      have BA := Lib.hid (BD.out.alloc BD.out.size (.cells #[.string ⟨#[]⟩, .string ⟨#[]⟩, .string ⟨#[]⟩] 51))
      have FA := Lib.hid (show Blk (wd.alloc (.cells #[.string ⟨#[]⟩, .string ⟨#[]⟩, .string ⟨#[]⟩] 51)) wd.heap.size (fcs ⟨#[]⟩ ⟨#[]⟩ ⟨#[]⟩) 51 from Blk.new wd #[.string ⟨#[]⟩, .string ⟨#[]⟩, .string ⟨#[]⟩] 51)
      simp only [List.getElem_cons_succ, List.getElem_cons_zero]
      go_simp
      refine hK.out _ _ (HS.out _ BA.out) (fun hHeld => ?_)
      clear hK K
      try simp only [List.getElem_cons_succ, List.getElem_cons_zero, Act.put, List.setIfInBounds_toArray, List.set_cons_zero, List.set_cons_succ]
      have HGF := Lib.hid BD.out.size
      clear al
      generalize wd.alloc (.cells #[.string ⟨#[]⟩, .string ⟨#[]⟩, .string ⟨#[]⟩] 51) = wA at *
      generalize wd.heap.size = gF at *
      refine ready_at 0 (by kernel_rfl) (by kernel_rfl) (fun K hK => ?_)
      simp only [List.getElem_cons_succ, List.getElem_cons_zero]
      go_simp
      go_at_call 18
      refine (wforms_any _).mono ?_
      rintro e wF ⟨mF, rfl, hT_, hB_⟩
      have BF := Lib.hid (BA.out.trans (hB_.mono BA.out.size))
      have TF := Lib.hid hT_
      have FF := Lib.hid (FA.out.below hB_ FA.out.lt)
      clear hT_ hB_
      (try go_wp2_with fail)
      refine hK.out _ _ (HS.out _ BF.out) (fun hHeld => ?_)
      clear hK K
      try simp only [List.getElem_cons_succ, List.getElem_cons_zero, Act.put, List.setIfInBounds_toArray, List.set_cons_zero, List.set_cons_succ]
      have lk := LK.out _ _ TF.out
      refine ready_at 3 (by kernel_rfl) (by kernel_rfl) (fun K hK => ?_)
      simp only [List.getElem_cons_succ, List.getElem_cons_zero]
      go_simp
      refine hK.out _ _ (HS.out _ BF.out) (fun hHeld => ?_)
      clear hK K
      try simp only [List.getElem_cons_succ, List.getElem_cons_zero, Act.put, List.setIfInBounds_toArray, List.set_cons_zero, List.set_cons_succ]
      clear lk
      refine take_at 4 (by kernel_rfl) (v := ?v3) (by kernel_rfl) (by kernel_rfl) (by kernel_rfl) (fun _ _ _ h => h) (by rfl) ?y3 (by assumption) ?r3
      case y3 => (intro w hSw; (try dsimp only at hSw); simp only [List.getElem_cons_succ, List.getElem_cons_zero]; go_simp; (try with_reducible rfl))
      try simp only [List.getElem_cons_succ, List.getElem_cons_zero, Act.put, List.setIfInBounds_toArray, List.set_cons_zero, List.set_cons_succ]
      refine take_at 5 (by kernel_rfl) (v := ?v4) (by kernel_rfl) (by kernel_rfl) (by kernel_rfl) (fun _ _ _ h => h) (by rfl) ?y4 (by assumption) ?r4
      case y4 => (intro w hSw; (try dsimp only at hSw); simp only [List.getElem_cons_succ, List.getElem_cons_zero]; go_simp; (try with_reducible rfl))
      try simp only [List.getElem_cons_succ, List.getElem_cons_zero, Act.put, List.setIfInBounds_toArray, List.set_cons_zero, List.set_cons_succ]
      refine take_at 6 (by kernel_rfl) (v := ?v5) (by kernel_rfl) (by kernel_rfl) (by kernel_rfl) (fun _ _ _ h => h) (by rfl) ?y5 (by assumption) ?r5
      case y5 => (intro w hSw; (try dsimp only at hSw); simp only [List.getElem_cons_succ, List.getElem_cons_zero]; go_simp; (try with_reducible rfl))
      try simp only [List.getElem_cons_succ, List.getElem_cons_zero, Act.put, List.setIfInBounds_toArray, List.set_cons_zero, List.set_cons_succ]
      have sf := store_form15 (a := t) (b := t1) (c := t2) FF.out
      have B9 := Lib.hid (Go.Proofs.Yteepaoklibflpaa.Below.setRow BF.out HGF.out #[.string t, .string t1, .string t2])
      have F9 := Lib.hid (show Blk (wF.setRow gF #[.string t, .string t1, .string t2]) gF (fcs t t1 t2) 51 from FF.out.row (fcs t t1 t2))
      refine ready_at 8 (by kernel_rfl) (by kernel_rfl) (fun K hK => ?_)
      simp only [List.getElem_cons_succ, List.getElem_cons_zero]
      go_simp
      refine hK.out _ _ (HS.out _ B9.out) (fun hHeld => ?_)
      clear hK K
      try simp only [List.getElem_cons_succ, List.getElem_cons_zero, Act.put, List.setIfInBounds_toArray, List.set_cons_zero, List.set_cons_succ]
      refine take_at 9 (by kernel_rfl) (v := ?v6) (by kernel_rfl) (by kernel_rfl) (by kernel_rfl) (fun _ _ _ h => h) (by rfl) ?y6 (by assumption) ?r6
      case y6 => (intro w hSw; (try dsimp only at hSw); simp only [List.getElem_cons_succ, List.getElem_cons_zero]; go_simp; (try with_reducible rfl))
      try simp only [List.getElem_cons_succ, List.getElem_cons_zero, Act.put, List.setIfInBounds_toArray, List.set_cons_zero, List.set_cons_succ]
      refine wpAnyH_done (by kernel_rfl) ?_ _
      go_wp2_with fail
      go_meet
      case rel => exact ⟨gF, rfl, rfl, F9, B9⟩
  case rest =>
    obtain ⟨gf, rfl, rfl, HF, HB⟩ := hcut
    clear HS LK r1
    have HK := Lib.hid (HK1.out.below HB.out HK1.out.lt)
    have HBW := Lib.hid (HB1.out.trans (HB.out.mono HB1.out.size))
    have c46 : wc.cell? ⟨g, 46, none⟩ = some (.slice h.r x.I.length h.d) := nblk_cells HK.out.range 46 (ncells_I HX.out.ok.len h)
    have c47 : wc.cell? ⟨g, 47, none⟩ = some (.slice h.s x.W.length h.e) := nblk_cells HK.out.range 47 (ncells_W HX.out.ok.len h)
    obtain ⟨nI, hnI⟩ : ∃ n, n = x.I.length := ⟨_, rfl⟩
    obtain ⟨nW, hnW⟩ : ∃ n, n = x.W.length := ⟨_, rfl⟩
    have HNI := Lib.hid hnI
    have HNW := Lib.hid hnW
    rw [← hnI] at c46 i1
    rw [← hnW] at c47 i2
    clear hnI hnW HK1 HB1 HB
    generalize wc = w2 at *
    have NO := Lib.hid (show ∀ w', Below w.heap.size w w' → check x = 2 → BDone15 x w (.returned (.tuple #[.slice none 0 0, .int .i64 2])) w' from fun w' hb hc => ⟨.slice none 0 0, by rw [hc], by rw [bodyB_no (by rw [hc]; decide)]; exact Own8.nil _ _ _, hb⟩)
    cases is_ with
    | false =>
      have HC := Lib.hid (body_few (x := x) (Or.inr (Or.inr (HIS.out.2 rfl))))
      go_wp2_with fail
      go_ret2
      exact NO.out _ HBW.out HC.out
    | true =>
      have HKK := Lib.hid (HIS.out.1 rfl)
      obtain ⟨e1, e2, e3⟩ := HLH.out rfl
      subst e1 e2 e3
      clear HIS HLH
      by_cases h1 : 64 < nI
      · have HC := Lib.hid (body_few (x := x) (Or.inl (by rw [← HNI.out]; exact h1)))
        have t1 : (64 : Int) < (nI : Int) := by omega
        go_wp2_with fail
        go_ret2
        exact NO.out _ HBW.out HC.out
      · have t1 : ¬ (64 : Int) < (nI : Int) := by omega
        by_cases h2 : 64 < nW
        · have HC := Lib.hid (body_few (x := x) (Or.inr (Or.inl (by rw [← HNW.out]; exact h2))))
          have t2 : (64 : Int) < (nW : Int) := by omega
          go_wp2_with fail
          go_ret2
          exact NO.out _ HBW.out HC.out
        · have t2 : ¬ (64 : Int) < (nW : Int) := by omega
          have lf := load_wform HF.out
          have ln := load_note (o := 0) HX.out.ok.len HK.out.range
          go_wp2_with fail
          refine (witems_any x h w2 (HX.out.below HBW.out) HFW.out).mono ?_
          rintro e w3 ⟨p, n, cp, rfl, hL, hb3⟩
          have HL := Lib.hid hL
          have HB3 := Lib.hid (HBW.out.trans (hb3.mono HBW.out.size))
          have HF3 := Lib.hid (HF.out.below hb3 HF.out.lt)
          have HK3 := Lib.hid (HK.out.below hb3 HK.out.lt)
          have lf3 := load_wform HF3.out
          clear hL hb3 lf ln c46 c47 t1 t2
          have HNT := Lib.hid (wnote_any (fun _ _ _ => True) x (yes x.Y) p n cp (itemsH15 x h) w3 HX.out.ok ⟨by have := HFW.out.I; omega, by have := HFW.out.W; omega⟩ (by rw [itemsH15_map, itemsR_yes]) HL.out (fun _ _ => trivial) trivial)
          obtain ⟨y, hy⟩ : ∃ y, y = noteR x (yes x.Y) := ⟨_, rfl⟩
          obtain ⟨may, hmay⟩ : ∃ b, b = decide (mayR x (yes x.Y)) := ⟨_, rfl⟩
          rw [← hy, ← hmay] at HNT
          have HY := Lib.hid hy
          have HM := Lib.hid hmay
          clear hy hmay
          go_wp2_with fail
          refine HNT.out.mono ?_
          rintro e w4 ⟨hd4, rfl, hyo, hyX, _, hyI, hyW, hb4⟩
          have GY := Lib.hid (note_good hyo hyX hyI hyW hb4)
          have HB4 := Lib.hid (HB3.out.trans (hb4.mono HB3.out.size))
          have HF4 := Lib.hid (HF3.out.below hb4 HF3.out.lt)
          have HK4 := Lib.hid (HK3.out.below hb4 HK3.out.lt)
          have HL4 := Lib.hid (HL.out.below hb4)
          have HYO := Lib.hid hyo
          clear hyX hyI hyW hb4 HNT lf3 HL HF3 HK3 hyo
          have al := alloc_note w4
          have st := store_note1 w4 (h := hd4) HYO.out.len
          have hb5 := (Below.refl _ w4).alloc (Nat.le_refl _) (.cells (ncells y hd4).toArray 32)
          have HB5 := Lib.hid (HB4.out.trans (hb5.mono HB4.out.size))
          have HK5 := Lib.hid (HK4.out.below hb5 HK4.out.lt)
          have HF5 := Lib.hid (HF4.out.below hb5 HF4.out.lt)
          have HY5 := Lib.hid (show Blk (w4.alloc (.cells (ncells y hd4).toArray 32)) w4.heap.size (ncells y hd4) 32 from Blk.new w4 (ncells y hd4).toArray 32)
          have GY5 := Lib.hid (GY.out.below hb5)
          have HL5 := Lib.hid (HL4.out.below hb5)
          obtain ⟨w5, hw5⟩ : ∃ v, v = w4.alloc (.cells (ncells y hd4).toArray 32) := ⟨_, rfl⟩
          rw [← hw5] at st HB5 HK5 HF5 HY5 GY5 HL5
          have lx := load_note (o := 0) HX.out.ok.len HK5.out.range
          have ly := load_note (o := 0) HYO.out.len HY5.out.range
          have lf5 := load_wform HF5.out
          clear hb5 hw5 GY HK4 HF4 HL4
          cases may with
          | false =>
            have HC := Lib.hid (body_not (x := x) (fun hh => by have := HM.out; rw [decide_eq_true hh.1] at this; cases this))
            go_wp2_with fail
            go_ret2
            exact NO.out _ HB5.out HC.out
          | true =>
            have HMY := Lib.hid (of_decide_eq_true HM.out.symm)
            have HSM := Lib.hid (wsame_any x y h hd4 w5 (HX.out.below HB5.out) GY5.out)
            obtain ⟨sm, hsm⟩ : ∃ b, b = decide (x = y) := ⟨_, rfl⟩
            rw [← hsm] at HSM
            have HSB := Lib.hid hsm
            clear hsm HM
            go_wp2_with fail
            refine HSM.out.mono ?_
            rintro e w6 ⟨rfl, hb6⟩
            have HB6 := Lib.hid (HB5.out.trans (hb6.mono HB5.out.size))
            have HF6 := Lib.hid (HF5.out.below hb6 HF5.out.lt)
            have HL6 := Lib.hid (HL5.out.below hb6)
            clear al hb6 HSM lx ly lf5 HK5 HY5 HF5 HL5 GY5
            cases sm with
            | false =>
              have HC := Lib.hid (body_not (x := x) (fun hh => by have := HSB.out; rw [HY.out, hh.2] at this; simp at this))
              go_wp2_with fail
              go_ret2
              exact NO.out _ HB6.out HC.out
            | true =>
              have HCN := Lib.hid (body_can HKK.out HMY.out (by have := of_decide_eq_true HSB.out.symm; rw [← HY.out]; exact this.symm))
              have lf6 := load_wform HF6.out
              have HSH := Lib.hid (show Calls Try.prog 20 #[.agg #[.string (kHas x.K), .string (kYes x.K), .string (kNo x.K)]] w6 fun e w' => e = .returned (.string (shS x.K)) ∧ Below w6.heap.size w6 w' from wshape_any x.K w6)
              clear HSB HY HMY NO
              go_wp2_with fail
              refine HSH.out.mono ?_
              rintro e w7 ⟨rfl, hb7⟩
              have HB7 := Lib.hid (HB6.out.trans (hb7.mono HB6.out.size))
              have HL7 := Lib.hid (HL6.out.below hb7)
              have hnl : n ≤ 100000 := by
                have h1 := HL7.out.len
                have h2 := flat_len h HFW.out (letters x.K) (letters_isT x.K)
                have h3 := letters_len x.K
                unfold itemsH15 at h1
                rw [List.length_append, show (headsH x).length = 3 from rfl] at h1
                omega
              have HIT := Lib.hid (by have := left_items HL7.out; rw [itemsH15_map] at this; exact this)
              have HLE := Lib.hid (show n = (items x).length from by rw [← itemsH15_map x h, List.length_map]; exact HL7.out.len)
              have HPT := Lib.hid (putF_any (shS x.K) (by have := shS_size x.K; unfold maxLen; omega) (items x) p n cp w7 HLE.out HIT.out HL7.out.le HL7.out.max HL7.out.nil hnl)
              rw [shS_nums] at HPT
              clear hb7 HSH lf6 HF6 HL6
              by_cases hX : 4000 < x.X.length
              · obtain ⟨hc, hput⟩ := body_long HCN.out hX
                rw [hput] at HPT
                have HC := Lib.hid hc
                clear hc hput
                go_wp2_with fail
                refine HPT.out.mono ?_
                rintro e w8 ⟨v8_, rfl, _, hb8⟩
                have HB8 := Lib.hid (HB7.out.trans (hb8.mono HB7.out.size))
                clear hb8 HPT
                go_wp2_with fail
                go_ret2
                exact ⟨.slice none 0 0, by rw [HC.out]; rfl, by rw [bodyB_no (by rw [HC.out]; decide)]; exact Own8.nil _ _ _, HB8.out⟩
              · have hput := body_put HCN.out (by omega)
                rw [hput] at HPT
                clear hput
                go_wp2_with fail
                refine HPT.out.mono ?_
                rintro e w8 ⟨v8_, rfl, ho8, hb8⟩
                obtain ⟨p8, c8, rfl, q1, q2, q3, q4, q5⟩ := own_at ho8.row
                have HO8 := Lib.hid ho8
                have HB8 := Lib.hid (HB7.out.trans (hb8.mono HB7.out.size))
                have HWB := Lib.hid (show w.heap.size ≤ w7.heap.size from HB7.out.size)
                dsimp only at HO8 q1 q3 q4 ⊢
                obtain ⟨m, hm⟩ : ∃ m, m = (inner x).length := ⟨_, rfl⟩
                rw [← hm] at HO8 ⊢
                have HMM := Lib.hid hm
                clear ho8 hb8 HPT q1 q2 q3 q4 q5 hm
                by_cases hl : 4000 < m
                · have HC := Lib.hid (check_long HCN.out (by rw [← HMM.out]; exact hl))
                  have tl : (4000 : Int) < (m : Int) := by omega
                  go_wp2_with fail
                  go_ret2
                  exact ⟨.slice none 0 0, by rw [HC.out]; rfl, by rw [bodyB_no (by rw [HC.out]; decide)]; exact Own8.nil _ _ _, HB8.out⟩
                · have HC := Lib.hid (check_of HCN.out (by rw [← HMM.out]; omega))
                  have tl : ¬ (4000 : Int) < (m : Int) := by omega
                  go_wp2_with fail
                  go_ret2
                  exact ⟨.slice p8 m c8, by rw [HC.out]; rfl, by rw [bodyB_ok HC.out, ← HMM.out]; exact ⟨own_weak HO8.out.row HWB.out, HO8.out.ints⟩, HB8.out⟩
end
end
end Go.Proofs.Yteepaoklibflpaa
