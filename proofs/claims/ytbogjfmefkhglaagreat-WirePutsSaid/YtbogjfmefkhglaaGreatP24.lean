/-
  The wire package's body (written by mknwp15.py).
  The wire package's Check and Put.
  The wire package keeps what the laws ask of it: Check, Put, Same.
  The law WirePuts, as its last text wants it.
  The last step of a law's row: it answered true, and left what was there as it was.
  What rows ask of the program itself; a slice of bytes among the arguments.
  A slice of bytes in memory that is looked through, opened.
  A note among the arguments, opened.
-/
import Derived.Test.YtbogjfmefkhglaaGreatP23
import Derived.Test.YtbogjfmefkhglaaGreatP10
import Derived.Test.YtbogjfmefkhglaaGreatP19
import Derived.Test.YtbogjfmefkhglaaGreatP16
import Derived.Test.YtbogjfmefkhglaaGreatP17
import Derived.Test.YtbogjfmefkhglaaGreatP1
import Derived.ProofKit
import Derived.OpenShut
import Derived.Test.YtbogjfmefkhglaaGreatP2
import Derived.Test.YtbogjfmefkhglaaGreatRows
import Derived.ChangeSlices
import Derived.Deep.Slices
import Derived.Deep.Strs
import Derived.Test.YtbogjfmefkhglaaGreatP3
namespace Go.Proofs.YtbogjfmefkhglaaGreat
section
set_option linter.unusedSimpArgs false
set_option linter.unusedVariables false
open Go.RowKit Sha Nte
open Fld (Itm)
section
variable (ρ : Operand → Value) (dst : Option Tmp) (ty : TypeId) (pos : String) (after : Array Edge) (guard : Option (Nat × Bool)) (x y : Operand)
theorem execOp_allocForm15 : execOp ρ { dst := dst, op := .alloc 63, type := ty, pos := pos, after := after, guard := guard } = allocOp 63 := by unfold allocOp; rfl
theorem execOp_storeForm15 : execOp ρ { dst := dst, op := .store 63 x y, type := ty, pos := pos, after := after, guard := guard } = storeOp 63 (ρ x) (ρ y) := by unfold storeOp; rfl
end
theorem form_zero15 : (Tryz.prog.info? 63).map (fun i => i.zero) = some (some (.agg #[.string ⟨#[]⟩, .string ⟨#[]⟩, .string ⟨#[]⟩])) := by kernel_rfl
theorem alloc_form15 (w : World) : (allocOp 63).run Tryz.prog w = .ok (.value (.pointer (some ⟨w.heap.size, 0, none⟩))) (w.alloc (.cells #[.string ⟨#[]⟩, .string ⟨#[]⟩, .string ⟨#[]⟩] 63)) := run_allocOp w form_zero15
theorem store_form15 {w : World} {g : Nat} {a b c a' b' c' : ByteArray} (h : Blk w g (fcs a' b' c') 63) : (storeOp 63 (.pointer (some ⟨g, 0, none⟩)) (.agg #[.string a, .string b, .string c])).run Tryz.prog w = .ok .skip (w.setRow g #[.string a, .string b, .string c]) :=
  run_storeOp (old := #[.string a', .string b', .string c']) h (by rw [form_size15]; rfl) rfl (by simp [Value.oneCell'])
/-- The table looked into. -/
def isK (k : Int) : Bool := decide (1 ≤ k ∧ k ≤ 19)
def lkH (k : Int) : ByteArray := if isK k = true then kHas k else ⟨#[]⟩
def lkY (k : Int) : ByteArray := if isK k = true then kYes k else ⟨#[]⟩
def lkN (k : Int) : ByteArray := if isK k = true then kNo k else ⟨#[]⟩
theorem wlook_any {w : World} {m : Value} (h : WTab w m) (k : Int) : (Instr.lookup 65 m (.int .i64 k) true).run Tryz.prog w = .ok (.tuple #[.agg #[.string (lkH k), .string (lkY k), .string (lkN k)], .bool (isK k)]) w := by
  by_cases hk : 1 ≤ k ∧ k ≤ 19
  · have e : isK k = true := decide_eq_true hk
    rw [wlook_yes h k hk true]
    unfold lkH lkY lkN
    rw [e]
    rfl
  · have e : isK k = false := decide_eq_false hk
    rw [wlook_no h k hk true]
    unfold lkH lkY lkN
    rw [e]
    rfl
def bodyB (x : Not) : List Int := if check x = 0 then inner x else []
theorem bodyB_no {x : Not} (h : check x ≠ 0) : bodyB x = [] := by unfold bodyB; rw [if_neg h]
theorem bodyB_ok {x : Not} (h : check x = 0) : bodyB x = inner x := by unfold bodyB; rw [if_pos h]
def BDone15 (x : Not) (w0 : World) (e : Ending) (w : World) : Prop :=
  ∃ v, e = .returned (.tuple #[v, .int .i64 (check x)]) ∧ Own8 w w0.heap.size 5 v (bodyB x).length ((bodyB x).map v8) ∧ Below w0.heap.size w0 w
theorem left_items {w : World} {p : Option Addr} {n c : Nat} {ys : List Hdr} (h : LeftAt w p n c ys) : ItemsAt w p (ys.map (·.1)) := ⟨ys, rfl, h.at_, h.good⟩
section
attribute [local go_sem ↓] execOp_boxNote execOp_loadNote execOp_allocNote execOp_storeNote execOp_loadForm15 execOp_allocForm15 execOp_storeForm15
set_option maxRecDepth 100000 in
set_option maxHeartbeats 8000000 in
theorem wbody_any (x : Not) (h : NHd) (w : World) (hg : NGood w x h) (hf : Few x) : Calls Tryz.prog 24 #[.agg (ncells x h).toArray] w (BDone15 x w) := by
  obtain ⟨g, w1, r1, hg1, hl1, K1, B1⟩ := box_note w x h
  have HX := Lib.hid hg
  have HFW := Lib.hid hf
  have i1 := hf.I
  have i2 := hf.W
  have HK1 := Lib.hid K1
  have HB1 := Lib.hid B1
  have HS := Lib.hid (show ∀ w', Below w1.heap.size w1 w' → w'.cell? ⟨g, 0, none⟩ = some (nic x.K) from fun w' hb => nblk_cells (HK1.out.below hb HK1.out.lt).range 0 rfl)
  have LK := Lib.hid (show ∀ w' m, WTab w' m → _ from fun w' m hm => wlook_any hm x.K)
  have HLH := Lib.hid (show isK x.K = true → lkH x.K = kHas x.K ∧ lkY x.K = kYes x.K ∧ lkN x.K = kNo x.K from fun e => by unfold lkH lkY lkN; rw [e]; exact ⟨rfl, rfl, rfl⟩)
  have HIS := Lib.hid (show (isK x.K = true → 1 ≤ x.K ∧ x.K ≤ 19) ∧ (isK x.K = false → ¬ (1 ≤ x.K ∧ x.K ≤ 19)) from ⟨fun e => of_decide_eq_true e, fun e => of_decide_eq_false e⟩)
  obtain ⟨t, ht⟩ : ∃ t, t = lkH x.K := ⟨_, rfl⟩
  obtain ⟨t1, ht1⟩ : ∃ t, t = lkY x.K := ⟨_, rfl⟩
  obtain ⟨t2, ht2⟩ : ∃ t, t = lkN x.K := ⟨_, rfl⟩
  obtain ⟨is_, his⟩ : ∃ b, b = isK x.K := ⟨_, rfl⟩
  rw [← ht, ← ht1, ← ht2, ← his] at HLH
  rw [← his] at HIS
  have LK := Lib.hid (show ∀ w' m, WTab w' m → (Instr.lookup 65 m (.int .i64 x.K) true).run Tryz.prog w' = .ok (.tuple #[.agg #[.string t, .string t1, .string t2], .bool is_]) w' from fun w' m hm => by rw [ht, ht1, ht2, his]; exact LK.out w' m hm)
  clear ht ht1 ht2 his K1 B1 hg1 hl1 hg hf
  go_enter Tryz.func24, Tryz.ntmps24
  go_wp2_with fail
  go_upto_region 1 with (fail)
  go_cut [4, 5] from 11 to 17 (fun s4 s5 wx => ∃ gf : Nat, s4 = .pointer (some ⟨gf, 0, none⟩) ∧ s5 = .bool is_ ∧ Hid (Blk wx gf (fcs t t1 t2) 63) ∧ Hid (Below w1.heap.size w1 wx))
  case first =>
    refine wp_region_held_drew (S := (fun w' => w'.cell? ⟨g, 0, none⟩ = some (nic x.K))) (by kernel_rfl) (HS.out _ (Below.refl w1.heap.size w1).drew) (fun hHeld => ?_)
    have BD := Lib.hid (Below.refl w1.heap.size w1).drew
    generalize w1.drew = wd at *
    refine take_at 1 (by kernel_rfl) (v := ?v1) (by kernel_rfl) (by kernel_rfl) (by kernel_rfl) (fun _ _ _ h => h) (by rfl) ?y1 (by assumption) ?r1
    case y1 => (intro w hSw; (try dsimp only at hSw); simp only [List.getElem_cons_succ, List.getElem_cons_zero]; go_simp; (try with_reducible rfl))
    try simp only [List.getElem_cons_succ, List.getElem_cons_zero, Act.put, List.setIfInBounds_toArray, List.set_cons_zero, List.set_cons_succ]
    refine take_at 2 (by kernel_rfl) (v := ?v2) (by kernel_rfl) (by kernel_rfl) (by kernel_rfl) (fun _ _ _ h => h) (by rfl) ?y2 (by assumption) ?r2
    case y2 => (intro w hSw; (try dsimp only at hSw); simp only [List.getElem_cons_succ, List.getElem_cons_zero]; go_simp; (try with_reducible rfl))
    try simp only [List.getElem_cons_succ, List.getElem_cons_zero, Act.put, List.setIfInBounds_toArray, List.set_cons_zero, List.set_cons_succ]
    refine ready2_at 0 7 (by kernel_rfl) (by kernel_rfl) (by kernel_rfl) ?_ ?_
    · intro K hK
      simp only [List.getElem_cons_succ, List.getElem_cons_zero]
      go_simp
      go_at_call 40
      refine (wforms_any _).mono ?_
      rintro e wF ⟨mF, rfl, hT_, hB_⟩
      have BF := Lib.hid (BD.out.trans (hB_.mono BD.out.size))
      have TF := Lib.hid hT_
      clear hT_ hB_
      (try go_wp2_with fail)
      refine hK.out _ _ (HS.out _ BF.out) (fun hHeld => ?_)
      clear hK K
      try simp only [List.getElem_cons_succ, List.getElem_cons_zero, Act.put, List.setIfInBounds_toArray, List.set_cons_zero, List.set_cons_succ]
      refine ready2_at 3 7 (by kernel_rfl) (by kernel_rfl) (by kernel_rfl) ?_ ?_
      · intro K hK
        have lk := LK.out _ _ TF.out
        simp only [List.getElem_cons_succ, List.getElem_cons_zero]
        go_simp
        refine hK.out _ _ (HS.out _ BF.out) (fun hHeld => ?_)
        clear hK K
        try simp only [List.getElem_cons_succ, List.getElem_cons_zero, Act.put, List.setIfInBounds_toArray, List.set_cons_zero, List.set_cons_succ]
        clear lk
        refine take_at 4 (by kernel_rfl) (v := ?v7) (by kernel_rfl) (by kernel_rfl) (by kernel_rfl) (fun _ _ _ h => h) (by rfl) ?y7 (by assumption) ?r7
        case y7 => (intro w hSw; (try dsimp only at hSw); simp only [List.getElem_cons_succ, List.getElem_cons_zero]; go_simp; (try with_reducible rfl))
        try simp only [List.getElem_cons_succ, List.getElem_cons_zero, Act.put, List.setIfInBounds_toArray, List.set_cons_zero, List.set_cons_succ]
        refine take_at 5 (by kernel_rfl) (v := ?v8) (by kernel_rfl) (by kernel_rfl) (by kernel_rfl) (fun _ _ _ h => h) (by rfl) ?y8 (by assumption) ?r8
        case y8 => (intro w hSw; (try dsimp only at hSw); simp only [List.getElem_cons_succ, List.getElem_cons_zero]; go_simp; (try with_reducible rfl))
        try simp only [List.getElem_cons_succ, List.getElem_cons_zero, Act.put, List.setIfInBounds_toArray, List.set_cons_zero, List.set_cons_succ]
        refine take_at 6 (by kernel_rfl) (v := ?v9) (by kernel_rfl) (by kernel_rfl) (by kernel_rfl) (fun _ _ _ h => h) (by rfl) ?y9 (by assumption) ?r9
        case y9 => (intro w hSw; (try dsimp only at hSw); simp only [List.getElem_cons_succ, List.getElem_cons_zero]; go_simp; (try with_reducible rfl))
        try simp only [List.getElem_cons_succ, List.getElem_cons_zero, Act.put, List.setIfInBounds_toArray, List.set_cons_zero, List.set_cons_succ]
        have al := alloc_form15 wF
        have BA := Lib.hid (BF.out.alloc BF.out.size (.cells #[.string ⟨#[]⟩, .string ⟨#[]⟩, .string ⟨#[]⟩] 63))
        have FA := Lib.hid (show Blk (wF.alloc (.cells #[.string ⟨#[]⟩, .string ⟨#[]⟩, .string ⟨#[]⟩] 63)) wF.heap.size (fcs ⟨#[]⟩ ⟨#[]⟩ ⟨#[]⟩) 63 from Blk.new wF #[.string ⟨#[]⟩, .string ⟨#[]⟩, .string ⟨#[]⟩] 63)
        have TA := Lib.hid (TF.out.below ((Below.refl _ wF).alloc (Nat.le_refl _) (.cells #[.string ⟨#[]⟩, .string ⟨#[]⟩, .string ⟨#[]⟩] 63)))
        refine ready_at 7 (by kernel_rfl) (by kernel_rfl) (fun K hK => ?_)
        simp only [List.getElem_cons_succ, List.getElem_cons_zero]
        go_simp
        refine hK.out _ _ (HS.out _ BA.out) (fun hHeld => ?_)
        clear hK K
        try simp only [List.getElem_cons_succ, List.getElem_cons_zero, Act.put, List.setIfInBounds_toArray, List.set_cons_zero, List.set_cons_succ]
        have HGF := Lib.hid BF.out.size
        clear al
        generalize wF.alloc (.cells #[.string ⟨#[]⟩, .string ⟨#[]⟩, .string ⟨#[]⟩] 63) = wA at *
        generalize wF.heap.size = gF at *
        have sf := store_form15 (a := t) (b := t1) (c := t2) FA.out
        have B9 := Lib.hid (Go.Proofs.YtbogjfmefkhglaaGreat.Below.setRow BA.out HGF.out #[.string t, .string t1, .string t2])
        have F9 := Lib.hid (show Blk (wA.setRow gF #[.string t, .string t1, .string t2]) gF (fcs t t1 t2) 63 from FA.out.row (fcs t t1 t2))
        refine ready_at 8 (by kernel_rfl) (by kernel_rfl) (fun K hK => ?_)
        simp only [List.getElem_cons_succ, List.getElem_cons_zero]
        go_simp
        refine hK.out _ _ (HS.out _ B9.out) (fun hHeld => ?_)
        clear hK K
        try simp only [List.getElem_cons_succ, List.getElem_cons_zero, Act.put, List.setIfInBounds_toArray, List.set_cons_zero, List.set_cons_succ]
        refine take_at 9 (by kernel_rfl) (v := ?v10) (by kernel_rfl) (by kernel_rfl) (by kernel_rfl) (fun _ _ _ h => h) (by rfl) ?y10 (by assumption) ?r10
        case y10 => (intro w hSw; (try dsimp only at hSw); simp only [List.getElem_cons_succ, List.getElem_cons_zero]; go_simp; (try with_reducible rfl))
        try simp only [List.getElem_cons_succ, List.getElem_cons_zero, Act.put, List.setIfInBounds_toArray, List.set_cons_zero, List.set_cons_succ]
        refine wpAnyH_done (by kernel_rfl) ?_ _
        go_wp2_with fail
        go_meet
        case rel => exact ⟨gF, rfl, rfl, F9, B9⟩
      · intro K hK
        have al := alloc_form15 wF
        have BA := Lib.hid (BF.out.alloc BF.out.size (.cells #[.string ⟨#[]⟩, .string ⟨#[]⟩, .string ⟨#[]⟩] 63))
        have FA := Lib.hid (show Blk (wF.alloc (.cells #[.string ⟨#[]⟩, .string ⟨#[]⟩, .string ⟨#[]⟩] 63)) wF.heap.size (fcs ⟨#[]⟩ ⟨#[]⟩ ⟨#[]⟩) 63 from Blk.new wF #[.string ⟨#[]⟩, .string ⟨#[]⟩, .string ⟨#[]⟩] 63)
        have TA := Lib.hid (TF.out.below ((Below.refl _ wF).alloc (Nat.le_refl _) (.cells #[.string ⟨#[]⟩, .string ⟨#[]⟩, .string ⟨#[]⟩] 63)))
        simp only [List.getElem_cons_succ, List.getElem_cons_zero]
        go_simp
        refine hK.out _ _ (HS.out _ BA.out) (fun hHeld => ?_)
        clear hK K
        try simp only [List.getElem_cons_succ, List.getElem_cons_zero, Act.put, List.setIfInBounds_toArray, List.set_cons_zero, List.set_cons_succ]
        have HGF := Lib.hid BF.out.size
        clear al
        generalize wF.alloc (.cells #[.string ⟨#[]⟩, .string ⟨#[]⟩, .string ⟨#[]⟩] 63) = wA at *
        generalize wF.heap.size = gF at *
        have lk := LK.out _ _ TA.out
        refine ready_at 3 (by kernel_rfl) (by kernel_rfl) (fun K hK => ?_)
        simp only [List.getElem_cons_succ, List.getElem_cons_zero]
        go_simp
        refine hK.out _ _ (HS.out _ BA.out) (fun hHeld => ?_)
        clear hK K
        try simp only [List.getElem_cons_succ, List.getElem_cons_zero, Act.put, List.setIfInBounds_toArray, List.set_cons_zero, List.set_cons_succ]
        clear lk
        refine take_at 4 (by kernel_rfl) (v := ?v11) (by kernel_rfl) (by kernel_rfl) (by kernel_rfl) (fun _ _ _ h => h) (by rfl) ?y11 (by assumption) ?r11
        case y11 => (intro w hSw; (try dsimp only at hSw); simp only [List.getElem_cons_succ, List.getElem_cons_zero]; go_simp; (try with_reducible rfl))
        try simp only [List.getElem_cons_succ, List.getElem_cons_zero, Act.put, List.setIfInBounds_toArray, List.set_cons_zero, List.set_cons_succ]
        refine take_at 5 (by kernel_rfl) (v := ?v12) (by kernel_rfl) (by kernel_rfl) (by kernel_rfl) (fun _ _ _ h => h) (by rfl) ?y12 (by assumption) ?r12
        case y12 => (intro w hSw; (try dsimp only at hSw); simp only [List.getElem_cons_succ, List.getElem_cons_zero]; go_simp; (try with_reducible rfl))
        try simp only [List.getElem_cons_succ, List.getElem_cons_zero, Act.put, List.setIfInBounds_toArray, List.set_cons_zero, List.set_cons_succ]
        refine take_at 6 (by kernel_rfl) (v := ?v13) (by kernel_rfl) (by kernel_rfl) (by kernel_rfl) (fun _ _ _ h => h) (by rfl) ?y13 (by assumption) ?r13
        case y13 => (intro w hSw; (try dsimp only at hSw); simp only [List.getElem_cons_succ, List.getElem_cons_zero]; go_simp; (try with_reducible rfl))
        try simp only [List.getElem_cons_succ, List.getElem_cons_zero, Act.put, List.setIfInBounds_toArray, List.set_cons_zero, List.set_cons_succ]
        have sf := store_form15 (a := t) (b := t1) (c := t2) FA.out
        have B9 := Lib.hid (Go.Proofs.YtbogjfmefkhglaaGreat.Below.setRow BA.out HGF.out #[.string t, .string t1, .string t2])
        have F9 := Lib.hid (show Blk (wA.setRow gF #[.string t, .string t1, .string t2]) gF (fcs t t1 t2) 63 from FA.out.row (fcs t t1 t2))
        refine ready_at 8 (by kernel_rfl) (by kernel_rfl) (fun K hK => ?_)
        simp only [List.getElem_cons_succ, List.getElem_cons_zero]
        go_simp
        refine hK.out _ _ (HS.out _ B9.out) (fun hHeld => ?_)
        clear hK K
        try simp only [List.getElem_cons_succ, List.getElem_cons_zero, Act.put, List.setIfInBounds_toArray, List.set_cons_zero, List.set_cons_succ]
        refine take_at 9 (by kernel_rfl) (v := ?v14) (by kernel_rfl) (by kernel_rfl) (by kernel_rfl) (fun _ _ _ h => h) (by rfl) ?y14 (by assumption) ?r14
        case y14 => (intro w hSw; (try dsimp only at hSw); simp only [List.getElem_cons_succ, List.getElem_cons_zero]; go_simp; (try with_reducible rfl))
        try simp only [List.getElem_cons_succ, List.getElem_cons_zero, Act.put, List.setIfInBounds_toArray, List.set_cons_zero, List.set_cons_succ]
        refine wpAnyH_done (by kernel_rfl) ?_ _
        go_wp2_with fail
        go_meet
        case rel => exact ⟨gF, rfl, rfl, F9, B9⟩
    · intro K hK
      have al := alloc_form15 wd
      have BA := Lib.hid (BD.out.alloc BD.out.size (.cells #[.string ⟨#[]⟩, .string ⟨#[]⟩, .string ⟨#[]⟩] 63))
      have FA := Lib.hid (show Blk (wd.alloc (.cells #[.string ⟨#[]⟩, .string ⟨#[]⟩, .string ⟨#[]⟩] 63)) wd.heap.size (fcs ⟨#[]⟩ ⟨#[]⟩ ⟨#[]⟩) 63 from Blk.new wd #[.string ⟨#[]⟩, .string ⟨#[]⟩, .string ⟨#[]⟩] 63)
      simp only [List.getElem_cons_succ, List.getElem_cons_zero]
      go_simp
      refine hK.out _ _ (HS.out _ BA.out) (fun hHeld => ?_)
      clear hK K
      try simp only [List.getElem_cons_succ, List.getElem_cons_zero, Act.put, List.setIfInBounds_toArray, List.set_cons_zero, List.set_cons_succ]
      have HGF := Lib.hid BD.out.size
      clear al
      generalize wd.alloc (.cells #[.string ⟨#[]⟩, .string ⟨#[]⟩, .string ⟨#[]⟩] 63) = wA at *
      generalize wd.heap.size = gF at *
      refine ready_at 0 (by kernel_rfl) (by kernel_rfl) (fun K hK => ?_)
      simp only [List.getElem_cons_succ, List.getElem_cons_zero]
      go_simp
      go_at_call 40
      refine (wforms_any _).mono ?_
      rintro e wF ⟨mF, rfl, hT_, hB_⟩
      have BF := Lib.hid (BA.out.trans (hB_.mono BA.out.size))
      have TF := Lib.hid hT_
      have FF := Lib.hid (FA.out.below hB_ FA.out.lt)
      clear hT_ hB_
      (try go_wp2_with fail)
      refine hK.out _ _ (HS.out _ BF.out) (fun hHeld => ?_)
      clear hK K
      try simp only [List.getElem_cons_succ, List.getElem_cons_zero, Act.put, List.setIfInBounds_toArray, List.set_cons_zero, List.set_cons_succ]
      have lk := LK.out _ _ TF.out
      refine ready_at 3 (by kernel_rfl) (by kernel_rfl) (fun K hK => ?_)
      simp only [List.getElem_cons_succ, List.getElem_cons_zero]
      go_simp
      refine hK.out _ _ (HS.out _ BF.out) (fun hHeld => ?_)
      clear hK K
      try simp only [List.getElem_cons_succ, List.getElem_cons_zero, Act.put, List.setIfInBounds_toArray, List.set_cons_zero, List.set_cons_succ]
      clear lk
      refine take_at 4 (by kernel_rfl) (v := ?v3) (by kernel_rfl) (by kernel_rfl) (by kernel_rfl) (fun _ _ _ h => h) (by rfl) ?y3 (by assumption) ?r3
      case y3 => (intro w hSw; (try dsimp only at hSw); simp only [List.getElem_cons_succ, List.getElem_cons_zero]; go_simp; (try with_reducible rfl))
      try simp only [List.getElem_cons_succ, List.getElem_cons_zero, Act.put, List.setIfInBounds_toArray, List.set_cons_zero, List.set_cons_succ]
      refine take_at 5 (by kernel_rfl) (v := ?v4) (by kernel_rfl) (by kernel_rfl) (by kernel_rfl) (fun _ _ _ h => h) (by rfl) ?y4 (by assumption) ?r4
      case y4 => (intro w hSw; (try dsimp only at hSw); simp only [List.getElem_cons_succ, List.getElem_cons_zero]; go_simp; (try with_reducible rfl))
      try simp only [List.getElem_cons_succ, List.getElem_cons_zero, Act.put, List.setIfInBounds_toArray, List.set_cons_zero, List.set_cons_succ]
      refine take_at 6 (by kernel_rfl) (v := ?v5) (by kernel_rfl) (by kernel_rfl) (by kernel_rfl) (fun _ _ _ h => h) (by rfl) ?y5 (by assumption) ?r5
      case y5 => (intro w hSw; (try dsimp only at hSw); simp only [List.getElem_cons_succ, List.getElem_cons_zero]; go_simp; (try with_reducible rfl))
      try simp only [List.getElem_cons_succ, List.getElem_cons_zero, Act.put, List.setIfInBounds_toArray, List.set_cons_zero, List.set_cons_succ]
      have sf := store_form15 (a := t) (b := t1) (c := t2) FF.out
      have B9 := Lib.hid (Go.Proofs.YtbogjfmefkhglaaGreat.Below.setRow BF.out HGF.out #[.string t, .string t1, .string t2])
      have F9 := Lib.hid (show Blk (wF.setRow gF #[.string t, .string t1, .string t2]) gF (fcs t t1 t2) 63 from FF.out.row (fcs t t1 t2))
      refine ready_at 8 (by kernel_rfl) (by kernel_rfl) (fun K hK => ?_)
      simp only [List.getElem_cons_succ, List.getElem_cons_zero]
      go_simp
      refine hK.out _ _ (HS.out _ B9.out) (fun hHeld => ?_)
      clear hK K
      try simp only [List.getElem_cons_succ, List.getElem_cons_zero, Act.put, List.setIfInBounds_toArray, List.set_cons_zero, List.set_cons_succ]
      refine take_at 9 (by kernel_rfl) (v := ?v6) (by kernel_rfl) (by kernel_rfl) (by kernel_rfl) (fun _ _ _ h => h) (by rfl) ?y6 (by assumption) ?r6
      case y6 => (intro w hSw; (try dsimp only at hSw); simp only [List.getElem_cons_succ, List.getElem_cons_zero]; go_simp; (try with_reducible rfl))
      try simp only [List.getElem_cons_succ, List.getElem_cons_zero, Act.put, List.setIfInBounds_toArray, List.set_cons_zero, List.set_cons_succ]
      refine wpAnyH_done (by kernel_rfl) ?_ _
      go_wp2_with fail
      go_meet
      case rel => exact ⟨gF, rfl, rfl, F9, B9⟩
  case rest =>
    obtain ⟨gf, rfl, rfl, HF, HB⟩ := hcut
    clear HS LK r1
    have HK := Lib.hid (HK1.out.below HB.out HK1.out.lt)
    have HBW := Lib.hid (HB1.out.trans (HB.out.mono HB1.out.size))
    have c46 : wc.cell? ⟨g, 46, none⟩ = some (.slice h.r x.I.length h.d) := nblk_cells HK.out.range 46 (ncells_I HX.out.ok.len h)
    have c47 : wc.cell? ⟨g, 47, none⟩ = some (.slice h.s x.W.length h.e) := nblk_cells HK.out.range 47 (ncells_W HX.out.ok.len h)
    obtain ⟨nI, hnI⟩ : ∃ n, n = x.I.length := ⟨_, rfl⟩
    obtain ⟨nW, hnW⟩ : ∃ n, n = x.W.length := ⟨_, rfl⟩
    have HNI := Lib.hid hnI
    have HNW := Lib.hid hnW
    rw [← hnI] at c46 i1
    rw [← hnW] at c47 i2
    clear hnI hnW HK1 HB1 HB
    generalize wc = w2 at *
    have NO := Lib.hid (show ∀ w', Below w.heap.size w w' → check x = 2 → BDone15 x w (.returned (.tuple #[.slice none 0 0, .int .i64 2])) w' from fun w' hb hc => ⟨.slice none 0 0, by rw [hc], by rw [bodyB_no (by rw [hc]; decide)]; exact Own8.nil _ _ _, hb⟩)
    cases is_ with
    | false =>
      have HC := Lib.hid (body_few (x := x) (Or.inr (Or.inr (HIS.out.2 rfl))))
      go_wp2_with fail
      go_ret2
      exact NO.out _ HBW.out HC.out
    | true =>
      have HKK := Lib.hid (HIS.out.1 rfl)
      obtain ⟨e1, e2, e3⟩ := HLH.out rfl
      subst e1 e2 e3
      clear HIS HLH
      by_cases h1 : 64 < nI
      · have HC := Lib.hid (body_few (x := x) (Or.inl (by rw [← HNI.out]; exact h1)))
        have t1 : (64 : Int) < (nI : Int) := by omega
        go_wp2_with fail
        go_ret2
        exact NO.out _ HBW.out HC.out
      · have t1 : ¬ (64 : Int) < (nI : Int) := by omega
        by_cases h2 : 64 < nW
        · have HC := Lib.hid (body_few (x := x) (Or.inr (Or.inl (by rw [← HNW.out]; exact h2))))
          have t2 : (64 : Int) < (nW : Int) := by omega
          go_wp2_with fail
          go_ret2
          exact NO.out _ HBW.out HC.out
        · have t2 : ¬ (64 : Int) < (nW : Int) := by omega
          have lf := load_wform HF.out
          have ln := load_note (o := 0) HX.out.ok.len HK.out.range
          go_wp2_with fail
          refine (witems_any x h w2 (HX.out.below HBW.out) HFW.out).mono ?_
          rintro e w3 ⟨p, n, cp, rfl, hL, hb3⟩
          have HL := Lib.hid hL
          have HB3 := Lib.hid (HBW.out.trans (hb3.mono HBW.out.size))
          have HF3 := Lib.hid (HF.out.below hb3 HF.out.lt)
          have HK3 := Lib.hid (HK.out.below hb3 HK.out.lt)
          have lf3 := load_wform HF3.out
          clear hL hb3 lf ln c46 c47 t1 t2
          have HNT := Lib.hid (wnote_any (fun _ _ _ => True) x (yes x.Y) p n cp (itemsH15 x h) w3 HX.out.ok ⟨by have := HFW.out.I; omega, by have := HFW.out.W; omega⟩ (by rw [itemsH15_map, itemsR_yes]) HL.out (fun _ _ => trivial) trivial)
          obtain ⟨y, hy⟩ : ∃ y, y = noteR x (yes x.Y) := ⟨_, rfl⟩
          obtain ⟨may, hmay⟩ : ∃ b, b = decide (mayR x (yes x.Y)) := ⟨_, rfl⟩
          rw [← hy, ← hmay] at HNT
          have HY := Lib.hid hy
          have HM := Lib.hid hmay
          clear hy hmay
          go_wp2_with fail
          refine HNT.out.mono ?_
          rintro e w4 ⟨hd4, rfl, hyo, hyX, _, hyI, hyW, hb4⟩
          have GY := Lib.hid (note_good hyo hyX hyI hyW hb4)
          have HB4 := Lib.hid (HB3.out.trans (hb4.mono HB3.out.size))
          have HF4 := Lib.hid (HF3.out.below hb4 HF3.out.lt)
          have HK4 := Lib.hid (HK3.out.below hb4 HK3.out.lt)
          have HL4 := Lib.hid (HL.out.below hb4)
          have HYO := Lib.hid hyo
          clear hyX hyI hyW hb4 HNT lf3 HL HF3 HK3 hyo
          have al := alloc_note w4
          have st := store_note1 w4 (h := hd4) HYO.out.len
          have hb5 := (Below.refl _ w4).alloc (Nat.le_refl _) (.cells (ncells y hd4).toArray 32)
          have HB5 := Lib.hid (HB4.out.trans (hb5.mono HB4.out.size))
          have HK5 := Lib.hid (HK4.out.below hb5 HK4.out.lt)
          have HF5 := Lib.hid (HF4.out.below hb5 HF4.out.lt)
          have HY5 := Lib.hid (show Blk (w4.alloc (.cells (ncells y hd4).toArray 32)) w4.heap.size (ncells y hd4) 32 from Blk.new w4 (ncells y hd4).toArray 32)
          have GY5 := Lib.hid (GY.out.below hb5)
          have HL5 := Lib.hid (HL4.out.below hb5)
          obtain ⟨w5, hw5⟩ : ∃ v, v = w4.alloc (.cells (ncells y hd4).toArray 32) := ⟨_, rfl⟩
          rw [← hw5] at st HB5 HK5 HF5 HY5 GY5 HL5
          have lx := load_note (o := 0) HX.out.ok.len HK5.out.range
          have ly := load_note (o := 0) HYO.out.len HY5.out.range
          have lf5 := load_wform HF5.out
          clear hb5 hw5 GY HK4 HF4 HL4
          cases may with
          | false =>
            have HC := Lib.hid (body_not (x := x) (fun hh => by have := HM.out; rw [decide_eq_true hh.1] at this; cases this))
            go_wp2_with fail
            go_ret2
            exact NO.out _ HB5.out HC.out
          | true =>
            have HMY := Lib.hid (of_decide_eq_true HM.out.symm)
            have HSM := Lib.hid (wsame_any x y h hd4 w5 (HX.out.below HB5.out) GY5.out)
            obtain ⟨sm, hsm⟩ : ∃ b, b = decide (x = y) := ⟨_, rfl⟩
            rw [← hsm] at HSM
            have HSB := Lib.hid hsm
            clear hsm HM
            go_wp2_with fail
            refine HSM.out.mono ?_
            rintro e w6 ⟨rfl, hb6⟩
            have HB6 := Lib.hid (HB5.out.trans (hb6.mono HB5.out.size))
            have HF6 := Lib.hid (HF5.out.below hb6 HF5.out.lt)
            have HL6 := Lib.hid (HL5.out.below hb6)
            clear al hb6 HSM lx ly lf5 HK5 HY5 HF5 HL5 GY5
            cases sm with
            | false =>
              have HC := Lib.hid (body_not (x := x) (fun hh => by have := HSB.out; rw [HY.out, hh.2] at this; simp at this))
              go_wp2_with fail
              go_ret2
              exact NO.out _ HB6.out HC.out
            | true =>
              have HCN := Lib.hid (body_can HKK.out HMY.out (by have := of_decide_eq_true HSB.out.symm; rw [← HY.out]; exact this.symm))
              have lf6 := load_wform HF6.out
              have HSH := Lib.hid (show Calls Tryz.prog 42 #[.agg #[.string (kHas x.K), .string (kYes x.K), .string (kNo x.K)]] w6 fun e w' => e = .returned (.string (shS x.K)) ∧ Below w6.heap.size w6 w' from wshape_any x.K w6)
              clear HSB HY HMY NO
              go_wp2_with fail
              refine HSH.out.mono ?_
              rintro e w7 ⟨rfl, hb7⟩
              have HB7 := Lib.hid (HB6.out.trans (hb7.mono HB6.out.size))
              have HL7 := Lib.hid (HL6.out.below hb7)
              have hnl : n ≤ 100000 := by
                have h1 := HL7.out.len
                have h2 := flat_len h HFW.out (letters x.K) (letters_isT x.K)
                have h3 := letters_len x.K
                unfold itemsH15 at h1
                rw [List.length_append, show (headsH x).length = 3 from rfl] at h1
                omega
              have HIT := Lib.hid (by have := left_items HL7.out; rw [itemsH15_map] at this; exact this)
              have HLE := Lib.hid (show n = (items x).length from by rw [← itemsH15_map x h, List.length_map]; exact HL7.out.len)
              have HPT := Lib.hid (putF_any (shS x.K) (by have := shS_size x.K; unfold maxLen; omega) (items x) p n cp w7 HLE.out HIT.out HL7.out.le HL7.out.max HL7.out.nil hnl)
              rw [shS_nums] at HPT
              clear hb7 HSH lf6 HF6 HL6
              by_cases hX : 4000 < x.X.length
              · obtain ⟨hc, hput⟩ := body_long HCN.out hX
                rw [hput] at HPT
                have HC := Lib.hid hc
                clear hc hput
                go_wp2_with fail
                refine HPT.out.mono ?_
                rintro e w8 ⟨v8_, rfl, _, hb8⟩
                have HB8 := Lib.hid (HB7.out.trans (hb8.mono HB7.out.size))
                clear hb8 HPT
                go_wp2_with fail
                go_ret2
                exact ⟨.slice none 0 0, by rw [HC.out]; rfl, by rw [bodyB_no (by rw [HC.out]; decide)]; exact Own8.nil _ _ _, HB8.out⟩
              · have hput := body_put HCN.out (by omega)
                rw [hput] at HPT
                clear hput
                go_wp2_with fail
                refine HPT.out.mono ?_
                rintro e w8 ⟨v8_, rfl, ho8, hb8⟩
                obtain ⟨p8, c8, rfl, q1, q2, q3, q4, q5⟩ := own_at ho8.row
                have HO8 := Lib.hid ho8
                have HB8 := Lib.hid (HB7.out.trans (hb8.mono HB7.out.size))
                have HWB := Lib.hid (show w.heap.size ≤ w7.heap.size from HB7.out.size)
                dsimp only at HO8 q1 q3 q4 ⊢
                obtain ⟨m, hm⟩ : ∃ m, m = (inner x).length := ⟨_, rfl⟩
                rw [← hm] at HO8 ⊢
                have HMM := Lib.hid hm
                clear ho8 hb8 HPT q1 q2 q3 q4 q5 hm
                by_cases hl : 4000 < m
                · have HC := Lib.hid (check_long HCN.out (by rw [← HMM.out]; exact hl))
                  have tl : (4000 : Int) < (m : Int) := by omega
                  go_wp2_with fail
                  go_ret2
                  exact ⟨.slice none 0 0, by rw [HC.out]; rfl, by rw [bodyB_no (by rw [HC.out]; decide)]; exact Own8.nil _ _ _, HB8.out⟩
                · have HC := Lib.hid (check_of HCN.out (by rw [← HMM.out]; omega))
                  have tl : ¬ (4000 : Int) < (m : Int) := by omega
                  go_wp2_with fail
                  go_ret2
                  exact ⟨.slice p8 m c8, by rw [HC.out]; rfl, by rw [bodyB_ok HC.out, ← HMM.out]; exact ⟨own_weak HO8.out.row HWB.out, HO8.out.ints⟩, HB8.out⟩
end
end
section
set_option linter.unusedSimpArgs false
set_option linter.unusedVariables false
open Go.RowKit Sha Nte
open Fld (Itm)
section
attribute [local go_sem ↓] execOp_boxNote execOp_loadNote
set_option maxRecDepth 100000 in
set_option maxHeartbeats 1000000 in
theorem wcheck_any (x : Not) (h : NHd) (w : World) (hg : NGood w x h) (hf : Few x) : Calls Tryz.prog 11 #[.agg (ncells x h).toArray] w fun e w' => e = .returned (.int .i64 (check x)) ∧ Below w.heap.size w w' := by
  obtain ⟨g, w1, r1, hg1, hl1, K1, B1⟩ := box_note w x h
  have l1 := load_note (o := 0) hg.ok.len K1.range
  have HB1 := Lib.hid B1
  have HBD := Lib.hid (wbody_any x h w1 (hg.below B1) hf)
  clear hg1 hl1 K1 B1 hg
  go_enter Tryz.func11, Tryz.ntmps11
  go_wp2_with fail
  refine HBD.out.mono ?_
  rintro e w2 ⟨v, rfl, _, hb2⟩
  have HB2 := Lib.hid (HB1.out.trans (hb2.mono HB1.out.size))
  clear hb2 HBD l1 r1
  go_wp2_with fail
  go_ret
  exact ⟨rfl, HB2.out⟩
theorem frm_put {b : List Int} (h : Frm.Rec b) : Frm.put b = (Frm.fr b, 0) := by
  unfold Frm.put
  rw [h.bad]
  simp
set_option maxRecDepth 100000 in
set_option maxHeartbeats 1000000 in
theorem wput_any (F : FrameOK) (x : Not) (h : NHd) (w : World) (hg : NGood w x h) (hf : Few x) : Calls Tryz.prog 8 #[.agg (ncells x h).toArray] w (FDone8 w (Nte.put x)) := by
  obtain ⟨g, w1, r1, hg1, hl1, K1, B1⟩ := box_note w x h
  have l1 := load_note (o := 0) hg.ok.len K1.range
  have HB1 := Lib.hid B1
  have HBD := Lib.hid (wbody_any x h w1 (hg.below B1) hf)
  have HBY := Lib.hid (inner_bytes hg.ok)
  clear hg1 hl1 K1 B1 hg
  by_cases hc : check x = 0
  · have HP := Lib.hid (Nte.put_ok hc)
    have HR := Lib.hid (inner_rec hc)
    rw [HP.out]
    unfold BDone15 at HBD
    rw [hc, bodyB_ok hc] at HBD
    clear hc HP
    go_enter Tryz.func8, Tryz.ntmps8
    go_wp2_with fail
    refine HBD.out.mono ?_
    rintro e w2 ⟨v, rfl, ho, hb2⟩
    obtain ⟨p, c, rfl, q1, q2, q3, _, q5⟩ := own_at ho.row
    have HB2 := Lib.hid (HB1.out.trans (hb2.mono HB1.out.size))
    have HFP := Lib.hid (F.put (inner x) (inner x).length p c w2 rfl ⟨HBY.out, q3, q1, by unfold maxLen at q2; simp only; omega, q5⟩)
    rw [frm_put HR.out] at HFP
    generalize (inner x).length = m at *
    clear hb2 HBD l1 r1 ho q1 q2 q3 q5
    go_wp2_with fail
    refine HFP.out.mono ?_
    rintro e w3 ⟨v3, rfl, ho3, hb3⟩
    have HO3 := Lib.hid ho3
    have HB3 := Lib.hid (HB2.out.trans (hb3.mono HB2.out.size))
    have HS := Lib.hid (show w.heap.size ≤ w2.heap.size from HB2.out.size)
    clear ho3 hb3 HFP
    go_wp2_with fail
    go_ret2
    exact ⟨v3, rfl, ⟨own_weak HO3.out.row HS.out, HO3.out.ints⟩, HB3.out⟩
  · have HP := Lib.hid (Nte.put_no hc)
    rw [HP.out]
    unfold BDone15 at HBD
    rw [bodyB_no hc] at HBD
    have hne : (check x == 0) = false := by rw [beq_eq_false_iff_ne]; exact hc
    have hne2 : (check x != 0) = true := by rw [bne, hne]; rfl
    clear hc HP
    generalize check x = er at *
    go_enter Tryz.func8, Tryz.ntmps8
    go_wp2_with fail
    refine HBD.out.mono ?_
    rintro e w2 ⟨v, rfl, ho, hb2⟩
    have HB2 := Lib.hid (HB1.out.trans (hb2.mono HB1.out.size))
    clear hb2 HBD l1 r1 ho
    go_wp2_with fail
    go_ret2
    exact ⟨.slice none 0 0, rfl, Own8.nil _ _ _, HB2.out⟩
end
end
section
open Go.RowKit Sha Nte
theorem wirePart : WirePart where
  check := fun x h w hg hf => wcheck_any x h w hg hf
  put := fun x h w hg hf => wput_any frameOK x h w hg hf
  same := fun x y h k w hx hy _ _ => wsame_any x y h k w hx hy
end
section
set_option linter.unusedSimpArgs false
set_option linter.unusedVariables false
open Go.RowKit Sha Nte
theorem wputs_law (x : Not) (h : NHd) (y : Not) (k : NHd) (w : World) (hx : NGood w x h) (hy : NGood w y k) :
    Calls Tryz.prog 3 #[.agg (ncells x h).toArray, .agg (ncells y k).toArray] w fun e w' => e = .returned (.bool true) ∧ Below w.heap.size w w' :=
  wputs_any wirePart frameOK (fun x y h k w hx hy => sameNote_any x y h k w hx hy) (fun x y h k w hx hy => rsame_any x y h k w hx hy) x y h k w hx hy
end
section
set_option linter.unusedSimpArgs false
set_option linter.unusedVariables false
open Go.ChangeShapes Go.WideShapes Go.ChangeAt Go.RowKit
section
variable {H : Type} {enc : TypeId × Value → H} {P : Program}
theorem trodAll_carry {W W' : World} (hl : laidOutB P = true) (hb : Below W.heap.size W W') :
    ∀ {ts : List TypeId} {vs : List Value} {ds : List (DataW H)} {ps : List MemPlace}, DataW.TrodAll enc P W 0 (fun _ => true) true ts vs ds ps → (∀ t ∈ ts, P.readableRec t = true ∧ t < P.types.size) → (∀ x ∈ ps, x.block < W.heap.size) →
      DataW.TrodAll enc P W' 0 (fun b => decide (b < W.heap.size)) true ts vs ds ps
  | [], vs, ds, ps, h, _, _ => by
    obtain ⟨rfl, rfl, rfl⟩ := trodAll_nil h
    exact trodAll_mk0
  | t :: ts, vs, ds, ps, h, hr, hp => by
    obtain ⟨v, vs', d, ds', p, p', rfl, rfl, rfl, h1, h2⟩ := trodAll_cons h
    exact ⟨p, p', Below.trod hl (hr t (by simp)).1 (hr t (by simp)).2 h1 hb (fun x hx => hp x (by simp [hx])), trodAll_carry hl hb h2 (fun t ht => hr t (by simp [ht])) (fun x hx => hp x (by simp [hx])), rfl⟩
/-- What a law's row asks behind the call. -/
theorem law_post {f : Func} {s : ChangeSpec} {W W' : World} {args : Array Value} {ds : List (DataW H)} {before : List MemPlace} {tb : TypeId}
    (hW : DataW.Whole enc P f.params.toList s.vars false W args.toList ds [] before) (hv : s.vars = []) (hfn : s.fn H (ds ++ []) = { results := [.lit (.bool true)], args := ds })
    (hr : f.resultTypes = #[tb]) (hu : P.underlying tb = some .bool) (hl : laidOutB P = true) (hps : ∀ t ∈ f.params.toList, P.readableRec t = true ∧ t < P.types.size) (hb : Below W.heap.size W W') :
    s.post enc P f false true false false W args (.bool true) W' := by
  have hlt : ∀ p ∈ before, p.block < W.heap.size := fun p hp => hW.lt p hp
  have hW2 := hW
  obtain ⟨p, q, hA, hV, hbe, _, _⟩ := hW2
  rw [hv] at hV
  obtain ⟨_, hq⟩ := trodVars_none hV
  have hbp : before = p := by rw [hbe, hq, List.append_nil]
  refine ⟨ds, [], before, [], p, [], hW, ?_, ?_, ?_, ?_, fun h => by cases h⟩
  · rw [hr, hfn]
    exact trodAll_mk1 (shut_bool hu true)
  · rw [hfn]
    exact trodAll_carry hl hb hA hps (fun x hx => hlt x (by rw [hbp]; exact hx))
  · rw [hv, hfn]; rfl
  · refine World.keptBut_mono (fun x hx => ⟨hx, ?_⟩) (hb.frame (· ∈ before))
    right; left
    rw [← hbp]; exact hx
end
end
section
set_option linter.unusedSimpArgs false
set_option linter.unusedVariables false
open Go.ChangeShapes Go.WideShapes Go.ChangeAt Go.RowKit
theorem Tryz.own : ownKnob Tryz.prog.godebug = none := by kernel_rfl
theorem Tryz.laidOut : laidOutB Tryz.prog = true := by kernel_rfl
section
variable {H : Type} {enc : TypeId × Value → H} {P : Program} {w : World} {base : Nat} {spare : Nat → Bool} {held : Bool}
end
end
section
set_option linter.unusedSimpArgs false
set_option linter.unusedVariables false
open Go.ChangeShapes Go.WideShapes Go.ChangeAt Go.RowKit Sha
section
variable {H : Type} {enc : TypeId × Value → H} {P : Program} {w : World} {base : Nat} {spare : Nat → Bool} {held : Bool}
/-- A slice of bytes in memory: its numbers. -/
theorem cells_bytesl {t e : TypeId} {fuel : Nat} {cs : List Value} {x : DataW H × List MemPlace} (ht : P.underlying t = some (.slice e)) (he : P.underlying e = some (.int .u8)) (hc : P.cellsOf e = 1)
    (hf : DataW.trod enc P w base spare held fuel t cs = some x) :
    ∃ (q : Option Addr) (xs : List Int) (cap : Nat), cs = [.slice q xs.length cap] ∧ At w q (xs.map v8) ∧ xs.length ≤ cap ∧ cap ≤ maxLen ∧ (q = none → cap = 0) ∧ (∀ n ∈ xs, 0 ≤ n ∧ n ≤ 255) := by
  rcases open_ints ht he hc hf with ⟨hcs, hx⟩ | ⟨a, len, cap, zs, hcs, _, hl, hm, hz, hx, hcell, hwz⟩
  · exact ⟨none, [], 0, hcs, At.nil _ _, Nat.le_refl _, by simp [maxLen], fun _ => rfl, by simp⟩
  · have hzl : len ≤ zs.length := by rw [hz]; split <;> omega
    have hlen : (zs.take len).length = len := by simp; omega
    refine ⟨some a, zs.take len, cap, by rw [hlen]; exact hcs, ?_, by rw [hlen]; exact hl, hm, (fun h => by cases h), fun n hn => bounds_u8 (hwz n (List.mem_of_mem_take hn))⟩
    by_cases h0 : len = 0
    · subst h0; simp; exact At.nil _ _
    · have h1 := hcell 0 (by omega)
      have hsp : a.spot = none := by
        have : a.add 0 = a := by simp [Addr.add]
        rw [this] at h1
        cases hs : a.spot with
        | none => rfl
        | some s =>
          unfold World.cell? at h1
          split at h1
          · simp [hs] at h1
          · cases h1
      obtain ⟨b, off, sp⟩ := a
      simp only at hsp
      subst hsp
      refine Or.inr ⟨b, off, rfl, fun i v hi => ?_⟩
      rw [List.getElem?_map] at hi
      rcases Nat.lt_or_ge i len with hlt | hge
      · rw [List.getElem?_take, if_pos hlt, List.getElem?_eq_getElem (by omega)] at hi
        simp at hi
        subst hi
        have := hcell i (by omega)
        rw [Addr.add_mid] at this
        rw [this]; simp [v8, List.getElem?_eq_getElem (show i < zs.length by omega)]
      · rw [List.getElem?_eq_none (by simp; omega)] at hi; cases hi
end
end
section
set_option linter.unusedSimpArgs false
set_option linter.unusedVariables false
set_option maxRecDepth 100000
open Go.ChangeShapes Go.WideShapes Go.ChangeAt Go.RowKit Sha Nte
section
variable {H : Type} {enc : TypeId × Value → H} {P : Program} {w : World} {base : Nat} {spare : Nat → Bool} {held : Bool}
/-- An array of bytes in memory. -/
theorem cells_bytesK {t e : TypeId} {n fuel : Nat} {cs : List Value} {x : DataW H × List MemPlace} (ht : P.underlying t = some (.array n e)) (he : P.underlying e = some (.int .u8)) (hce : P.cellsOf e = 1) (hct : P.cellsOf t = n)
    (hf : DataW.trod enc P w base spare held fuel t cs = some x) :
    ∃ xs : List Int, cs = xs.map v8 ∧ xs.length = n ∧ (∀ m ∈ xs, 0 ≤ m ∧ m ≤ 255) := by
  obtain ⟨ys, m, _, hx, hl, hyl, hel⟩ := DataW.trod_array ht hf
  simp only [hce, Nat.mul_one] at hel
  have hcl : cs.length = n := by rw [hl, hct]
  have each : ∀ i, i < n → ∃ z, cs[i]? = some (.int .u8 z) ∧ 0 ≤ z ∧ z ≤ 255 := by
    intro i hi
    have h1 := hel i hi
    obtain ⟨y, hy⟩ : ∃ y, ys[i]? = some y := ⟨ys[i], List.getElem?_eq_getElem (by omega)⟩
    rw [hy] at h1
    obtain ⟨z, hc, rfl, hwf⟩ := DataW.trod_int he h1
    refine ⟨z, ?_, bounds_u8 hwf⟩
    have := congrArg (·[0]?) hc
    simpa [List.getElem?_take, List.getElem?_drop] using this
  refine ⟨(cs.map fun c => match c with | .int _ z => z | _ => 0), ?_, by simpa using hcl, ?_⟩
  · simp only [List.map_map]
    apply List.ext_getElem?
    intro i
    rw [List.getElem?_map]
    by_cases hi : i < n
    · obtain ⟨z, hz, _⟩ := each i hi
      simp [hz, v8]
    · rw [List.getElem?_eq_none (by omega)]; rfl
  · intro q hq
    obtain ⟨c, hc, rfl⟩ := List.mem_map.1 hq
    obtain ⟨i, hi, hci⟩ := List.mem_iff_getElem.1 hc
    obtain ⟨z, hz, hb⟩ := each i (by omega)
    rw [List.getElem?_eq_getElem hi, hci] at hz
    cases hz
    exact hb
/-- A slice of things that hold no slices themselves. -/
theorem open_rowsK {V : Type} [Inhabited V] (S : Shp V) {t e : TypeId} {fuel : Nat} {cs : List Value} {x : DataW H × List MemPlace} (ht : P.underlying t = some (.slice e)) (hc : P.cellsOf e = S.n) (hb : ∀ y, S.byt y = [])
    (he : ∀ (n : Nat) (cs : List Value) (x : DataW H × List MemPlace), DataW.trod enc P w base spare held n e cs = some x → ∃ y : V, cs = S.cells y none 0 ∧ S.ok y) (hf : DataW.trod enc P w base spare held fuel t cs = some x) :
    ∃ (q : Option Addr) (l : List V) (c : Nat), cs = [.slice q l.length c] ∧ S.Told w q l.length c l := by
  rcases Deep.open_slice ht hf with ⟨hcs, hx⟩ | ⟨a, len, cap, m, n, D, Pl, hcs, _, hl, hm, hmm, hx, hel⟩
  · exact ⟨none, [], 0, hcs, Shp.Told.none_ w⟩
  · have hlm : len ≤ m := by rw [hmm]; split <;> omega
    have key : ∀ i, i < len → ∃ y : V, w.cells? base (a.add (i * S.n)) S.n = some (S.cells y none 0) ∧ S.ok y := by
      intro i hi
      obtain ⟨cs', h1, h2⟩ := hel i (by omega)
      rw [hc] at h1
      obtain ⟨y, rfl, hg⟩ := he _ _ _ h2
      exact ⟨y, h1, hg⟩
    obtain ⟨f, hF⟩ := Deep.choose_lt key
    have hlen : ((List.range len).map f).length = len := by simp
    refine ⟨some a, (List.range len).map f, cap, by rw [hlen]; exact hcs, by rw [hlen], by rw [hlen]; exact hl, by unfold maxLen at hm; omega, (fun h => by cases h), ((List.range len).map f).map (fun y => (y, none, 0)), by simp, ?_, ?_⟩
    · by_cases h0 : len = 0
      · subst h0; exact At.nil _ _
      · have hpos := S.pos
        have hl0 : (S.cells (f 0) none 0).length = S.n := S.len none 0 (hF 0 (by omega)).2
        obtain ⟨u, hu⟩ : ∃ u, (S.cells (f 0) none 0)[0]? = some u := ⟨_, List.getElem?_eq_getElem (by omega)⟩
        have h1 := (World.cells?_some (hF 0 (by omega)).1).2.2 0 (by omega)
        have hsp : a.spot = none := by
          have e : (a.add (0 * S.n)).add 0 = a := by simp [Addr.add]
          rw [e, hu] at h1
          cases hs : a.spot with
          | none => rfl
          | some s =>
            unfold World.cell? at h1
            split at h1
            · simp [hs] at h1
            · cases h1
        obtain ⟨b, off, sp⟩ := a
        simp only at hsp
        subst hsp
        refine Or.inr ⟨b, off, rfl, fun j v hj => ?_⟩
        have hok : ∀ y ∈ (((List.range len).map f).map (fun y => ((y, none, 0) : Hd V))), S.ok y.1 := by
          intro y hy
          obtain ⟨z, hz, rfl⟩ := List.mem_map.1 hy
          obtain ⟨i, hi, rfl⟩ := List.mem_map.1 hz
          exact (hF i (List.mem_range.1 hi)).2
        have hjl := (List.getElem?_eq_some_iff.1 hj).1
        rw [Shp.flat_length _ hok] at hjl
        simp only [List.length_map, List.length_range] at hjl
        have hi : j / S.n < len := Nat.div_lt_of_lt_mul (by rw [Nat.mul_comm]; exact hjl)
        have hr : j % S.n < S.n := Nat.mod_lt _ hpos
        have hjj : j / S.n * S.n + j % S.n = j := by rw [Nat.mul_comm]; exact Nat.div_add_mod j S.n
        have hli : (S.cells (f (j / S.n)) none 0).length = S.n := S.len none 0 (hF _ hi).2
        obtain ⟨u', hu'⟩ : ∃ u, (S.cells (f (j / S.n)) none 0)[j % S.n]? = some u := ⟨_, List.getElem?_eq_getElem (by omega)⟩
        have h3 := Shp.flat_get (S := S) _ hok (j / S.n) (by simpa using hi) (j % S.n) u' (by simpa [Shp.row] using hu')
        rw [hjj, hj] at h3
        cases h3
        have h2 := (World.cells?_some (hF _ hi).1).2.2 (j % S.n) (by omega)
        rw [Addr.add_mid, Addr.add_mid, Nat.add_assoc, hjj] at h2
        rw [h2]
        exact hu'
    · intro y hy
      obtain ⟨z, hz, rfl⟩ := List.mem_map.1 hy
      obtain ⟨i, hi, rfl⟩ := List.mem_map.1 hz
      exact ⟨(hF i (List.mem_range.1 hi)).2, by rw [hb]; exact At.nil _ _, by rw [hb]; simp, by simp, fun _ => rfl⟩
theorem trod_struct13 {t : TypeId} {f0 f1 f2 f3 f4 f5 f6 f7 f8 f9 f10 f11 f12 : Field} {fuel : Nat} {cs : List Value} {x : DataW H × List MemPlace} (ht : P.underlying t = some (.struct #[f0, f1, f2, f3, f4, f5, f6, f7, f8, f9, f10, f11, f12])) (h : DataW.trod enc P w base spare held fuel t cs = some x) :
    ∃ n, cs.length = P.cellsOf t ∧ ∀ f ∈ [f0, f1, f2, f3, f4, f5, f6, f7, f8, f9, f10, f11, f12], ∃ y, DataW.trod enc P w base spare held n f.type ((cs.drop f.offset).take (P.cellsOf f.type)) = some y := by
  obtain ⟨xs, n, _, rfl, hl, hlen, hf⟩ := DataW.trod_struct ht h
  refine ⟨n, hl, fun f hm => ?_⟩
  obtain ⟨i, hi, rfl⟩ := List.mem_iff_getElem.1 hm
  have h1 := hf i [f0, f1, f2, f3, f4, f5, f6, f7, f8, f9, f10, f11, f12][i] (by rw [List.getElem?_toArray]; exact List.getElem?_eq_getElem hi)
  obtain ⟨y, hy⟩ : ∃ y, xs[i]? = some y := ⟨_, List.getElem?_eq_getElem (by simp at hlen hi; omega)⟩
  rw [hy] at h1
  exact ⟨y, h1⟩
end
section
variable {H : Type} {enc : TypeId × Value → H} {w : World} {base : Nat} {spare : Nat → Bool} {held : Bool}
theorem ck32 : Tryz.prog.cellsOf 27 = 32 := by kernel_rfl
theorem ckB : Tryz.prog.cellsOf 5 = 1 := by kernel_rfl
theorem ckI : Tryz.prog.cellsOf 3 = 1 := by kernel_rfl
theorem ckN : Tryz.prog.cellsOf 32 = 48 := by kernel_rfl
theorem ckC : Tryz.prog.cellsOf 23 = 3 := by kernel_rfl
theorem ckL : Tryz.prog.cellsOf 25 = 2 := by kernel_rfl
theorem ckY : Tryz.prog.cellsOf 4 = 1 := by kernel_rfl
theorem ckX : Tryz.prog.cellsOf 28 = 1 := by kernel_rfl
theorem ckD : Tryz.prog.cellsOf 29 = 1 := by kernel_rfl
theorem ckW : Tryz.prog.cellsOf 30 = 1 := by kernel_rfl
theorem ckM : Tryz.prog.cellsOf 57 = 3 := by kernel_rfl
theorem three_cells {cs : List Value} {a b c : Value} (hl : cs.length = 3) (h0 : (cs.drop 0).take 1 = [a]) (h1 : (cs.drop 1).take 1 = [b]) (h2 : (cs.drop 2).take 1 = [c]) : cs = [a, b, c] := by
  match cs, hl with
  | [x, y, z], _ => simp at h0 h1 h2; rw [h0, h1, h2]
theorem two_cells {cs : List Value} {a b : Value} (hl : cs.length = 2) (h0 : (cs.drop 0).take 1 = [a]) (h1 : (cs.drop 1).take 1 = [b]) : cs = [a, b] := by
  match cs, hl with
  | [x, y], _ => simp at h0 h1; rw [h0, h1]
theorem open_wordK (n : Nat) (cs : List Value) (x : DataW H × List MemPlace) (h : DataW.trod enc Tryz.prog w base spare held n 57 cs = some x) : ∃ m : Mb, cs = sW.cells m none 0 ∧ sW.ok m := by
  obtain ⟨y0, y1, y2, n, _, hl, h0, h1, h2⟩ := Deep.trod_struct3 Tryz.underlying57 h
  have h0' : DataW.trod enc Tryz.prog w base spare held n 3 ((cs.drop 0).take 1) = some y0 := by rw [← ckI]; exact h0
  have h1' : DataW.trod enc Tryz.prog w base spare held n 3 ((cs.drop 1).take 1) = some y1 := by rw [← ckI]; exact h1
  have h2' : DataW.trod enc Tryz.prog w base spare held n 3 ((cs.drop 2).take 1) = some y2 := by rw [← ckI]; exact h2
  rw [ckM] at hl
  obtain ⟨I, c0, _, hw0⟩ := DataW.trod_int Tryz.underlying3 h0'
  obtain ⟨S, c1, _, hw1⟩ := DataW.trod_int Tryz.underlying3 h1'
  obtain ⟨N, c2, _, hw2⟩ := DataW.trod_int Tryz.underlying3 h2'
  exact ⟨⟨I, S, N⟩, three_cells hl c0 c1 c2, ⟨bounds_i64 hw0, bounds_i64 hw1, bounds_i64 hw2⟩⟩
theorem open_idK (n : Nat) (cs : List Value) (x : DataW H × List MemPlace) (h : DataW.trod enc Tryz.prog w base spare held n 27 cs = some x) : ∃ d : List Int, cs = sI.cells d none 0 ∧ sI.ok d := by
  obtain ⟨D, c, hD, hDb⟩ := cells_bytesK Tryz.underlying27 Tryz.underlying5 ckB ck32 h
  exact ⟨D, c, hDb, hD⟩
instance : Inhabited Mb := ⟨Mb.none⟩
theorem open_noteK {fuel : Nat} {cs : List Value} {x : DataW H × List MemPlace} (h : DataW.trod enc Tryz.prog w base spare held fuel 32 cs = some x) : ∃ (y : Not) (k : NHd), cs = ncells y k ∧ NGood w y k := by
  obtain ⟨n, hl, hf⟩ := trod_struct13 Tryz.underlying32 h
  rw [ckN] at hl
  clear h
  simp only [List.forall_mem_cons] at hf
  obtain ⟨⟨z0, h0⟩, ⟨z1, h1⟩, ⟨z2, h2⟩, ⟨z3, h3⟩, ⟨z4, h4⟩, ⟨z5, h5⟩, ⟨z6, h6⟩, ⟨z7, h7⟩, ⟨z8, h8⟩, ⟨z9, h9⟩, ⟨z10, h10⟩, ⟨z11, h11⟩, ⟨z12, h12⟩, _⟩ := hf
  have h0' : DataW.trod enc Tryz.prog w base spare held n 3 ((cs.drop 0).take 1) = some z0 := by rw [← ckI]; exact h0
  have h1' : DataW.trod enc Tryz.prog w base spare held n 3 ((cs.drop 1).take 1) = some z1 := by rw [← ckI]; exact h1
  have h2' : DataW.trod enc Tryz.prog w base spare held n 3 ((cs.drop 2).take 1) = some z2 := by rw [← ckI]; exact h2
  have h3' : DataW.trod enc Tryz.prog w base spare held n 23 ((cs.drop 3).take 3) = some z3 := by rw [← ckC]; exact h3
  have h4' : DataW.trod enc Tryz.prog w base spare held n 3 ((cs.drop 6).take 1) = some z4 := by rw [← ckI]; exact h4
  have h5' : DataW.trod enc Tryz.prog w base spare held n 3 ((cs.drop 7).take 1) = some z5 := by rw [← ckI]; exact h5
  have h6' : DataW.trod enc Tryz.prog w base spare held n 25 ((cs.drop 8).take 2) = some z6 := by rw [← ckL]; exact h6
  have h7' : DataW.trod enc Tryz.prog w base spare held n 25 ((cs.drop 10).take 2) = some z7 := by rw [← ckL]; exact h7
  have h8' : DataW.trod enc Tryz.prog w base spare held n 4 ((cs.drop 12).take 1) = some z8 := by rw [← ckY]; exact h8
  have h9' : DataW.trod enc Tryz.prog w base spare held n 27 ((cs.drop 13).take 32) = some z9 := by rw [← ck32]; exact h9
  have h10' : DataW.trod enc Tryz.prog w base spare held n 28 ((cs.drop 45).take 1) = some z10 := by rw [← ckX]; exact h10
  have h11' : DataW.trod enc Tryz.prog w base spare held n 29 ((cs.drop 46).take 1) = some z11 := by rw [← ckD]; exact h11
  have h12' : DataW.trod enc Tryz.prog w base spare held n 30 ((cs.drop 47).take 1) = some z12 := by rw [← ckW]; exact h12
  clear h0 h1 h2 h3 h4 h5 h6 h7 h8 h9 h10 h11 h12
  obtain ⟨K, c0, _, b0⟩ := DataW.trod_int Tryz.underlying3 h0'
  obtain ⟨F, c1, _, b1⟩ := DataW.trod_int Tryz.underlying3 h1'
  obtain ⟨T, c2, _, b2⟩ := DataW.trod_int Tryz.underlying3 h2'
  obtain ⟨C1, C2, C3, c3, b31, b32, b33⟩ : ∃ C1 C2 C3 : Int, (cs.drop 3).take 3 = [nic C1, nic C2, nic C3] ∧ fit C1 ∧ fit C2 ∧ fit C3 := by
    obtain ⟨y0, y1, y2, n', _, hl', g0, g1, g2⟩ := Deep.trod_struct3 Tryz.underlying23 h3'
    have g0' : DataW.trod enc Tryz.prog w base spare held n' 3 ((((cs.drop 3).take 3).drop 0).take 1) = some y0 := by rw [← ckI]; exact g0
    have g1' : DataW.trod enc Tryz.prog w base spare held n' 3 ((((cs.drop 3).take 3).drop 1).take 1) = some y1 := by rw [← ckI]; exact g1
    have g2' : DataW.trod enc Tryz.prog w base spare held n' 3 ((((cs.drop 3).take 3).drop 2).take 1) = some y2 := by rw [← ckI]; exact g2
    obtain ⟨I, e0, _, hw0⟩ := DataW.trod_int Tryz.underlying3 g0'
    obtain ⟨S, e1, _, hw1⟩ := DataW.trod_int Tryz.underlying3 g1'
    obtain ⟨N, e2, _, hw2⟩ := DataW.trod_int Tryz.underlying3 g2'
    exact ⟨I, S, N, three_cells (by rw [List.length_take, List.length_drop]; omega) e0 e1 e2, bounds_i64 hw0, bounds_i64 hw1, bounds_i64 hw2⟩
  obtain ⟨S, c4, _, b4⟩ := DataW.trod_int Tryz.underlying3 h4'
  obtain ⟨Hm, c5, _, b5⟩ := DataW.trod_int Tryz.underlying3 h5'
  have ball : ∀ (o : Nat) (z : DataW H × List MemPlace), o + 2 ≤ 48 → DataW.trod enc Tryz.prog w base spare held n 25 ((cs.drop o).take 2) = some z → ∃ a b : Int, (cs.drop o).take 2 = [nic a, nic b] ∧ fit a ∧ fit b := by
    intro o z ho hz
    obtain ⟨y0, y1, n', _, hl', g0, g1⟩ := Go.ChangeShapes.trod_struct2 Tryz.underlying25 hz
    have g0' : DataW.trod enc Tryz.prog w base spare held n' 3 ((((cs.drop o).take 2).drop 0).take 1) = some y0 := by rw [← ckI]; exact g0
    have g1' : DataW.trod enc Tryz.prog w base spare held n' 3 ((((cs.drop o).take 2).drop 1).take 1) = some y1 := by rw [← ckI]; exact g1
    obtain ⟨a, e0, _, hw0⟩ := DataW.trod_int Tryz.underlying3 g0'
    obtain ⟨b, e1, _, hw1⟩ := DataW.trod_int Tryz.underlying3 g1'
    exact ⟨a, b, two_cells (by rw [List.length_take, List.length_drop]; omega) e0 e1, bounds_i64 hw0, bounds_i64 hw1⟩
  obtain ⟨B1, B2, c6, b61, b62⟩ := ball 8 z6 (by omega) h6'
  obtain ⟨O1, O2, c7, b71, b72⟩ := ball 10 z7 (by omega) h7'
  obtain ⟨Y, c8, _⟩ := DataW.trod_bool Tryz.underlying4 h8'
  obtain ⟨D, c9, hD, hDb⟩ := cells_bytesK Tryz.underlying27 Tryz.underlying5 ckB ck32 h9'
  obtain ⟨q, X, cap, c10, hA, hle, hm, hn, hB⟩ := cells_bytesl Tryz.underlying28 Tryz.underlying5 ckB h10'
  obtain ⟨r, I, ci, c11, tI⟩ := open_rowsK sI Tryz.underlying29 ck32 (fun _ => rfl) open_idK h11'
  obtain ⟨s, W, cw, c12, tW⟩ := open_rowsK sW Tryz.underlying30 ckM (fun _ => rfl) open_wordK h12'
  clear h0' h1' h2' h3' h4' h5' h6' h7' h8' h9' h10' h11' h12' ball
  have st : ∀ o k p : Nat, o + k = p → cs.drop o = (cs.drop o).take k ++ cs.drop p := fun o k p e => by
    rw [← e, ← List.drop_drop, List.take_append_drop]
  have e : cs.drop 0 = ncells ⟨K, F, T, C1, C2, C3, S, Hm, B1, B2, O1, O2, Y, D, X, I, W⟩ ⟨q, cap, r, ci, s, cw⟩ := by
    rw [st 0 1 1 rfl, c0, st 1 1 2 rfl, c1, st 2 1 3 rfl, c2, st 3 3 6 rfl, c3, st 6 1 7 rfl, c4, st 7 1 8 rfl, c5, st 8 2 10 rfl, c6, st 10 2 12 rfl, c7, st 12 1 13 rfl, c8, st 13 32 45 rfl, c9, st 45 1 46 rfl, c10, st 46 1 47 rfl, c11, st 47 1 48 rfl, c12, List.drop_eq_nil_of_le (by omega)]
    simp [ncells]
  have hok : (⟨K, F, T, C1, C2, C3, S, Hm, B1, B2, O1, O2, Y, D, X, I, W⟩ : Not).ok := by
    have i2 := tI.le
    have i3 := tI.max
    have j2 := tW.le
    have j3 := tW.max
    refine ⟨bounds_i64 b0, bounds_i64 b1, bounds_i64 b2, ⟨b31, b32, b33⟩, bounds_i64 b4, bounds_i64 b5, ⟨b61, b62⟩, ⟨b71, b72⟩, hDb, hD, hB, ?_, fun d hd => tI.rows.ok d hd, by simp only; omega, fun m hm => tW.rows.ok m hm, by simp only; omega⟩
    unfold maxLen at hm
    simp only; omega
  exact ⟨_, _, e, ⟨hok, hA, hle, by unfold maxLen at hm; simp only; omega, hn, tI, tW⟩⟩
/-- A note among the arguments. -/
theorem open_note1 {r : Reach} {b0 : Nat} {v : Value} {d : DataW H} {p : List MemPlace} (hv : Value.okWide Tryz.prog w r b0 32 v) (h : DataW.Trod enc Tryz.prog w base spare held 32 v d p) :
    ∃ (x : Not) (k : NHd), v = .agg (ncells x k).toArray ∧ NGood w x k := by
  obtain ⟨cs, rfl, _⟩ := okWide_struct Tryz.underlying32 hv
  obtain ⟨fuel, hf⟩ := h
  obtain ⟨x, k, h1, h2⟩ := open_noteK hf
  exact ⟨x, k, by simp [Value.cells] at h1; rw [show (ncells x k) = cs.toList from h1.symm], h2⟩
end
end
end Go.Proofs.YtbogjfmefkhglaaGreat
