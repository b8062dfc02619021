/-
  Two disks side by side: as one (Alike); are acts too long (Long).
-/
import Derived.Test.YtooljhdfmfkpeaaDkG
import Derived.Test.YtooljhdfmfkpeaaOver
import Derived.Deep.QuietTactic
import Derived.BigQuiet
namespace Go.Proofs.Ytooljhdfmfkpeaa
set_option linter.unusedSimpArgs false
set_option linter.unusedVariables false
open Go.RowKit Sha Dsk
theorem own8_touch {fp : List Nat} {w w' : World} {B n : Nat} {e : TypeId} {v : Value} {xs : List Value} (h : Own8 w B e v n xs) (ht : Touch fp w w') (hg : ∀ g, v.ownBlock = some g → g ∉ fp) : Own8 w' B e v n xs :=
  ⟨row_blocks8 h.row fun g e => ht.block g (h.row.lt g e).2 (hg g e), h.ints.carry fun g e => ht.block g (h.row.lt g e).2 (hg g e)⟩
theorem own8_weak {w : World} {B B' n : Nat} {e : TypeId} {v : Value} {xs : List Value} (h : Own8 w B e v n xs) (hb : B' ≤ B) : Own8 w B' e v n xs := by
  refine ⟨⟨h.row.1, ?_⟩, h.ints⟩
  rcases h.row.2 with h' | ⟨g, cap, cur, hv, hgB, h4⟩
  · exact .inl h'
  · exact .inr ⟨g, cap, cur, hv, Nat.le_trans hb hgB, h4⟩
theorem Pair.overD {S1 S2 : Type} {R1 : ObjRep S1} {R2 : ObjRep S2} (K1 : Held R1) (K2 : Held R2) {w0 w w' : World} {b1 b2 : Nat} {f1 f2 : List Nat} {s1 : S1} {s2 : S2} {v : Value} (h : Pair R1 R2 w0 w b1 f1 s1 b2 f2 s2)
    (hk : ∀ k, some k ≠ v.ownBlock → w'.heap[k]? = w.heap[k]?) (hb : Below w0.heap.size w w') (hg : ∀ g, v.ownBlock = some g → g ∉ f1 ∧ g ∉ f2) : Pair R1 R2 w0 w' b1 f1 s1 b2 f2 s2 := h.over K1 K2 hk hb hg
set_option maxRecDepth 100000 in
set_option maxHeartbeats 4000000 in
theorem alike_any {R : DiskRep} (F : DisksOK R) (w0 w : World) (b1 : Nat) (f1 : List Nat) (b2 : Nat) (f2 : List Nat) (s : DState) (h : TwoD R w0 w b1 f1 b2 f2 s) (hst : s.steps ≤ 1000000) :
    Calls Try.prog 15 #[optr b1, optr b2] w fun e w' => e = .returned (.bool true) ∧ ∃ f1 f2, TwoD R w0 w' b1 f1 b2 f2 s := by
  have K := Lib.hid F.ok.held
  have HOK := Lib.hid (F.ok.ok h.one)
  have P0 := Lib.hid h
  have HST := Lib.hid hst
  clear h hst
  go_enter Try.func15, Try.ntmps15
  go_wp2_with fail
  refine (F.ok.read b1 f1 s w P0.out.one).mono ?_
  rintro e w1 ⟨va, f1a, rfl, ho, hr, ht, hf, hg⟩
  have P1 := Lib.hid (P0.out.step1 refHeldD hr ht hf)
  have OA1 := Lib.hid (own8_weak ho P0.out.below.size)
  have NA1 := Lib.hid (show ∀ g, va.ownBlock = some g → g ∉ f1a ∧ g ∉ f2 from fun g e => ⟨hg g e, fun a => by have h1 := (ho.row.lt g e).1; have h2 := refHeldD.low P0.out.two g a; omega⟩)
  clear ho hr ht hf hg P0
  go_wp2_with fail
  refine (refDiskOK.read b2 f2 s w1 P1.out.two).mono ?_
  rintro e w2 ⟨vb, f2b, rfl, ho, hr, ht, hf, hg⟩
  have P2 := Lib.hid (P1.out.step2 K.out hr ht hf)
  have OA2 := Lib.hid (own8_touch OA1.out ht fun g e => (NA1.out g e).2)
  have NA2 := Lib.hid (show ∀ g, va.ownBlock = some g → g ∉ f1a ∧ g ∉ f2b from fun g e => ⟨(NA1.out g e).1, fun a => by rcases hf g a with h' | h'; exact (NA1.out g e).2 h'; have := (OA1.out.row.lt g e).2; omega⟩)
  obtain ⟨qb, cb, rfl, _, _, hAb, _, _⟩ := own_at ho.row
  have AB := Lib.hid hAb
  clear ho hr ht hf hg P1 OA1 NA1 hAb
  obtain ⟨qa, ca, rfl, _, _, hAa, hxl, _⟩ := own_at OA2.out.row
  have AA := Lib.hid hAa
  have HLN := Lib.hid (show (readV s).length = (readV s).length from rfl)
  have HBY := Lib.hid (show ∀ n ∈ readV s, IsByte n from fun n hn => HOK.out.log n (readV_mem hn))
  obtain ⟨nr, hnr⟩ : ∃ y, y = (readV s).length := ⟨_, rfl⟩
  have HNR := Lib.hid hnr.symm
  rw [← hnr] at OA2 NA2 ⊢
  obtain ⟨vL, vA, _, hrd⟩ := P2.out.two
  obtain ⟨pL, cL, pA, cA, e1, e2⟩ := hrd.lens
  have hc : ∀ i, w2.cell? ⟨b2, i, none⟩ = _ := hrd.blk.cell
  have c0 : w2.cell? ⟨b2, 0, none⟩ = some (.slice pL s.log.length cL) := by rw [← e1]; exact hc 0
  have c1 : w2.cell? ⟨b2, 1, none⟩ = some (i64v s.firm) := hc 1
  have c4 : w2.cell? ⟨b2, 4, none⟩ = some (i64v s.steps) := hc 4
  have c6 : w2.cell? ⟨b2, 6, none⟩ = some (.bool s.out) := hc 6
  have QS := Lib.hid (fun k => show Calls Try.prog 32 #[.slice qa nr ca, .slice qb nr cb] (w2.drewN k) (fun e w' => e = .returned (.bool true) ∧ w' = w2.drewN k) from (same_true (readV s) nr nr qa qb ca cb (w2.drewN k) HNR.out HNR.out AA.out AB.out HBY.out).mono fun _ _ ⟨he, hw⟩ => ⟨he, hw.symm⟩)
  have QL := Lib.hid (fun k => F.sees.len b1 f1a s (w2.drewN k) (P2.out.drewN K.out refHeldD k).one)
  have QF := Lib.hid (fun k => F.sees.firm b1 f1a s (w2.drewN k) (P2.out.drewN K.out refHeldD k).one)
  have QU := Lib.hid (fun k => F.sees.up b1 f1a s (w2.drewN k) (P2.out.drewN K.out refHeldD k).one)
  have QP := Lib.hid (fun k => F.sees.steps b1 f1a s (w2.drewN k) (P2.out.drewN K.out refHeldD k).one (by have := HST.out; omega))
  generalize s.log.length = ll at *
  generalize s.firm = sf at *
  generalize s.steps = ss at *
  generalize s.out = so at *
  generalize readE s = re at *
  clear hxl hnr hrd e1 e2 hc AA AB hAa
  go_wp2_with fail
  go_quiet (first
    | (go_at_call 32; refine Calls.quiet_of_same (QS.out _))
    | (go_at_call 17; refine Calls.quiet_of (QL.out _))
    | (go_at_call 18; refine Calls.quiet_of (QF.out _))
    | (go_at_call 20; refine Calls.quiet_of (QU.out _))
    | (go_at_call 19; refine Calls.quiet_of (QP.out _)))
  go_wp2_with fail
  have P3 := Lib.hid (P2.out.drewN K.out refHeldD nq)
  have OA3 := Lib.hid (own8_touch (fp := []) OA2.out ((Touch.refl _ _).drewN nq) (fun g _ => by simp))
  clear P2 OA2 QS QL QF QU QP c0 c1 c4 c6
  generalize w2.drewN nq = wd at P3 OA3 ⊢
  refine (over_keep w0.heap.size _ nr _ wd OA3.out).mono ?_
  rintro e we ⟨rfl, hb, hk, _⟩
  have P4 := Lib.hid (P3.out.over K.out refHeldD hk hb NA2.out)
  clear hb hk P3 OA3
  go_wp2_with fail
  go_ret
  exact ⟨rfl, f1a, f2b, P4.out⟩
end Go.Proofs.Ytooljhdfmfkpeaa
