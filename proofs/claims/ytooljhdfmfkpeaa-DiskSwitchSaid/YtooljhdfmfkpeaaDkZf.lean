/-
  The program's disks: made, read, a fuse set, what is firm.
-/
import Derived.Test.YtooljhdfmfkpeaaDkZd
import Derived.Test.YtooljhdfmfkpeaaDkZe
namespace Go.Proofs.Ytooljhdfmfkpeaa
set_option linter.unusedSimpArgs false
set_option linter.unusedVariables false
open Go.RowKit Sha Dsk
theorem run_nil_eqP (w : World) (p : Option Addr) (n c : Nat) : (binOp .eql 32 (.slice p n c) (.slice none 0 0)).run Try.prog w = .ok (.bool p.isNone) w := Lib.run_eql_slice_nil w _ _ p n c 0 0 Try.underlying32
def PCloneDone (zs : List Int) (n : Nat) (w : World) (e : Ending) (w' : World) : Prop :=
  ∃ v, e = .returned v ∧ Own8 w' w.heap.size 5 v n (zs.map v8) ∧ Below w.heap.size w w'
set_option maxRecDepth 100000 in
set_option maxHeartbeats 1000000 in
theorem pclone_any (zs : List Int) (n : Nat) (p : Option Addr) (cap : Nat) (w : World) (hn : zs.length = n) (h : GoodC w zs p cap) (hs : n ≤ 1000000) :
    Calls Try.prog 37 #[.slice p n cap] w (PCloneDone zs n w) := by
  have HN := Lib.hid hn
  have HA := Lib.hid h.at_
  have HNL := Lib.hid h.nil
  have hl : n ≤ cap := by rw [← hn]; exact h.le
  have q := fun w n c => run_nil_eqP w p n c
  cases p with
  | none =>
    have h0 := h.nil rfl
    obtain rfl : n = 0 := by omega
    have hz : zs = [] := List.eq_nil_of_length_eq_zero hn
    subst hz
    clear h h0 hl hn
    go_enter Try.func37, Try.ntmps37
    go_wp2_with fail
    go_ret
    exact ⟨_, rfl, Own8.nil _ _ _, Below.refl _ _⟩
  | some a =>
    have HO := Lib.hid (Own8.mk (World.ownsRow_made (base := w.heap.size) (size := 1) (e := 5) w #[] 0 (Nat.le_refl _) (by decide) rfl) (ints_block (n := 0) (c := 0) (heap_alloc_new _ _) (by simp)))
    have HBA := Lib.hid ((Below.refl w.heap.size w).alloc (Nat.le_refl _) (Obj.cells #[] 5))
    clear h hn
    go_enter Try.func37, Try.ntmps37
    go_wp2_with (at_builtin; refine wpList_app8 rfl (.tmp 5) (.tmp 6) 32 rfl w.heap.size 5 Try.underlying32 kbyte_info _ 0 [] rfl HO.out (some a) n cap (zs.map v8) rfl (HA.out.alloc _) (by rw [List.length_map]; exact HN.out) HNL.out hl (by intro u hu; obtain ⟨x, _, rfl⟩ := List.mem_map.1 hu; exact ⟨x, rfl⟩) (by omega) (by unfold maxLen; omega) (by simp) ?_; intro v5 w5 hown5 hg5 hb5 hs5; simp only [Nat.zero_add, List.nil_append] at hown5; have O5 := Lib.hid hown5; have B5 := Lib.hid (HBA.out.trans hb5); clear hown5 hg5 hb5)
    go_ret
    exact ⟨v5, rfl, O5.out, B5.out⟩
/-- The log's row, as bytes in memory. -/
theorem PD.goodL {w : World} {b : Nat} {vL vA : Value} {s : DState} (h : PD w b vL vA s) : ∃ p cap, vL = .slice p s.log.length cap ∧ GoodC w s.log p cap := by
  obtain ⟨p, cap, h1, _, h2⟩ := row_goodC h.log h.ok.log
  exact ⟨p, cap, h1, h2⟩
theorem PD.goodN {w : World} {b : Nat} {vL vA : Value} {s : DState} (h : PD w b vL vA s) : ∃ p cap, vA = .slice p s.next.length cap ∧ GoodC w s.next p cap := by
  obtain ⟨p, cap, h1, _, h2⟩ := row_goodC h.next h.ok.next
  exact ⟨p, cap, h1, h2⟩
set_option maxRecDepth 100000 in
set_option maxHeartbeats 1000000 in
theorem pread_any (b : Nat) (fp : List Nat) (s : DState) (w : World) (h : ProgDisk w b fp s) :
    Calls Try.prog 16 #[optr b] w (DReadDone ProgDisk b fp s w) := by
  obtain ⟨vL, vA, rfl, h⟩ := h
  have HR := Lib.hid h
  by_cases ho : s.out = true
  · have HB := Lib.hid (pbarred_any b vL vA s w h 11 (show (11 : Int) = readE s from (if_pos ho).symm))
    have HE := Lib.hid (show readE s = 11 from if_pos ho)
    have HS := Lib.hid (show readV s = [] from if_pos ho)
    clear h ho
    go_enter Try.func16, Try.ntmps16
    go_wp2_with fail
    refine HB.out.mono ?_
    rintro e w1 ⟨rfl, rfl⟩
    go_wp2_with fail
    go_ret2
    exact ⟨.slice none 0 0, _, by rw [HE.out]; rfl, by rw [HS.out]; exact Own8.nil _ _ _, ⟨vL, vA, rfl, HR.out⟩, Touch.refl _ _, From.refl _ _, fun g hg => by cases hg⟩
  · have HB := Lib.hid (pbarred_any b vL vA s w h 0 (show (0 : Int) = readE s from (if_neg ho).symm))
    have HE := Lib.hid (show readE s = 0 from if_neg ho)
    have HS := Lib.hid (show readV s = s.log from if_neg ho)
    obtain ⟨p, cap, hv, hg⟩ := h.goodL
    have c1 : w.cell? ⟨b, 1, none⟩ = some (.slice p s.log.length cap) := by rw [← hv]; exact h.blk.cell 1
    have hsm : s.log.length ≤ 1000000 := by have := h.ok.small; omega
    have HCL := Lib.hid (pclone_any s.log s.log.length p cap w rfl hg hsm)
    clear h ho hv hg hsm
    go_enter Try.func16, Try.ntmps16
    go_wp2_with fail
    refine HB.out.mono ?_
    rintro e w1 ⟨rfl, rfl⟩
    go_wp2_with fail
    refine HCL.out.mono ?_
    rintro e w2 ⟨v, rfl, ho2, hb2⟩
    have O2 := Lib.hid ho2
    have B2 := Lib.hid hb2
    clear ho2 hb2
    go_wp2_with fail
    go_ret2
    refine ⟨v, _, by rw [HE.out]; rfl, by rw [HS.out]; exact O2.out, ⟨vL, vA, rfl, HR.out.keep fun k hk => B2.out.block k (HR.out.low k hk)⟩, Touch.of_below B2.out, From.refl _ _, fun g hg e => ?_⟩
    have h1 := (O2.out.row.lt g hg).1
    have h2 := HR.out.low g e
    omega
set_option maxHeartbeats 400000 in
theorem pfuse_any (b : Nat) (fp : List Nat) (s : DState) (n : Int) (w : World) (h : ProgDisk w b fp s) (hn : fit64 n) :
    Calls Try.prog 26 #[optr b, i64v n] w (ODone ProgDisk b fp (fuseS s n) (i64v (fuseE n)) w) := by
  obtain ⟨vL, vA, rfl, h⟩ := h
  obtain ⟨hn1, hn2⟩ := hn
  have HR := Lib.hid h
  have HC := Lib.hid (pnone_any b vL vA s w h)
  have c5 : w.cell? ⟨b, 5, none⟩ = some (i64v s.left) := h.blk.cell 5
  have f5 : w.frozen? ⟨b, 5, none⟩ = false := h.blk.free 5
  have HOK := Lib.hid (fuse_ok h.ok hn2)
  by_cases h0 : n < 0
  · have HE := Lib.hid (show fuseE n = 2 from if_pos h0)
    have HS := Lib.hid (show fuseS s n = s from if_pos h0)
    clear h
    go_enter Try.func26, Try.ntmps26
    go_wp2_with fail
    refine HC.out.mono ?_
    rintro e w1 ⟨rfl, rfl⟩
    go_wp2_with fail
    go_ret
    exact ⟨by rw [HE.out]; rfl, _, by rw [HS.out]; exact ⟨vL, vA, rfl, HR.out⟩, Touch.refl _ _, From.refl _ _⟩
  · have HE := Lib.hid (show fuseE n = 0 from if_neg h0)
    have HS := Lib.hid (show fuseS s n = { s with left := n } from if_neg h0)
    clear h
    go_enter Try.func26, Try.ntmps26
    go_wp2_with fail
    refine HC.out.mono ?_
    rintro e w1 ⟨rfl, rfl⟩
    go_wp2_with fail
    go_ret
    refine ⟨by rw [HE.out]; rfl, _, ⟨vL, vA, rfl, ?_⟩, (Touch.refl _ _).setIn (fpP_mem.2 (.inl rfl)) _, From.refl _ _⟩
    refine HR.out.turn ?_ (fun k hk => Below.heap_setCell _ _ _ _ hk) (by rw [HS.out]) (by rw [HS.out]) HOK.out
    rw [HS.out]
    exact HR.out.blk.set 5 _
theorem pfirm_any (b : Nat) (fp : List Nat) (s : DState) (w : World) (h : ProgDisk w b fp s) :
    Calls Try.prog 18 #[optr b] w (QDone (i64v s.firm) w) := by
  obtain ⟨vL, vA, rfl, h⟩ := h
  have HC := Lib.hid (pnone_any b vL vA s w h)
  have c2 : w.cell? ⟨b, 2, none⟩ = some (i64v s.firm) := h.blk.cell 2
  clear h
  go_enter Try.func18, Try.ntmps18
  go_wp2_with fail
  refine HC.out.mono ?_
  rintro e w1 ⟨rfl, rfl⟩
  go_wp2_with fail
  go_ret
  exact ⟨rfl, 0, rfl⟩
theorem pfits_any (n : Int) (w : World) (z : Bool) (hz : z = decide (0 ≤ n ∧ n ≤ 1000000)) :
    Calls Try.prog 34 #[i64v n] w fun e w' => e = .returned (.bool z) ∧ w' = w := by
  have HZ := Lib.hid hz
  clear hz
  by_cases h0 : n < 0
  · have HE := Lib.hid (show decide (0 ≤ n ∧ n ≤ 1000000) = false from decide_eq_false (by omega))
    have d0 : decide (0 ≤ n) = false := decide_eq_false (by omega)
    go_enter Try.func34, Try.ntmps34
    go_wp2_with fail
    go_ret
    exact ⟨by rw [HZ.out, HE.out]; rfl, rfl⟩
  · have d0 : decide (0 ≤ n) = true := decide_eq_true (by omega)
    by_cases h1 : n ≤ 1000000
    · have HE := Lib.hid (show decide (0 ≤ n ∧ n ≤ 1000000) = true from decide_eq_true (by omega))
      have d1 : decide (n ≤ 1000000) = true := decide_eq_true (by omega)
      go_enter Try.func34, Try.ntmps34
      go_wp2_with fail
      go_ret
      exact ⟨by rw [HZ.out, HE.out]; rfl, rfl⟩
    · have HE := Lib.hid (show decide (0 ≤ n ∧ n ≤ 1000000) = false from decide_eq_false (by omega))
      have d1 : decide (n ≤ 1000000) = false := decide_eq_false (by omega)
      go_enter Try.func34, Try.ntmps34
      go_wp2_with fail
      go_ret
      exact ⟨by rw [HZ.out, HE.out]; rfl, rfl⟩
set_option maxHeartbeats 1000000 in
theorem pown_any (q pL pA : Option Addr) (l cL m cA : Nat) (f r lf st : Int) (o : Bool) (w : World) :
    Calls Try.prog 35 #[.agg #[.pointer q, .slice pL l cL, i64v f, .slice pA m cA, i64v r, i64v lf, i64v st, .bool o]] w fun e w' => e = .returned (optr w.heap.size) ∧ Blk w' w.heap.size [optr w.heap.size, .slice pL l cL, i64v f, .slice pA m cA, i64v r, i64v lf, i64v st, .bool o] 47 ∧ Below w.heap.size w w' := by
  go_enter Try.func35, Try.ntmps35
  go_wp2_with fail
  go_ret
  exact ⟨rfl, Blk.new w #[optr w.heap.size, .slice pL l cL, i64v f, .slice pA m cA, i64v r, i64v lf, i64v st, .bool o] 47, (Below.refl w.heap.size w).alloc (Nat.le_refl _) _⟩
set_option maxHeartbeats 1000000 in
theorem pnew_any (n : Int) (w : World) (hn : fit64 n) : Calls Try.prog 8 #[i64v n] w (DNewDone ProgDisk n w) := by
  obtain ⟨h1, h2⟩ := hn
  by_cases ho : 0 ≤ n ∧ n ≤ 1000000
  · have HE := Lib.hid (newE_in ho)
    have HF := Lib.hid (pfits_any n w true (decide_eq_true ho).symm)
    have HT := Lib.hid (show ((n.toNat : Nat) : Int) = n by omega)
    have HFR := Lib.hid (fresh_ok (n := n.toNat) (by omega))
    clear ho
    go_enter Try.func8, Try.ntmps8
    go_wp2_with fail
    refine HF.out.mono ?_
    rintro e w1 ⟨rfl, rfl⟩
    go_wp2_with fail
    refine (pown_any none none none 0 0 0 0 0 n (-1) 0 false w1).mono ?_
    rintro e w2 ⟨rfl, hb, hB⟩
    have HB := Lib.hid hb
    have HBB := Lib.hid hB
    clear hb hB
    go_wp2_with fail
    go_ret2
    refine ⟨HBB.out, .inl ⟨HE.out, w1.heap.size, [w1.heap.size], rfl, ⟨.slice none 0 0, .slice none 0 0, rfl, ?_, World.ownsRow_nil _ _ _ _, World.ownsRow_nil _ _ _ _, HFR.out, by simp [Value.ownBlock], by simp [Value.ownBlock], by simp [Value.ownBlock]⟩, by simp⟩⟩
    unfold fresh pcells
    simp only [HT.out]
    exact HB.out
  · have HE := Lib.hid (newE_out (n := n) (by omega))
    have HF := Lib.hid (pfits_any n w false (decide_eq_false ho).symm)
    clear ho
    go_enter Try.func8, Try.ntmps8
    go_wp2_with fail
    refine HF.out.mono ?_
    rintro e w1 ⟨rfl, rfl⟩
    go_wp2_with fail
    go_ret2
    exact ⟨Below.refl _ _, .inr ⟨HE.out, rfl⟩⟩
end Go.Proofs.Ytooljhdfmfkpeaa
