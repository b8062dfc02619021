/-
  The program's disks: made, read, a fuse set, what is firm.
  The law package of frames: Long, same, copied.
  The contracts of bitOn, byteOn and byteTable.
  The reference's on, More, Sum.
-/
import Derived.Test.YthopfpfmliookaaJp13
import Derived.Test.YthopfpfmliookaaJp7
import Derived.WalkSpells
import Derived.IntWalk
import Derived.WalkLawsBesides
import Derived.Test.YthopfpfmliookaaRows
import Derived.Test.YthopfpfmliookaaJp2
import Derived.Test.YthopfpfmliookaaJp5
namespace Go.Proofs.Ythopfpfmliookaa
section
set_option linter.unusedSimpArgs false
set_option linter.unusedVariables false
open Go.RowKit Sha Dsk
theorem run_nil_eqP (w : World) (p : Option Addr) (n c : Nat) : (binOp .eql 22 (.slice p n c) (.slice none 0 0)).run Try.prog w = .ok (.bool p.isNone) w := Lib.run_eql_slice_nil w _ _ p n c 0 0 Try.underlying22
def PCloneDone (zs : List Int) (n : Nat) (w : World) (e : Ending) (w' : World) : Prop :=
  ∃ v, e = .returned v ∧ Own8 w' w.heap.size 5 v n (zs.map v8) ∧ Below w.heap.size w w'
set_option maxRecDepth 100000 in
set_option maxHeartbeats 1000000 in
theorem pclone_any (zs : List Int) (n : Nat) (p : Option Addr) (cap : Nat) (w : World) (hn : zs.length = n) (h : GoodC w zs p cap) (hs : n ≤ 1000000) :
    Calls Try.prog 29 #[.slice p n cap] w (PCloneDone zs n w) := by
  have HN := Lib.hid hn
  have HA := Lib.hid h.at_
  have HNL := Lib.hid h.nil
  have hl : n ≤ cap := by rw [← hn]; exact h.le
  have q := fun w n c => run_nil_eqP w p n c
  cases p with
  | none =>
    have h0 := h.nil rfl
    obtain rfl : n = 0 := by omega
    have hz : zs = [] := List.eq_nil_of_length_eq_zero hn
    subst hz
    clear h h0 hl hn
    go_enter Try.func29, Try.ntmps29
    go_wp2_with fail
    go_ret
    exact ⟨_, rfl, Own8.nil _ _ _, Below.refl _ _⟩
  | some a =>
    have HO := Lib.hid (Own8.mk (World.ownsRow_made (base := w.heap.size) (size := 1) (e := 5) w #[] 0 (Nat.le_refl _) (by decide) rfl) (ints_block (n := 0) (c := 0) (heap_alloc_new _ _) (by simp)))
    have HBA := Lib.hid ((Below.refl w.heap.size w).alloc (Nat.le_refl _) (Obj.cells #[] 5))
    clear h hn
    go_enter Try.func29, Try.ntmps29
    go_wp2_with (at_builtin; refine wpList_app8 rfl (.tmp 5) (.tmp 6) 22 rfl w.heap.size 5 Try.underlying22 kbyte_info _ 0 [] rfl HO.out (some a) n cap (zs.map v8) rfl (HA.out.alloc _) (by rw [List.length_map]; exact HN.out) HNL.out hl (by intro u hu; obtain ⟨x, _, rfl⟩ := List.mem_map.1 hu; exact ⟨x, rfl⟩) (by omega) (by unfold maxLen; omega) (by simp) ?_; intro v5 w5 hown5 hg5 hb5 hs5; simp only [Nat.zero_add, List.nil_append] at hown5; have O5 := Lib.hid hown5; have B5 := Lib.hid (HBA.out.trans hb5); clear hown5 hg5 hb5)
    go_ret
    exact ⟨v5, rfl, O5.out, B5.out⟩
/-- The log's row, as bytes in memory. -/
theorem PD.goodL {w : World} {b : Nat} {vL vA : Value} {s : DState} (h : PD w b vL vA s) : ∃ p cap, vL = .slice p s.log.length cap ∧ GoodC w s.log p cap := by
  obtain ⟨p, cap, h1, _, h2⟩ := row_goodC h.log h.ok.log
  exact ⟨p, cap, h1, h2⟩
theorem PD.goodN {w : World} {b : Nat} {vL vA : Value} {s : DState} (h : PD w b vL vA s) : ∃ p cap, vA = .slice p s.next.length cap ∧ GoodC w s.next p cap := by
  obtain ⟨p, cap, h1, _, h2⟩ := row_goodC h.next h.ok.next
  exact ⟨p, cap, h1, h2⟩
set_option maxRecDepth 100000 in
set_option maxHeartbeats 1000000 in
theorem pread_any (b : Nat) (fp : List Nat) (s : DState) (w : World) (h : ProgDisk w b fp s) :
    Calls Try.prog 38 #[optr b] w (DReadDone ProgDisk b fp s w) := by
  obtain ⟨vL, vA, rfl, h⟩ := h
  have HR := Lib.hid h
  by_cases ho : s.out = true
  · have HB := Lib.hid (pbarred_any b vL vA s w h 11 (show (11 : Int) = readE s from (if_pos ho).symm))
    have HE := Lib.hid (show readE s = 11 from if_pos ho)
    have HS := Lib.hid (show readV s = [] from if_pos ho)
    clear h ho
    go_enter Try.func38, Try.ntmps38
    go_wp2_with fail
    refine HB.out.mono ?_
    rintro e w1 ⟨rfl, rfl⟩
    go_wp2_with fail
    go_ret2
    exact ⟨.slice none 0 0, _, by rw [HE.out]; rfl, by rw [HS.out]; exact Own8.nil _ _ _, ⟨vL, vA, rfl, HR.out⟩, Touch.refl _ _, From.refl _ _, fun g hg => by cases hg⟩
  · have HB := Lib.hid (pbarred_any b vL vA s w h 0 (show (0 : Int) = readE s from (if_neg ho).symm))
    have HE := Lib.hid (show readE s = 0 from if_neg ho)
    have HS := Lib.hid (show readV s = s.log from if_neg ho)
    obtain ⟨p, cap, hv, hg⟩ := h.goodL
    have c1 : w.cell? ⟨b, 1, none⟩ = some (.slice p s.log.length cap) := by rw [← hv]; exact h.blk.cell 1
    have hsm : s.log.length ≤ 1000000 := by have := h.ok.small; omega
    have HCL := Lib.hid (pclone_any s.log s.log.length p cap w rfl hg hsm)
    clear h ho hv hg hsm
    go_enter Try.func38, Try.ntmps38
    go_wp2_with fail
    refine HB.out.mono ?_
    rintro e w1 ⟨rfl, rfl⟩
    go_wp2_with fail
    refine HCL.out.mono ?_
    rintro e w2 ⟨v, rfl, ho2, hb2⟩
    have O2 := Lib.hid ho2
    have B2 := Lib.hid hb2
    clear ho2 hb2
    go_wp2_with fail
    go_ret2
    refine ⟨v, _, by rw [HE.out]; rfl, by rw [HS.out]; exact O2.out, ⟨vL, vA, rfl, HR.out.keep fun k hk => B2.out.block k (HR.out.low k hk)⟩, Touch.of_below B2.out, From.refl _ _, fun g hg e => ?_⟩
    have h1 := (O2.out.row.lt g hg).1
    have h2 := HR.out.low g e
    omega
set_option maxHeartbeats 400000 in
theorem pfuse_any (b : Nat) (fp : List Nat) (s : DState) (n : Int) (w : World) (h : ProgDisk w b fp s) (hn : fit64 n) :
    Calls Try.prog 18 #[optr b, i64v n] w (ODone ProgDisk b fp (fuseS s n) (i64v (fuseE n)) w) := by
  obtain ⟨vL, vA, rfl, h⟩ := h
  obtain ⟨hn1, hn2⟩ := hn
  have HR := Lib.hid h
  have HC := Lib.hid (pdnone_any b vL vA s w h)
  have c5 : w.cell? ⟨b, 5, none⟩ = some (i64v s.left) := h.blk.cell 5
  have f5 : w.frozen? ⟨b, 5, none⟩ = false := h.blk.free 5
  have HOK := Lib.hid (fuse_ok h.ok hn2)
  by_cases h0 : n < 0
  · have HE := Lib.hid (show fuseE n = 2 from if_pos h0)
    have HS := Lib.hid (show fuseS s n = s from if_pos h0)
    clear h
    go_enter Try.func18, Try.ntmps18
    go_wp2_with fail
    refine HC.out.mono ?_
    rintro e w1 ⟨rfl, rfl⟩
    go_wp2_with fail
    go_ret
    exact ⟨by rw [HE.out]; rfl, _, by rw [HS.out]; exact ⟨vL, vA, rfl, HR.out⟩, Touch.refl _ _, From.refl _ _⟩
  · have HE := Lib.hid (show fuseE n = 0 from if_neg h0)
    have HS := Lib.hid (show fuseS s n = { s with left := n } from if_neg h0)
    clear h
    go_enter Try.func18, Try.ntmps18
    go_wp2_with fail
    refine HC.out.mono ?_
    rintro e w1 ⟨rfl, rfl⟩
    go_wp2_with fail
    go_ret
    refine ⟨by rw [HE.out]; rfl, _, ⟨vL, vA, rfl, ?_⟩, (Touch.refl _ _).setIn (fpP_mem.2 (.inl rfl)) _, From.refl _ _⟩
    refine HR.out.turn ?_ (fun k hk => Below.heap_setCell _ _ _ _ hk) (by rw [HS.out]) (by rw [HS.out]) HOK.out
    rw [HS.out]
    exact HR.out.blk.set 5 _
theorem pfirm_any (b : Nat) (fp : List Nat) (s : DState) (w : World) (h : ProgDisk w b fp s) :
    Calls Try.prog 37 #[optr b] w (QDone (i64v s.firm) w) := by
  obtain ⟨vL, vA, rfl, h⟩ := h
  have HC := Lib.hid (pdnone_any b vL vA s w h)
  have c2 : w.cell? ⟨b, 2, none⟩ = some (i64v s.firm) := h.blk.cell 2
  clear h
  go_enter Try.func37, Try.ntmps37
  go_wp2_with fail
  refine HC.out.mono ?_
  rintro e w1 ⟨rfl, rfl⟩
  go_wp2_with fail
  go_ret
  exact ⟨rfl, 0, rfl⟩
theorem pfits_any (n : Int) (w : World) (z : Bool) (hz : z = decide (0 ≤ n ∧ n ≤ 1000000)) :
    Calls Try.prog 58 #[i64v n] w fun e w' => e = .returned (.bool z) ∧ w' = w := by
  have HZ := Lib.hid hz
  clear hz
  by_cases h0 : n < 0
  · have HE := Lib.hid (show decide (0 ≤ n ∧ n ≤ 1000000) = false from decide_eq_false (by omega))
    have d0 : decide (0 ≤ n) = false := decide_eq_false (by omega)
    go_enter Try.func58, Try.ntmps58
    go_wp2_with fail
    go_ret
    exact ⟨by rw [HZ.out, HE.out]; rfl, rfl⟩
  · have d0 : decide (0 ≤ n) = true := decide_eq_true (by omega)
    by_cases h1 : n ≤ 1000000
    · have HE := Lib.hid (show decide (0 ≤ n ∧ n ≤ 1000000) = true from decide_eq_true (by omega))
      have d1 : decide (n ≤ 1000000) = true := decide_eq_true (by omega)
      go_enter Try.func58, Try.ntmps58
      go_wp2_with fail
      go_ret
      exact ⟨by rw [HZ.out, HE.out]; rfl, rfl⟩
    · have HE := Lib.hid (show decide (0 ≤ n ∧ n ≤ 1000000) = false from decide_eq_false (by omega))
      have d1 : decide (n ≤ 1000000) = false := decide_eq_false (by omega)
      go_enter Try.func58, Try.ntmps58
      go_wp2_with fail
      go_ret
      exact ⟨by rw [HZ.out, HE.out]; rfl, rfl⟩
set_option maxHeartbeats 1000000 in
theorem pown_any (q pL pA : Option Addr) (l cL m cA : Nat) (f r lf st : Int) (o : Bool) (w : World) :
    Calls Try.prog 59 #[.agg #[.pointer q, .slice pL l cL, i64v f, .slice pA m cA, i64v r, i64v lf, i64v st, .bool o]] w fun e w' => e = .returned (optr w.heap.size) ∧ Blk w' w.heap.size [optr w.heap.size, .slice pL l cL, i64v f, .slice pA m cA, i64v r, i64v lf, i64v st, .bool o] 45 ∧ Below w.heap.size w w' := by
  go_enter Try.func59, Try.ntmps59
  go_wp2_with fail
  go_ret
  exact ⟨rfl, Blk.new w #[optr w.heap.size, .slice pL l cL, i64v f, .slice pA m cA, i64v r, i64v lf, i64v st, .bool o] 45, (Below.refl w.heap.size w).alloc (Nat.le_refl _) _⟩
set_option maxHeartbeats 1000000 in
theorem pdnew_any (n : Int) (w : World) (hn : fit64 n) : Calls Try.prog 40 #[i64v n] w (DNewDone ProgDisk n w) := by
  obtain ⟨h1, h2⟩ := hn
  by_cases ho : 0 ≤ n ∧ n ≤ 1000000
  · have HE := Lib.hid (newE_in ho)
    have HF := Lib.hid (pfits_any n w true (decide_eq_true ho).symm)
    have HT := Lib.hid (show ((n.toNat : Nat) : Int) = n by omega)
    have HFR := Lib.hid (fresh_ok (n := n.toNat) (by omega))
    clear ho
    go_enter Try.func40, Try.ntmps40
    go_wp2_with fail
    refine HF.out.mono ?_
    rintro e w1 ⟨rfl, rfl⟩
    go_wp2_with fail
    refine (pown_any none none none 0 0 0 0 0 n (-1) 0 false w1).mono ?_
    rintro e w2 ⟨rfl, hb, hB⟩
    have HB := Lib.hid hb
    have HBB := Lib.hid hB
    clear hb hB
    go_wp2_with fail
    go_ret2
    refine ⟨HBB.out, .inl ⟨HE.out, w1.heap.size, [w1.heap.size], rfl, ⟨.slice none 0 0, .slice none 0 0, rfl, ?_, World.ownsRow_nil _ _ _ _, World.ownsRow_nil _ _ _ _, HFR.out, by simp [Value.ownBlock], by simp [Value.ownBlock], by simp [Value.ownBlock]⟩, by simp⟩⟩
    unfold fresh pcells
    simp only [HT.out]
    exact HB.out
  · have HE := Lib.hid (newE_out (n := n) (by omega))
    have HF := Lib.hid (pfits_any n w false (decide_eq_false ho).symm)
    clear ho
    go_enter Try.func40, Try.ntmps40
    go_wp2_with fail
    refine HF.out.mono ?_
    rintro e w1 ⟨rfl, rfl⟩
    go_wp2_with fail
    go_ret2
    exact ⟨Below.refl _ _, .inr ⟨HE.out, rfl⟩⟩
end
section
set_option linter.unusedSimpArgs false
set_option linter.unusedVariables false
open Go.RowKit Sha
def LongDone (l : List (List Int)) (w : World) (e : Ending) (w' : World) : Prop := ∃ b : Bool, e = .returned (.bool b) ∧ (b = false → l.length ≤ 20 ∧ ∀ x ∈ l, x.length ≤ 4100) ∧ w = w'
theorem ltake_succ {xs ys : List (List Int)} {k : Nat} (hx : k < xs.length) (hy : k < ys.length) (h : xs.take k = ys.take k) : (xs.take (k + 1) = ys.take (k + 1)) ↔ xs[k] = ys[k] := by
  rw [List.take_succ_eq_append_getElem hx, List.take_succ_eq_append_getElem hy, h]
  exact ⟨fun e => by have := List.append_cancel_left e; simpa using this, fun e => by rw [e]⟩
end
section
set_option linter.unusedSimpArgs false
set_option linter.unusedVariables false
open Go.RowKit Sha
theorem bit_test (x : W) : (bits BinOp.and IntKind.u32 (U x) 1 == 1) = x.getLsbD 0 := by
  rw [show (1 : Int) = U 1#32 by decide, U_and]
  rw [Bool.eq_iff_iff, beq_iff_eq]
  constructor
  · intro h
    have h1 : x &&& 1#32 = 1#32 := by rw [← ofInt_U (x &&& 1#32), h]; rfl
    have := congrArg (·.getLsbD 0) h1
    simpa using this
  · intro h
    congr 1
    apply BitVec.eq_of_getLsbD_eq
    intro i hi
    rw [BitVec.getLsbD_and, BitVec.getLsbD_one]
    by_cases h0 : i = 0
    · subst h0; simp [h]
    · simp [h0]
theorem bit_half (x : W) : U x / (2 : Int) = U (x >>> 1) := U_shr x 1
theorem bit_poly (x : W) : bits BinOp.xor IntKind.u32 (U x) 3988292384 = U (x ^^^ Crc.poly) := by
  rw [show (3988292384 : Int) = U Crc.poly by decide, U_xor]
theorem bitOn_if (x : W) : Crc.bitOn x = if x.getLsbD 0 then x >>> 1 ^^^ Crc.poly else x >>> 1 := by unfold Crc.bitOn; rfl
set_option maxHeartbeats 400000 in
theorem bitOn_any (x : W) (w : World) :
    Calls Try.prog 74 #[v32 x] w fun e w' => e = .returned (v32 (Crc.bitOn x)) ∧ w = w' := by
  have hb := bit_test x
  have HF := Lib.hid (bitOn_if x)
  cases hc : x.getLsbD 0 with
  | true =>
    rw [hc] at hb
    have HC := Lib.hid hc
    clear hc
    go_enter Try.func74, Try.ntmps74
    go_wp2
    go_ret
    exact ⟨ret_int (by rw [HF.out, HC.out, bit_half, bit_poly]; rfl), rfl⟩
  | false =>
    rw [hc] at hb
    have HC := Lib.hid hc
    clear hc
    go_enter Try.func74, Try.ntmps74
    go_wp2
    go_ret
    exact ⟨ret_int (by rw [HF.out, HC.out, bit_half]; rfl), rfl⟩
set_option maxHeartbeats 400000 in
theorem byteOn_any (x : W) (w : World) :
    Calls Try.prog 73 #[v32 x] w fun e w' => e = .returned (v32 (Crc.on 8 x)) ∧ w = w' := by
  go_enter Try.func73, Try.ntmps73
  go_wp2
  go_loop [0, 3] (fun v i => ∃ k : Nat, k ≤ 8 ∧ i = .int .i64 k ∧ v = v32 (Crc.on k x)) (fun _ i => 8 - (intOf i).toNat)
  case atStart => exact ⟨0, by omega, rfl, by rw [Crc.on_zero]⟩
  case round =>
    obtain ⟨k, hk, rfl, rfl⟩ := hrel
    by_cases hlt : k < 8
    · have HL := Lib.hid (Crc.on_last k x)
      go_wp2_with (go_at_call 74; refine (bitOn_any _ _).mono ?_; rintro e w' ⟨rfl, rfl⟩)
      go_round
      case rel => exact ⟨k + 1, by omega, by go_num, by rw [HL.out]⟩
      case measure => simp [intOf]; omega
    · obtain rfl : k = 8 := by omega
      go_wp2
      go_ret
      exact ⟨rfl, rfl⟩
theorem byteOn_int (n : Int) (w : World) (h : 0 ≤ n ∧ n < 4294967296) :
    Calls Try.prog 73 #[.int .u32 n] w fun e w' => e = .returned (v32 (Crc.on 8 (BitVec.ofInt 32 n))) ∧ w = w' := by
  have := byteOn_any (BitVec.ofInt 32 n) w
  rwa [show v32 (BitVec.ofInt 32 n) = .int .u32 n by show Value.int .u32 _ = _; rw [U_ofInt, Int.emod_eq_of_lt h.1 h.2]] at this
theorem infoTab : (Try.prog.info? 101).map (fun i => i.zero) = some (some (.agg ((Crc.tabUpto 0).map v32).toArray)) := by kernel_rfl
theorem sizeTab : (Try.prog.info? 101).map (fun i => i.size) = some 256 := by kernel_rfl
theorem cone32 (l : List W) : (l.map v32).toArray.all (·.oneCell') = true := by simp [Value.oneCell']
set_option maxRecDepth 100000 in
set_option maxHeartbeats 1000000 in
theorem table_any (w : World) : Calls Try.prog 72 #[] w fun e w' => e = .returned (.agg ((Crc.tabUpto 256).map v32).toArray) ∧ Below w.heap.size w w' := by
  go_enter Try.func72, Try.ntmps72
  go_wp2_with (refine wpList_alloc_arr rfl 101 rfl _ infoTab ?_)
  have b2 := ((Below.refl w.heap.size w).alloc (by simp) (Obj.cells ((Crc.tabUpto 0).map v32).toArray 101)).alloc (by simp) (Obj.cells ((Crc.tabUpto 0).map v32).toArray 101)
  have f0 := (Blk.new w ((Crc.tabUpto 0).map v32).toArray 101).old (Obj.cells ((Crc.tabUpto 0).map v32).toArray 101)
  have f1 := Blk.new (w.alloc (Obj.cells ((Crc.tabUpto 0).map v32).toArray 101)) ((Crc.tabUpto 0).map v32).toArray 101
  generalize (w.alloc (Obj.cells ((Crc.tabUpto 0).map v32).toArray 101)).alloc (Obj.cells ((Crc.tabUpto 0).map v32).toArray 101) = w2 at *
  simp only [World.size_alloc] at f0 f1
  go_loopw [4] (fun i wr => ∃ k : Nat, k ≤ 256 ∧ i = .int .i64 k ∧ Below w.heap.size w wr ∧ Blk wr w.heap.size ((Crc.tabUpto 0).map v32) 101 ∧ Blk wr (w.heap.size + 1) ((Crc.tabUpto k).map v32) 101) (fun i _ => 256 - (intOf i).toNat)
  case atStart => exact ⟨0, by omega, rfl, b2, f0, f1⟩
  case round =>
    clear b2 f0 f1
    obtain ⟨k, hk, rfl, hb, h0, h1⟩ := hrel
    by_cases hlt : k < 256
    · have hand := Crc.low_and k hlt
      have hle := Crc.lowOf_le k hlt
      have HS := Lib.hid (Crc.tabUpto_succ k hlt)
      have HO := Lib.hid (Crc.low_on k hlt)
      have HP := Lib.hid (Crc.lowOf_pos k hlt)
      have cg : ∀ i, i < k → wr.cell? ⟨w.heap.size + 1, i, none⟩ = some (v32 (Crc.on 8 (BitVec.ofNat 32 i))) := by
        intro i hi
        rw [h1.cell, List.getElem?_map, Crc.tabUpto_get k i hi (by omega)]; rfl
      have CG := Lib.hid cg
      have cf : wr.frozen? ⟨w.heap.size + 1, k, none⟩ = false := h1.free _
      have ck : wr.cell? ⟨w.heap.size + 1, k, none⟩ = some (v32 ((Crc.tabUpto k).getD k 0)) := by
        rw [h1.cell, List.getElem?_map, List.getElem?_eq_getElem (by rw [Crc.tabUpto_length]; omega)]; simp [Crc.tabUpto_length, hlt]
      have H0 := Lib.hid h0
      have H1 := Lib.hid h1
      clear cg h0 h1
      generalize Crc.lowOf k = lo at *
      by_cases he : k = lo
      · have t1 : ((k : Int) == (lo : Int)) = true := by rw [beq_iff_eq]; omega
        have HE := Lib.hid he
        clear he
        go_wp2_with (go_at_call 73; refine (byteOn_int _ _ (by omega)).mono ?_; rintro e w' ⟨rfl, rfl⟩)
        go_roundw
        case rel =>
          refine ⟨k + 1, by omega, by go_num, hb.setCell (by simp) _, H0.out.setOther _ _ (by simp), ?_⟩
          rw [HS.out]
          exact H1.out.set _ _
        case measure => simp [intOf]; omega
      · obtain ⟨hp1, hp2⟩ := HP.out (fun h => he h.symm)
        have t1 : ((k : Int) == (lo : Int)) = false := by rw [beq_eq_false_iff_ne]; omega
        have c1 := CG.out lo (by omega)
        have c2 := CG.out (k - lo) (by omega)
        clear he
        have v1 : (0 : Int) ≤ (k : Int) - (lo : Int) := by omega
        have v2 : ((k : Int) - (lo : Int)).toNat = k - lo := by omega
        have HV2 := Lib.hid v2
        clear v2
        go_wp2_with fail
        refine region_tail 11 (by kernel_rfl) (by kernel_rfl) ?_
        simp only [List.take_succ_cons, List.take_zero, List.drop_succ_cons, List.drop_zero]
        repeat (go_big_quiet_step (fail))
        refine wpQuiet_nil ?_
        go_wp2_with fail
        go_roundw
        case rel =>
          refine ⟨k + 1, by omega, by go_num, hb.drew.setCell (by simp) _, H0.out.drew.setOther _ _ (by simp), ?_⟩
          rw [HS.out, ← HO.out]
          unfold v32
          rw [← U_xor]
          exact (H1.out.set _ _).drew
        case measure => simp [intOf]; omega
    · obtain rfl : k = 256 := by omega
      have hsz2 : (Try.prog.info? 101).map (fun i => i.size) = some ((Crc.tabUpto 256).map v32).toArray.size := by rw [sizeTab]; simp [Crc.tabUpto_length]
      have H0 := Lib.hid h0
      have H1 := Lib.hid h1
      clear h0 h1
      go_wp2_with (first
        | (refine wpList_load_row rfl 101 _ rfl _ rfl _ _ _ _ H1.out (Try.underlying101) rfl hsz2 ?_)
        | (refine wpList_store_row rfl 101 _ _ rfl _ _ rfl rfl _ _ H0.out hsz2 (by simp [Crc.tabUpto_length]) (cone32 _) ?_))
      refine bodyPost_ret (v := .agg ((Crc.tabUpto 256).map v32).toArray) ?_ rfl ⟨rfl, Below.setRow hb (by omega) _⟩
      exact results_cell_row rfl _ _ _ _ _ _ _ rfl (H0.out.row _) (Try.underlying101) rfl hsz2
/-- Bytes behind a sum: the table's way. -/
theorem place_get (x : W) (c : Int) : (Crc.tabUpto 256)[Crc.placeOf x c]? = some (Crc.on 8 (BitVec.ofNat 32 (Crc.placeOf x c))) := Crc.tabUpto_get 256 _ (Crc.placeOf_lt x c) (Crc.placeOf_lt x c)
theorem shr8 (x : W) : U x / (256 : Int) = U (x >>> 8) := U_shr x 8
set_option maxRecDepth 100000 in
set_option maxHeartbeats 1000000 in
theorem more_any (n : Int) (s : W) (hn : n = U s) (zs : List Int) (p : Option Addr) (cap : Nat) (w : World) (hz : ∀ n ∈ zs, 0 ≤ n ∧ n ≤ 255) (hA : At w p (zs.map v8)) (hc : zs.length ≤ cap) (hm : cap ≤ 9223372036854775807) :
    Calls Try.prog 70 #[.int .u32 n, .slice p zs.length cap] w fun e w' => e = .returned (v32 (Crc.more s zs)) ∧ Below w.heap.size w w' := by
  subst hn
  obtain ⟨len, hlen⟩ : ∃ n, n = zs.length := ⟨_, rfl⟩
  rw [← hlen] at hc ⊢
  have Hlen := Lib.hid hlen
  clear hlen
  go_enter Try.func70, Try.ntmps70
  have lk : ((Crc.tabUpto 256).map v32).toArray.size = 256 := by simp [Crc.tabUpto_length]
  have hsz : (Try.prog.info? 101).map (fun i => i.size) = some ((Crc.tabUpto 256).map v32).toArray.size := by rw [sizeTab, lk]
  have LK := Lib.hid lk
  clear lk
  go_wp2_with (first
    | (refine wpList_alloc_arr rfl 101 rfl _ infoTab ?_)
    | (refine wpList_store_row rfl 101 _ _ rfl _ _ rfl rfl _ _ (Blk.new _ _ _) hsz (by rw [LK.out]; simp [Crc.tabUpto_length]) (cone32 _) ?_)
    | (go_at_call 72; refine (table_any _).mono ?_; rintro e w1 ⟨rfl, hb1⟩))
  obtain ⟨g, hg⟩ : ∃ g, g = w1.heap.size := ⟨_, rfl⟩
  have W0 : Below w.heap.size w ((w1.alloc (Obj.cells ((Crc.tabUpto 0).map v32).toArray 101)).setRow w1.heap.size ((Crc.tabUpto 256).map v32).toArray) :=
    Below.setRow (hb1.alloc hb1.size _) hb1.size _
  have W1 : Blk ((w1.alloc (Obj.cells ((Crc.tabUpto 0).map v32).toArray 101)).setRow w1.heap.size ((Crc.tabUpto 256).map v32).toArray) g ((Crc.tabUpto 256).map v32) 101 := by rw [hg]; exact (Blk.new _ _ _).row _
  rw [← hg] at W0 W1 ⊢
  generalize ((w1.alloc (Obj.cells ((Crc.tabUpto 0).map v32).toArray 101)).setRow g ((Crc.tabUpto 256).map v32).toArray) = w2 at *
  have HA := Lib.hid (hA.below W0)
  have H1 := Lib.hid W1
  have HB := Lib.hid W0
  clear hb1 hg hA W0 W1 hsz LK
  go_loop [6, 14] (fun v i => ∃ k : Nat, k ≤ len ∧ i = .int .i64 k ∧ v = v32 (Crc.run (~~~s) (zs.take k))) (fun _ i => len - (intOf i).toNat)
  case atStart => exact ⟨0, by omega, rfl, by rw [U_notmax, List.take_zero, Crc.run_nil]⟩
  case round =>
    obtain ⟨k, hk, rfl, rfl⟩ := hrel
    by_cases hlt : k < len
    · obtain ⟨c, hcc⟩ : ∃ c, c = zs.getD k 0 := ⟨_, rfl⟩
      have hlz : k < zs.length := by rw [← Hlen.out]; exact hlt
      have HT := Lib.hid (Crc.run_take (~~~s) zs k c hlz hcc)
      have hcb : 0 ≤ c ∧ c ≤ 255 := hz c (by rw [hcc, List.getD_eq_getElem?_getD, List.getElem?_eq_getElem hlz]; simp)
      obtain ⟨bb, off, rfl, hcell⟩ := HA.out.addr (by rw [List.length_map]; omega)
      have cc : w2.cell? ⟨bb, off + k, none⟩ = some (v8 c) := hcell k _ (by rw [List.getElem?_map, List.getElem?_eq_getElem hlz, hcc, List.getD_eq_getElem?_getD, List.getElem?_eq_getElem hlz]; rfl)
      generalize Crc.run (~~~s) (zs.take k) = x at *
      have px := Crc.place_xor x c hcb
      have pl := Crc.placeOf_lt x c
      have HU := Lib.hid (Crc.upd_eq x c hcb)
      have cp : w2.cell? ⟨g, Crc.placeOf x c, none⟩ = some (v32 (Crc.on 8 (BitVec.ofNat 32 (Crc.placeOf x c)))) := by
        rw [H1.out.cell, List.getElem?_map, place_get]; rfl
      generalize Crc.placeOf x c = j at *
      clear hcc hcell hlz
      go_wp2_with fail
      go_round
      case rel => exact ⟨k + 1, by omega, by go_num, by rw [HT.out, ← HU.out, shr8, U_xor]⟩
      case measure => simp [intOf]; omega
    · obtain rfl : k = len := by omega
      have HF : Hid (Crc.more s zs = ~~~(Crc.run (~~~s) (zs.take k))) := by show _ = _; rw [Hlen.out, List.take_length, Crc.more_eq]
      go_wp2_with fail
      go_ret
      exact ⟨ret_int (by rw [HF.out, U_notmax]), HB.out⟩
set_option maxHeartbeats 400000 in
theorem csum_any (zs : List Int) (len : Nat) (p : Option Addr) (cap : Nat) (w : World) (hl : len = zs.length) (hz : ∀ n ∈ zs, 0 ≤ n ∧ n ≤ 255) (hA : At w p (zs.map v8)) (hc : len ≤ cap) (hm : cap ≤ 9223372036854775807) :
    Calls Try.prog 68 #[.slice p len cap] w fun e w' => e = .returned (v32 (Crc.sum zs)) ∧ Below w.heap.size w w' := by
  subst hl
  have HA := Lib.hid hA
  clear hA
  go_enter Try.func68, Try.ntmps68
  go_wp2_with (go_at_call 70; refine (more_any 0 0#32 rfl zs _ _ _ hz HA.out hc hm).mono ?_; rintro e w1 ⟨rfl, hb1⟩)
  go_ret
  exact ⟨ret_int (by rw [Crc.sum_eq]), hb1⟩
end
section
set_option linter.unusedSimpArgs false
set_option linter.unusedVariables false
open Go.RowKit Sha
theorem bit_mod (x : W) : (U x % 2 == 1) = x.getLsbD 0 := by
  unfold U
  rw [Bool.eq_iff_iff, beq_iff_eq]
  have h : x.getLsbD 0 = decide (x.toNat % 2 = 1) := by
    rw [BitVec.getLsbD, Nat.testBit_zero]
  rw [h, decide_eq_true_iff]
  omega
theorem xor_byte (x : W) (c : Int) (hc : 0 ≤ c ∧ c ≤ 255) : bits BinOp.xor IntKind.u32 (U x) c = U (x ^^^ BitVec.ofInt 32 c) := by
  have : c = U (BitVec.ofInt 32 c) := by rw [U_ofInt, Int.emod_eq_of_lt (by omega) (by omega)]
  conv => lhs; rw [this]
  rw [U_xor]
end
end Go.Proofs.Ythopfpfmliookaa
