/-
  The contracts of bitOn, byteOn and byteTable.
-/
import Derived.Test.YtfjopbgnijfajaaRows
import Derived.Test.YtfjopbgnijfajaaCrc
import Derived.Test.YtfjopbgnijfajaaSl
import Derived.WalkSpells
import Derived.WalkLawsBesides
namespace Go.Proofs.Ytfjopbgnijfajaa
set_option linter.unusedSimpArgs false
set_option linter.unusedVariables false
open Go.RowKit Sha
theorem bit_test (x : W) : (bits BinOp.and IntKind.u32 (U x) 1 == 1) = x.getLsbD 0 := by
  rw [show (1 : Int) = U 1#32 by decide, U_and]
  rw [Bool.eq_iff_iff, beq_iff_eq]
  constructor
  · intro h
    have h1 : x &&& 1#32 = 1#32 := by rw [← ofInt_U (x &&& 1#32), h]; rfl
    have := congrArg (·.getLsbD 0) h1
    simpa using this
  · intro h
    congr 1
    apply BitVec.eq_of_getLsbD_eq
    intro i hi
    rw [BitVec.getLsbD_and, BitVec.getLsbD_one]
    by_cases h0 : i = 0
    · subst h0; simp [h]
    · simp [h0]
theorem bit_half (x : W) : U x / (2 : Int) = U (x >>> 1) := U_shr x 1
theorem bit_poly (x : W) : bits BinOp.xor IntKind.u32 (U x) 3988292384 = U (x ^^^ Crc.poly) := by
  rw [show (3988292384 : Int) = U Crc.poly by decide, U_xor]
theorem bitOn_if (x : W) : Crc.bitOn x = if x.getLsbD 0 then x >>> 1 ^^^ Crc.poly else x >>> 1 := by unfold Crc.bitOn; rfl
set_option maxHeartbeats 400000 in
theorem bitOn_any (x : W) (w : World) :
    Calls Try.prog 48 #[v32 x] w fun e w' => e = .returned (v32 (Crc.bitOn x)) ∧ w = w' := by
  have hb := bit_test x
  have HF := Lib.hid (bitOn_if x)
  cases hc : x.getLsbD 0 with
  | true =>
    rw [hc] at hb
    have HC := Lib.hid hc
    clear hc
    go_enter Try.func48, Try.ntmps48
    go_wp2
    go_ret
    exact ⟨ret_int (by rw [HF.out, HC.out, bit_half, bit_poly]; rfl), rfl⟩
  | false =>
    rw [hc] at hb
    have HC := Lib.hid hc
    clear hc
    go_enter Try.func48, Try.ntmps48
    go_wp2
    go_ret
    exact ⟨ret_int (by rw [HF.out, HC.out, bit_half]; rfl), rfl⟩
set_option maxHeartbeats 400000 in
theorem byteOn_any (x : W) (w : World) :
    Calls Try.prog 47 #[v32 x] w fun e w' => e = .returned (v32 (Crc.on 8 x)) ∧ w = w' := by
  go_enter Try.func47, Try.ntmps47
  go_wp2
  go_loop [0, 3] (fun v i => ∃ k : Nat, k ≤ 8 ∧ i = .int .i64 k ∧ v = v32 (Crc.on k x)) (fun _ i => 8 - (intOf i).toNat)
  case atStart => exact ⟨0, by omega, rfl, by rw [Crc.on_zero]⟩
  case round =>
    obtain ⟨k, hk, rfl, rfl⟩ := hrel
    by_cases hlt : k < 8
    · have HL := Lib.hid (Crc.on_last k x)
      go_wp2_with (go_at_call 48; refine (bitOn_any _ _).mono ?_; rintro e w' ⟨rfl, rfl⟩)
      go_round
      case rel => exact ⟨k + 1, by omega, by go_num, by rw [HL.out]⟩
      case measure => simp [intOf]; omega
    · obtain rfl : k = 8 := by omega
      go_wp2
      go_ret
      exact ⟨rfl, rfl⟩
theorem byteOn_int (n : Int) (w : World) (h : 0 ≤ n ∧ n < 4294967296) :
    Calls Try.prog 47 #[.int .u32 n] w fun e w' => e = .returned (v32 (Crc.on 8 (BitVec.ofInt 32 n))) ∧ w = w' := by
  have := byteOn_any (BitVec.ofInt 32 n) w
  rwa [show v32 (BitVec.ofInt 32 n) = .int .u32 n by show Value.int .u32 _ = _; rw [U_ofInt, Int.emod_eq_of_lt h.1 h.2]] at this
theorem infoTab : (Try.prog.info? 63).map (fun i => i.zero) = some (some (.agg ((Crc.tabUpto 0).map v32).toArray)) := by kernel_rfl
theorem sizeTab : (Try.prog.info? 63).map (fun i => i.size) = some 256 := by kernel_rfl
theorem cone32 (l : List W) : (l.map v32).toArray.all (·.oneCell') = true := by simp [Value.oneCell']
set_option maxRecDepth 100000 in
set_option maxHeartbeats 1000000 in
theorem table_any (w : World) : Calls Try.prog 46 #[] w fun e w' => e = .returned (.agg ((Crc.tabUpto 256).map v32).toArray) ∧ Below w.heap.size w w' := by
  go_enter Try.func46, Try.ntmps46
  go_wp2_with (refine wpList_alloc_arr rfl 63 rfl _ infoTab ?_)
  have b2 := ((Below.refl w.heap.size w).alloc (by simp) (Obj.cells ((Crc.tabUpto 0).map v32).toArray 63)).alloc (by simp) (Obj.cells ((Crc.tabUpto 0).map v32).toArray 63)
  have f0 := (Blk.new w ((Crc.tabUpto 0).map v32).toArray 63).old (Obj.cells ((Crc.tabUpto 0).map v32).toArray 63)
  have f1 := Blk.new (w.alloc (Obj.cells ((Crc.tabUpto 0).map v32).toArray 63)) ((Crc.tabUpto 0).map v32).toArray 63
  generalize (w.alloc (Obj.cells ((Crc.tabUpto 0).map v32).toArray 63)).alloc (Obj.cells ((Crc.tabUpto 0).map v32).toArray 63) = w2 at *
  simp only [World.size_alloc] at f0 f1
  go_loopw [4] (fun i wr => ∃ k : Nat, k ≤ 256 ∧ i = .int .i64 k ∧ Below w.heap.size w wr ∧ Blk wr w.heap.size ((Crc.tabUpto 0).map v32) 63 ∧ Blk wr (w.heap.size + 1) ((Crc.tabUpto k).map v32) 63) (fun i _ => 256 - (intOf i).toNat)
  case atStart => exact ⟨0, by omega, rfl, b2, f0, f1⟩
  case round =>
    clear b2 f0 f1
    obtain ⟨k, hk, rfl, hb, h0, h1⟩ := hrel
    by_cases hlt : k < 256
    · have hand := Crc.low_and k hlt
      have hle := Crc.lowOf_le k hlt
      have HS := Lib.hid (Crc.tabUpto_succ k hlt)
      have HO := Lib.hid (Crc.low_on k hlt)
      have HP := Lib.hid (Crc.lowOf_pos k hlt)
      have cg : ∀ i, i < k → wr.cell? ⟨w.heap.size + 1, i, none⟩ = some (v32 (Crc.on 8 (BitVec.ofNat 32 i))) := by
        intro i hi
        rw [h1.cell, List.getElem?_map, Crc.tabUpto_get k i hi (by omega)]; rfl
      have CG := Lib.hid cg
      have cf : wr.frozen? ⟨w.heap.size + 1, k, none⟩ = false := h1.free _
      have ck : wr.cell? ⟨w.heap.size + 1, k, none⟩ = some (v32 ((Crc.tabUpto k).getD k 0)) := by
        rw [h1.cell, List.getElem?_map, List.getElem?_eq_getElem (by rw [Crc.tabUpto_length]; omega)]; simp [Crc.tabUpto_length, hlt]
      have H0 := Lib.hid h0
      have H1 := Lib.hid h1
      clear cg h0 h1
      generalize Crc.lowOf k = lo at *
      by_cases he : k = lo
      · have t1 : ((k : Int) == (lo : Int)) = true := by rw [beq_iff_eq]; omega
        have HE := Lib.hid he
        clear he
        go_wp2_with (go_at_call 47; refine (byteOn_int _ _ (by omega)).mono ?_; rintro e w' ⟨rfl, rfl⟩)
        go_roundw
        case rel =>
          refine ⟨k + 1, by omega, by go_num, hb.setCell (by simp) _, H0.out.setOther _ _ (by simp), ?_⟩
          rw [HS.out]
          exact H1.out.set _ _
        case measure => simp [intOf]; omega
      · obtain ⟨hp1, hp2⟩ := HP.out (fun h => he h.symm)
        have t1 : ((k : Int) == (lo : Int)) = false := by rw [beq_eq_false_iff_ne]; omega
        have c1 := CG.out lo (by omega)
        have c2 := CG.out (k - lo) (by omega)
        clear he
        have v1 : (0 : Int) ≤ (k : Int) - (lo : Int) := by omega
        have v2 : ((k : Int) - (lo : Int)).toNat = k - lo := by omega
        have HV2 := Lib.hid v2
        clear v2
        go_wp2_with fail
        refine region_tail 11 (by kernel_rfl) (by kernel_rfl) ?_
        simp only [List.take_succ_cons, List.take_zero, List.drop_succ_cons, List.drop_zero]
        repeat (go_big_quiet_step (fail))
        refine wpQuiet_nil ?_
        go_wp2_with fail
        go_roundw
        case rel =>
          refine ⟨k + 1, by omega, by go_num, hb.drew.setCell (by simp) _, H0.out.drew.setOther _ _ (by simp), ?_⟩
          rw [HS.out, ← HO.out]
          unfold v32
          rw [← U_xor]
          exact (H1.out.set _ _).drew
        case measure => simp [intOf]; omega
    · obtain rfl : k = 256 := by omega
      have hsz2 : (Try.prog.info? 63).map (fun i => i.size) = some ((Crc.tabUpto 256).map v32).toArray.size := by rw [sizeTab]; simp [Crc.tabUpto_length]
      have H0 := Lib.hid h0
      have H1 := Lib.hid h1
      clear h0 h1
      go_wp2_with (first
        | (refine wpList_load_row rfl 63 _ rfl _ rfl _ _ _ _ H1.out (Try.underlying63) rfl hsz2 ?_)
        | (refine wpList_store_row rfl 63 _ _ rfl _ _ rfl rfl _ _ H0.out hsz2 (by simp [Crc.tabUpto_length]) (cone32 _) ?_))
      refine bodyPost_ret (v := .agg ((Crc.tabUpto 256).map v32).toArray) ?_ rfl ⟨rfl, Below.setRow hb (by omega) _⟩
      exact results_cell_row rfl _ _ _ _ _ _ _ rfl (H0.out.row _) (Try.underlying63) rfl hsz2
/-- Bytes behind a sum: the table's way. -/
theorem place_get (x : W) (c : Int) : (Crc.tabUpto 256)[Crc.placeOf x c]? = some (Crc.on 8 (BitVec.ofNat 32 (Crc.placeOf x c))) := Crc.tabUpto_get 256 _ (Crc.placeOf_lt x c) (Crc.placeOf_lt x c)
theorem shr8 (x : W) : U x / (256 : Int) = U (x >>> 8) := U_shr x 8
set_option maxRecDepth 100000 in
set_option maxHeartbeats 1000000 in
theorem more_any (n : Int) (s : W) (hn : n = U s) (zs : List Int) (p : Option Addr) (cap : Nat) (w : World) (hz : ∀ n ∈ zs, 0 ≤ n ∧ n ≤ 255) (hA : At w p (zs.map v8)) (hc : zs.length ≤ cap) (hm : cap ≤ 9223372036854775807) :
    Calls Try.prog 44 #[.int .u32 n, .slice p zs.length cap] w fun e w' => e = .returned (v32 (Crc.more s zs)) ∧ Below w.heap.size w w' := by
  subst hn
  obtain ⟨len, hlen⟩ : ∃ n, n = zs.length := ⟨_, rfl⟩
  rw [← hlen] at hc ⊢
  have Hlen := Lib.hid hlen
  clear hlen
  go_enter Try.func44, Try.ntmps44
  have lk : ((Crc.tabUpto 256).map v32).toArray.size = 256 := by simp [Crc.tabUpto_length]
  have hsz : (Try.prog.info? 63).map (fun i => i.size) = some ((Crc.tabUpto 256).map v32).toArray.size := by rw [sizeTab, lk]
  have LK := Lib.hid lk
  clear lk
  go_wp2_with (first
    | (refine wpList_alloc_arr rfl 63 rfl _ infoTab ?_)
    | (refine wpList_store_row rfl 63 _ _ rfl _ _ rfl rfl _ _ (Blk.new _ _ _) hsz (by rw [LK.out]; simp [Crc.tabUpto_length]) (cone32 _) ?_)
    | (go_at_call 46; refine (table_any _).mono ?_; rintro e w1 ⟨rfl, hb1⟩))
  obtain ⟨g, hg⟩ : ∃ g, g = w1.heap.size := ⟨_, rfl⟩
  have W0 : Below w.heap.size w ((w1.alloc (Obj.cells ((Crc.tabUpto 0).map v32).toArray 63)).setRow w1.heap.size ((Crc.tabUpto 256).map v32).toArray) :=
    Below.setRow (hb1.alloc hb1.size _) hb1.size _
  have W1 : Blk ((w1.alloc (Obj.cells ((Crc.tabUpto 0).map v32).toArray 63)).setRow w1.heap.size ((Crc.tabUpto 256).map v32).toArray) g ((Crc.tabUpto 256).map v32) 63 := by rw [hg]; exact (Blk.new _ _ _).row _
  rw [← hg] at W0 W1 ⊢
  generalize ((w1.alloc (Obj.cells ((Crc.tabUpto 0).map v32).toArray 63)).setRow g ((Crc.tabUpto 256).map v32).toArray) = w2 at *
  have HA := Lib.hid (hA.below W0)
  have H1 := Lib.hid W1
  have HB := Lib.hid W0
  clear hb1 hg hA W0 W1 hsz LK
  go_loop [6, 14] (fun v i => ∃ k : Nat, k ≤ len ∧ i = .int .i64 k ∧ v = v32 (Crc.run (~~~s) (zs.take k))) (fun _ i => len - (intOf i).toNat)
  case atStart => exact ⟨0, by omega, rfl, by rw [U_notmax, List.take_zero, Crc.run_nil]⟩
  case round =>
    obtain ⟨k, hk, rfl, rfl⟩ := hrel
    by_cases hlt : k < len
    · obtain ⟨c, hcc⟩ : ∃ c, c = zs.getD k 0 := ⟨_, rfl⟩
      have hlz : k < zs.length := by rw [← Hlen.out]; exact hlt
      have HT := Lib.hid (Crc.run_take (~~~s) zs k c hlz hcc)
      have hcb : 0 ≤ c ∧ c ≤ 255 := hz c (by rw [hcc, List.getD_eq_getElem?_getD, List.getElem?_eq_getElem hlz]; simp)
      obtain ⟨bb, off, rfl, hcell⟩ := HA.out.addr (by rw [List.length_map]; omega)
      have cc : w2.cell? ⟨bb, off + k, none⟩ = some (v8 c) := hcell k _ (by rw [List.getElem?_map, List.getElem?_eq_getElem hlz, hcc, List.getD_eq_getElem?_getD, List.getElem?_eq_getElem hlz]; rfl)
      generalize Crc.run (~~~s) (zs.take k) = x at *
      have px := Crc.place_xor x c hcb
      have pl := Crc.placeOf_lt x c
      have HU := Lib.hid (Crc.upd_eq x c hcb)
      have cp : w2.cell? ⟨g, Crc.placeOf x c, none⟩ = some (v32 (Crc.on 8 (BitVec.ofNat 32 (Crc.placeOf x c)))) := by
        rw [H1.out.cell, List.getElem?_map, place_get]; rfl
      generalize Crc.placeOf x c = j at *
      clear hcc hcell hlz
      go_wp2_with fail
      go_round
      case rel => exact ⟨k + 1, by omega, by go_num, by rw [HT.out, ← HU.out, shr8, U_xor]⟩
      case measure => simp [intOf]; omega
    · obtain rfl : k = len := by omega
      have HF : Hid (Crc.more s zs = ~~~(Crc.run (~~~s) (zs.take k))) := by show _ = _; rw [Hlen.out, List.take_length, Crc.more_eq]
      go_wp2_with fail
      go_ret
      exact ⟨ret_int (by rw [HF.out, U_notmax]), HB.out⟩
set_option maxHeartbeats 400000 in
theorem csum_any (zs : List Int) (len : Nat) (p : Option Addr) (cap : Nat) (w : World) (hl : len = zs.length) (hz : ∀ n ∈ zs, 0 ≤ n ∧ n ≤ 255) (hA : At w p (zs.map v8)) (hc : len ≤ cap) (hm : cap ≤ 9223372036854775807) :
    Calls Try.prog 38 #[.slice p len cap] w fun e w' => e = .returned (v32 (Crc.sum zs)) ∧ Below w.heap.size w w' := by
  subst hl
  have HA := Lib.hid hA
  clear hA
  go_enter Try.func38, Try.ntmps38
  go_wp2_with (go_at_call 44; refine (more_any 0 0#32 rfl zs _ _ _ hz HA.out hc hm).mono ?_; rintro e w1 ⟨rfl, hb1⟩)
  go_ret
  exact ⟨ret_int (by rw [Crc.sum_eq]), hb1⟩
end Go.Proofs.Ytfjopbgnijfajaa
