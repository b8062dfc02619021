/-
  The contracts of tell and ending.
-/
import Derived.Test.YtpbdajgbahnbjaaShaD
import Derived.Test.YtpbdajgbahnbjaaSha2
import Derived.Test.YtpbdajgbahnbjaaOwn
namespace Go.Proofs.Ytpbdajgbahnbjaa
set_option linter.unusedSimpArgs false
set_option linter.unusedVariables false
open Go.RowKit Sha
theorem info26 : (Try.prog.info? 26).map (fun i => i.zero) = some (some (.agg (zero32.map v8).toArray)) := by kernel_rfl
theorem size26 : (Try.prog.info? 26).map (fun i => i.size) = some 32 := by kernel_rfl
theorem one8 (l : List Int) : (l.map v8).toArray.all (·.oneCell') = true := by simp [Value.oneCell']
theorem zero32_length : zero32.length = 32 := by unfold zero32; rfl
set_option maxRecDepth 100000 in
set_option maxHeartbeats 2000000 in
theorem tell_any (s : List W) (w : World) (hs : s.length = 8) :
    Calls Try.prog 26 #[.agg (s.map v32).toArray] w fun e w' => e = .returned (.agg ((tellUpto s 32).map v8).toArray) ∧ Below w.heap.size w w' := by
  have Hs := Lib.hid hs
  clear hs
  go_enter Try.func26, Try.ntmps26
  go_wp2_with (first
    | (refine wpList_box_arr rfl 44 _ rfl _ rfl ?_)
    | (refine wpList_alloc_arr rfl 26 rfl _ info26 ?_))
  have f0 := ((Blk.new w (s.map v32).toArray 44).old (Obj.cells (zero32.map v8).toArray 26)).old (Obj.cells (zero32.map v8).toArray 26)
  have f1 := (Blk.new (w.alloc (Obj.cells (s.map v32).toArray 44)) (zero32.map v8).toArray 26).old (Obj.cells (zero32.map v8).toArray 26)
  have f2 := Blk.new ((w.alloc (Obj.cells (s.map v32).toArray 44)).alloc (Obj.cells (zero32.map v8).toArray 26)) (zero32.map v8).toArray 26
  have b3 := (((Below.refl w.heap.size w).alloc (by simp) (Obj.cells (s.map v32).toArray 44)).alloc (by simp) (Obj.cells (zero32.map v8).toArray 26)).alloc (by simp; omega) (Obj.cells (zero32.map v8).toArray 26)
  generalize (((w.alloc (Obj.cells (s.map v32).toArray 44)).alloc (Obj.cells (zero32.map v8).toArray 26)).alloc (Obj.cells (zero32.map v8).toArray 26)) = w3 at *
  simp only [World.size_alloc] at f0 f1 f2
  go_loopw [5] (fun i wr => ∃ k : Nat, k ≤ 32 ∧ i = .int .i64 k ∧ Below w.heap.size w wr ∧ Blk wr w.heap.size (s.map v32) 44 ∧ Blk wr (w.heap.size + 1) (zero32.map v8) 26 ∧ Blk wr (w.heap.size + 1 + 1) ((tellUpto s k).map v8) 26) (fun i _ => 32 - (intOf i).toNat)
  case atStart => exact ⟨0, by omega, rfl, b3, f0, f1, by rw [tellUpto_zero]; exact f2⟩
  case round =>
    clear b3 f0 f1 f2
    obtain ⟨k, hk, rfl, hb, h0, h1, h2⟩ := hrel
    have H0 := Lib.hid h0
    have H1 := Lib.hid h1
    have H2 := Lib.hid h2
    clear h0 h1 h2
    by_cases hlt : k < 32
    · obtain ⟨x, hx⟩ : ∃ x, x = s.getD (k / 4) 0 := ⟨_, rfl⟩
      have c0 : wr.cell? ⟨w.heap.size, k / 4, none⟩ = some (v32 x) := by
        rw [H0.out.cell, List.getElem?_map, List.getElem?_eq_getElem (by rw [Hs.out]; omega), hx]; simp [Hs.out, show k / 4 < 8 by omega]
      have c2 : wr.cell? ⟨w.heap.size + 1 + 1, k, none⟩ = some (v8 ((tellUpto s k).getD k 0)) := by
        rw [H2.out.cell, List.getElem?_map, List.getElem?_eq_getElem (by rw [tellUpto_length]; omega)]; simp [tellUpto_length, hlt]
      have cf : wr.frozen? ⟨w.heap.size + 1 + 1, k, none⟩ = false := H2.out.free _
      have HX := Lib.hid hx
      clear hx
      have y0 : (0 : Int) ≤ 24 - 8 * ((k : Int) % 4) := by omega
      have y1 : 24 - 8 * ((k : Int) % 4) ≤ (32 : Int) := by omega
      have y2 : 8 * ((k : Int) % 4) ≤ (24 : Int) := by omega
      go_wp2_with fail
      go_roundw
      case rel =>
        refine ⟨k + 1, by omega, by go_num, hb.setCell (by simp; omega) _, H0.out.setOther _ _ (by simp; omega), H1.out.setOther _ _ (by simp), ?_⟩
        rw [tellUpto_succ s k (U x / 2 ^ (24 - 8 * (k % 4)) % 256) (by rw [HX.out]; rfl)]
        exact H2.out.set _ _
      case measure => simp [intOf]; omega
    · obtain rfl : k = 32 := by omega
      have hsz2 : (Try.prog.info? 26).map (fun i => i.size) = some ((tellUpto s 32).map v8).toArray.size := by rw [size26]; simp [tellUpto_length]
      go_wp2_with (first
        | (refine wpList_load_row rfl 26 _ rfl _ rfl _ _ _ _ H2.out (Try.underlying26) rfl hsz2 ?_)
        | (refine wpList_store_row rfl 26 _ _ rfl _ _ rfl rfl _ _ H1.out hsz2 (by simp [zero32_length, tellUpto_length]) (one8 _) ?_))
      refine bodyPost_ret (v := .agg ((tellUpto s 32).map v8).toArray) ?_ rfl ⟨rfl, Below.setRow hb (by omega) _⟩
      exact results_cell_row rfl _ _ _ _ _ _ _ rfl (H1.out.row _) (Try.underlying26) rfl hsz2
theorem byte_info : (Try.prog.info? 5).map (fun i => (i.zero, i.size, i.bytes)) = some (some (.int .u8 0), 1, 1) := by kernel_rfl
theorem one8l (l : List Int) : ∀ u ∈ l.map v8, u.oneCell' = true := by simp [Value.oneCell']
set_option maxRecDepth 100000 in
set_option maxHeartbeats 2000000 in
theorem ending_any (zs : List Int) (N : Int) (p : Option Addr) (cap : Nat) (w : World) (hl : zs.length < 64) (hA : At w p (zs.map v8)) (hc : zs.length ≤ cap) (hp : p = none → cap = 0) (hN : 0 ≤ N ∧ N ≤ 18446744073709551615) :
    Calls Try.prog 27 #[.slice p zs.length cap, .int .u64 N] w
      fun e w' => ∃ v, e = .returned v ∧ w'.ownsRow w.heap.size 5 1 v (ending zs N).length ((ending zs N).map v8) ∧ Below w.heap.size w w' := by
  obtain ⟨i0, hi, hz0, hz1, hz2⟩ := info_parts byte_info
  obtain ⟨len, hlen⟩ : ∃ n, n = zs.length := ⟨_, rfl⟩
  rw [← hlen] at hc hl ⊢
  have Hlen := Lib.hid hlen
  have HA := Lib.hid hA
  clear hlen hA
  go_enter Try.func27, Try.ntmps27
  go_wp2_with (first
    | (at_make; refine wpList_make_own _ rfl _ _ 22 rfl w.heap.size 5 i0 (.int .u8 0) 1 Try.underlying22 hi hz0 hz1 .i64 .i64 128 128 rfl rfl (by omega) (by rw [hz2]; decide) (by decide) (Nat.le_refl _) ?_; intro w1 hown1 hgrow1; have hb1 : Below w.heap.size w w1 := (Below.refl _ _).grown hgrow1 (Nat.le_refl _) (by simp))
    | (at_builtin; refine wpList_app rfl (.tmp 7) (.tmp 8) 22 rfl w.heap.size 5 Try.underlying22 byte_info rfl _ _ _ rfl hown1 p len cap (zs.map v8) rfl (HA.out.below hb1) (by simp [Hlen.out]) hp hc (one8l _) (by omega) (by unfold maxLen; omega) hb1.size ?_; intro v2 w2 hown2 _ hb2 hs2 _; simp only [Nat.zero_add, List.nil_append] at hown2)
    | (at_builtin; refine wpList_app rfl (.tmp 10) (.tmp 11) 22 rfl w.heap.size 5 Try.underlying22 byte_info rfl _ _ _ rfl (hown2.alloc _) _ 1 1 [v8 128] rfl (at_one _ _ _) rfl (by simp) (Nat.le_refl _) (one8l [128]) (by omega) (by unfold maxLen; omega) (by simp; omega) ?_; intro v3 w3 hown3 _ hb3 hs3 _))
  have hb4 : Below w.heap.size w w3 := (hb1.trans (hb2.alloc hs2 _)).trans hb3
  have hown4 : w3.ownsRow w.heap.size 5 1 v3 (len + 1) ((zs ++ [128]).map v8) := by simpa using hown3
  clear hown1 hgrow1 hb1 hb2 hs2 hown2 hown3 hb3
  go_loopw [5] (fun v wr => ∃ k : Nat, k ≤ noughts len ∧ wr.ownsRow w.heap.size 5 1 v (len + 1 + k) ((zs ++ [128] ++ List.replicate k 0).map v8) ∧ Below w.heap.size w wr ∧ w.heap.size ≤ wr.heap.size) (fun v _ => 128 - lenOf v)
  case atStart => exact ⟨0, by omega, by simpa using hown4, hb4, hs3⟩
  case round =>
    clear hown4 hb4 hs3
    obtain ⟨k, hk, hown, hb, hs⟩ := hrel
    obtain ⟨g, c, rfl, hg, hmc, hcm, hgs⟩ := own_form hown (by omega)
    have HK := Lib.hid hk
    have hle := noughts_le len hl
    have n1 := noughts_lt len k hl
    have n2 := noughts_eq len hl
    obtain ⟨m, hm⟩ : ∃ m, m = len + 1 + k := ⟨_, rfl⟩
    rw [← hm] at hown hmc n1 ⊢
    have hmle : m ≤ 120 := by omega
    have hm1 : 1 ≤ m := by omega
    have HM := Lib.hid hm
    by_cases hlt : k < noughts len
    · have t1 : (((m : Int) % 64) != 56) = true := by rw [bne_iff_ne]; have := n1 hlt; omega
      have t2 : (((m : Int) % 64) == 56) = false := by rw [beq_eq_false_iff_ne]; have := n1 hlt; omega
      have HO := Lib.hid hown
      clear hown hm n1 n2 hk hle
      go_wp2_with (at_builtin; refine wpList_app rfl (.tmp 17) (.tmp 18) 22 rfl w.heap.size 5 Try.underlying22 byte_info rfl _ _ _ rfl (HO.out.alloc _) _ 1 1 [v8 0] rfl (at_one _ _ _) rfl (by simp) (Nat.le_refl _) (one8l [0]) (by omega) (by unfold maxLen; omega) (by simp; omega) ?_; intro v3 w3 hown3 _ hb3 hs3 _)
      have hown5 : w3.ownsRow w.heap.size 5 1 v3 (len + 1 + (k + 1)) ((zs ++ [128] ++ List.replicate (k + 1) 0).map v8) := by
        rw [HM.out] at hown3
        rw [List.replicate_succ', show len + 1 + (k + 1) = len + 1 + k + 1 by omega]; simpa using hown3
      go_roundw
      case rel => exact ⟨k + 1, by omega, hown5, (hb.alloc hs _).trans hb3, hs3⟩
      case measure =>
        obtain ⟨g', c', rfl, _⟩ := own_form hown5 (by omega)
        have := HM.out
        simp [lenOf]; omega
    · have hkn : k = noughts len := by omega
      have t1 : (((m : Int) % 64) != 56) = false := by rw [bne_eq_false_iff_eq]; rw [hkn] at hm; omega
      have t2 : (((m : Int) % 64) == 56) = true := by rw [beq_iff_eq]; rw [hkn] at hm; omega
      have HO : Hid (wr.ownsRow w.heap.size 5 1 (.slice (some ⟨g, 0, none⟩) m c) m ((zs ++ [128] ++ List.replicate (noughts len) 0).map v8)) := by rw [← hkn]; exact hown
      clear hown hm n1 n2 hk hle hkn HK HM
      go_wp2_with fail
      obtain ⟨base, hbase⟩ : ∃ l, l = zs ++ [128] ++ List.replicate (noughts len) 0 := ⟨_, rfl⟩
      rw [← hbase] at HO
      have HB := Lib.hid hbase
      clear hbase
      go_loopw [5, 20] (fun v i wr => ∃ k : Nat, k ≤ 8 ∧ i = .int .i64 k ∧ wr.ownsRow w.heap.size 5 1 v (m + k) ((base ++ lenUpto N k).map v8) ∧ Below w.heap.size w wr ∧ w.heap.size ≤ wr.heap.size) (fun _ i _ => 8 - (intOf i).toNat)
      case atStart => exact ⟨0, by omega, rfl, by rw [lenUpto_zero, List.append_nil]; exact HO.out, hb, hs⟩
      case round =>
        clear HO hb hs hg hgs hmc
        obtain ⟨k, hk, rfl, hown, hb, hs⟩ := hrel
        obtain ⟨g, c, rfl, hg, hmc, hcm, hgs⟩ := own_form hown (by omega)
        have HO := Lib.hid hown
        clear hown
        by_cases hlt : k < 8
        · have y0 : (0 : Int) ≤ 56 - 8 * (k : Int) := by omega
          have y1 : 56 - 8 * (k : Int) ≤ (64 : Int) := by omega
          have y2 : 8 * (k : Int) ≤ (56 : Int) := by omega
          go_wp2_with (at_builtin; refine wpList_app rfl (.tmp 23) (.tmp 31) 22 rfl w.heap.size 5 Try.underlying22 byte_info rfl _ _ _ rfl (HO.out.alloc _) _ 1 1 [_] rfl (at_one _ _ _) rfl (by simp) (Nat.le_refl _) (by simp [Value.oneCell']) (by omega) (by unfold maxLen; omega) (by simp; omega) ?_; intro v3 w3 hown3 _ hb3 hs3 _)
          have hown5 : w3.ownsRow w.heap.size 5 1 v3 (m + (k + 1)) ((base ++ lenUpto N (k + 1)).map v8) := by
            rw [lenUpto_succ]; simpa [lenByte, Nat.add_assoc] using hown3
          go_roundw
          case rel => exact ⟨k + 1, by omega, by go_num, hown5, (hb.alloc hs _).trans hb3, hs3⟩
          case measure => simp [intOf]; omega
        · obtain rfl : k = 8 := by omega
          have HL : Hid (m + 8 = (ending zs N).length ∧ base ++ lenUpto N 8 = ending zs N) := by
            have e : base ++ lenUpto N 8 = ending zs N := by rw [HB.out, ending_eq, Hlen.out]
            refine ⟨?_, e⟩
            have := HO.out.1
            rw [e] at this; simpa using this.symm
          go_wp2_with fail
          go_ret
          refine ⟨_, rfl, ?_, hb⟩
          rw [← HL.out.1, ← HL.out.2]
          exact HO.out
end Go.Proofs.Ytpbdajgbahnbjaa
