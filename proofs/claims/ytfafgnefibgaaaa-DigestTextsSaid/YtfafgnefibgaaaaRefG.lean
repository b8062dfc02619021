/-
  The reference's digit and Get.
-/
import Derived.Test.YtfafgnefibgaaaaGetA
namespace Go.Proofs.Ytfafgnefibgaaaa
set_option linter.unusedSimpArgs false
set_option linter.unusedVariables false
open Go.RowKit Sha
def rdig (c : Int) : Int := if 48 ≤ c ∧ c ≤ 57 then c - 48 else if 97 ≤ c ∧ c ≤ 102 then c - 97 + 10 else -1
theorem rdig_neg (c : Int) (h : 0 ≤ c ∧ c ≤ 255) : rdig c < 0 ↔ isDig c = false := by
  have hi := isDig_iff c h
  constructor
  · intro hr
    cases hd : isDig c with
    | false => rfl
    | true =>
      have := hi.1 hd
      unfold rdig at hr
      split at hr
      · omega
      · split at hr <;> omega
  · intro hd
    rw [hd] at hi
    unfold rdig
    split
    · exact absurd (hi.2 (Or.inl (by assumption))) (by simp)
    · split
      · exact absurd (hi.2 (Or.inr (by assumption))) (by simp)
      · omega
theorem rdig_pos (c : Int) (h : 0 ≤ c ∧ c ≤ 255) (hd : isDig c = true) : rdig c = numOf c := by
  have := (isDig_iff c h).1 hd
  unfold rdig numOf
  rcases this with h1 | h1
  · rw [if_pos h1, if_pos (by omega)]
  · rw [if_neg (by omega), if_pos h1, if_neg (by omega)]; omega
attribute [irreducible] rdig
set_option maxRecDepth 100000 in
set_option maxHeartbeats 2000000 in
theorem rdigit_any (c : Int) (w : World) (hc : 0 ≤ c ∧ c ≤ 255) :
    Calls Try.prog 34 #[.int .u8 c] w fun e w' => e = .returned (.int .i64 (rdig c)) ∧ w' = w := by
  by_cases h1 : c < 48
  · have hr : rdig c = -1 := by unfold rdig; rw [if_neg (by omega), if_neg (by omega)]
    have t1 : decide (48 ≤ c) = false := by simp; omega
    have t2 : decide (97 ≤ c) = false := by simp; omega
    rw [hr]
    clear hr
    go_enter Try.func34, Try.ntmps34
    go_wp2_with fail
    go_ret
    exact ⟨rfl, rfl⟩
  · by_cases h2 : c ≤ 57
    · have hr : rdig c = c - 48 := by unfold rdig; rw [if_pos (by omega)]
      have t1 : decide (48 ≤ c) = true := by simp; omega
      have t2 : decide (c ≤ 57) = true := by simp; omega
      rw [hr]
      clear hr
      go_enter Try.func34, Try.ntmps34
      go_wp2_with fail
      go_ret
      exact ⟨rfl, rfl⟩
    · by_cases h3 : c < 97
      · have hr : rdig c = -1 := by unfold rdig; rw [if_neg (by omega), if_neg (by omega)]
        have t1 : decide (48 ≤ c) = true := by simp; omega
        have t2 : decide (c ≤ 57) = false := by simp; omega
        have t3 : decide (97 ≤ c) = false := by simp; omega
        rw [hr]
        clear hr
        go_enter Try.func34, Try.ntmps34
        go_wp2_with fail
        go_ret
        exact ⟨rfl, rfl⟩
      · by_cases h4 : c ≤ 102
        · have hr : rdig c = c - 97 + 10 := by unfold rdig; rw [if_neg (by omega), if_pos (by omega)]
          have t1 : decide (48 ≤ c) = true := by simp; omega
          have t2 : decide (c ≤ 57) = false := by simp; omega
          have t3 : decide (97 ≤ c) = true := by simp; omega
          have t4 : decide (c ≤ 102) = true := by simp; omega
          rw [hr]
          clear hr
          go_enter Try.func34, Try.ntmps34
          go_wp2_with fail
          go_ret
          exact ⟨rfl, rfl⟩
        · have hr : rdig c = -1 := by unfold rdig; rw [if_neg (by omega), if_neg (by omega)]
          have t1 : decide (48 ≤ c) = true := by simp; omega
          have t2 : decide (c ≤ 57) = false := by simp; omega
          have t3 : decide (97 ≤ c) = true := by simp; omega
          have t4 : decide (c ≤ 102) = false := by simp; omega
          rw [hr]
          clear hr
          go_enter Try.func34, Try.ntmps34
          go_wp2_with fail
          go_ret
          exact ⟨rfl, rfl⟩
theorem idUpto_rest (bs : List Int) (i : Nat) : ∀ j, i ≤ 2 * j → (idUpto bs i).getD j 0 = 0 := by
  induction i with
  | zero => intro j _; rw [idUpto_zero]; unfold zero32; rw [List.getD_eq_getElem?_getD, List.getElem?_replicate]; split <;> rfl
  | succ i ih =>
    intro j hj
    rw [idUpto_step, List.getD_eq_getElem?_getD, List.getElem?_set_ne (by omega), ← List.getD_eq_getElem?_getD]
    exact ih j (by omega)
theorem idUpto_two (bs : List Int) (k : Nat) (ca cb : Int) (hk : k < 32) (hca : ca = bs.getD (2 * k) 0) (hcb : cb = bs.getD (2 * k + 1) 0) (ha : 0 ≤ numOf ca ∧ numOf ca ≤ 15) (hb : 0 ≤ numOf cb ∧ numOf cb ≤ 15) :
    idUpto bs (2 * (k + 1)) = (idUpto bs (2 * k)).set k (16 * numOf ca + numOf cb) := by
  show idUpto bs (2 * k + 1 + 1) = _
  have hl := idUpto_length bs (2 * k)
  rw [idUpto_step, idUpto_step, show (2 * k + 1) / 2 = k by omega, show 2 * k / 2 = k by omega, idUpto_rest bs (2 * k) k (Nat.le_refl _), ← hca, ← hcb, orv_zero _ ha, List.set_set]
  congr 1
  rw [List.getD_eq_getElem?_getD, List.getElem?_set_self (by omega)]
  exact orv_two _ _ ha hb
set_option maxRecDepth 100000 in
set_option maxHeartbeats 2000000 in
theorem rget_any (s : ByteArray) (w : World) (hm : s.size ≤ maxLen) :
    Calls Try.prog 14 #[.string s] w fun e w' => e = .returned (.tuple #[getIds (getOf (nums s)), .int .i64 (getErr (getOf (nums s)))]) ∧ Below w.heap.size w w' := by
  have f0 := (Blk.new w (zero32.map v8).toArray 26).old (Obj.cells (zero32.map v8).toArray 26)
  have f1 := Blk.new (w.alloc (Obj.cells (zero32.map v8).toArray 26)) (zero32.map v8).toArray 26
  have b2 := ((Below.refl w.heap.size w).alloc (by simp) (Obj.cells (zero32.map v8).toArray 26)).alloc (by simp) (Obj.cells (zero32.map v8).toArray 26)
  obtain ⟨bs, hbs⟩ : ∃ bs, bs = nums s := ⟨_, rfl⟩
  have hln := nums_length s
  have hbd := nums_bd s
  rw [← hbs] at hln hbd ⊢
  have HBS := Lib.hid hbs
  have HBD := Lib.hid hbd
  clear hbs hbd
  have hszz : (Try.prog.info? 26).map (fun i => i.size) = some (zero32.map v8).toArray.size := by rw [size26]; simp [zero32_length]
  by_cases hl : s.size = 64
  · have t0 : ((s.size : Int) != 64) = false := by rw [bne_eq_false_iff_eq]; omega
    go_enter Try.func14, Try.ntmps14
    go_wp2_with (refine wpList_alloc_arr rfl 26 rfl _ info26 ?_)
    generalize ((w.alloc (Obj.cells (zero32.map v8).toArray 26)).alloc (Obj.cells (zero32.map v8).toArray 26)) = w2 at *
    simp only [World.size_alloc] at f1
    go_loopw [5] (fun i wr => ∃ k : Nat, k ≤ 32 ∧ i = .int .i64 k ∧ Below w.heap.size w wr ∧ Blk wr w.heap.size (zero32.map v8) 26 ∧ Blk wr (w.heap.size + 1) ((idUpto bs (2 * k)).map v8) 26 ∧ (∀ j, j < 2 * k → isDig (bs.getD j 0) = true)) (fun i _ => 32 - (intOf i).toNat)
    case atStart => exact ⟨0, by omega, rfl, b2, f0, by rw [Nat.mul_zero, idUpto_zero]; exact f1, fun j hj => by omega⟩
    case round =>
      clear b2 f0 f1
      obtain ⟨k, hk, rfl, hb, h0, h1, hdig⟩ := hrel
      have H0 := Lib.hid h0
      have H1 := Lib.hid h1
      have HD := Lib.hid hdig
      clear h0 h1 hdig
      by_cases hlt : k < 32
      · obtain ⟨ca, hca⟩ : ∃ c, c = bs.getD (2 * k) 0 := ⟨_, rfl⟩
        obtain ⟨cb, hcb⟩ : ∃ c, c = bs.getD (2 * k + 1) 0 := ⟨_, rfl⟩
        have bca : 0 ≤ ca ∧ ca ≤ 255 := by rw [hca]; exact getD_bd bs HBD.out _
        have bcb : 0 ≤ cb ∧ cb ≤ 255 := by rw [hcb]; exact getD_bd bs HBD.out _
        have i1 := run_byte s (2 * k) (by omega)
        have i2 := run_byte s (2 * k + 1) (by omega)
        rw [← HBS.out, ← hca] at i1
        rw [← HBS.out, ← hcb] at i2
        have na := rdig_neg ca bca
        have nb := rdig_neg cb bcb
        have HA := Lib.hid hca
        have HB := Lib.hid hcb
        clear hca hcb
        push_cast at i1 i2
        have w1 : IntKind.i64.wrap (2 * (k : Int)) = 2 * (k : Int) := IntWalk.i64_in _ (by omega)
        have w2 : IntKind.i64.wrap (2 * (k : Int) + 1) = 2 * (k : Int) + 1 := IntWalk.i64_in _ (by omega)
        by_cases hda : isDig ca = true ∧ isDig cb = true
        · obtain ⟨da, db⟩ := hda
          have pa := rdig_pos ca bca da
          have pb := rdig_pos cb bcb db
          have ra := numOf_bd ca bca da
          have rb := numOf_bd cb bcb db
          have t1 : decide (rdig ca < 0) = false := by rw [pa]; simp; omega
          have t2 : decide (rdig cb < 0) = false := by rw [pb]; simp; omega
          have cf : wr.frozen? ⟨w.heap.size + 1, k, none⟩ = false := H1.out.free _
          have c0 : wr.cell? ⟨w.heap.size + 1, k, none⟩ = some (v8 0) := by
            rw [H1.out.cell, List.getElem?_map, List.getElem?_eq_getElem (by rw [idUpto_length]; omega)]
            have := idUpto_rest bs (2 * k) k (Nat.le_refl _)
            rw [List.getD_eq_getElem?_getD, List.getElem?_eq_getElem (by rw [idUpto_length]; omega)] at this
            simp at this; simp [this]
          have r1 : 0 ≤ rdig ca ∧ rdig ca ≤ 15 := by rw [pa]; exact ra
          have r2 : 0 ≤ rdig cb ∧ rdig cb ≤ 15 := by rw [pb]; exact rb
          have PA := Lib.hid pa
          have PB := Lib.hid pb
          have RA := Lib.hid ra
          have RB := Lib.hid rb
          have DA := Lib.hid da
          have DB := Lib.hid db
          clear na nb da db pa pb ra rb
          go_wp2_with fail
          go_quiet (first | (go_at_call 34; refine Calls.quiet_of_same (rdigit_any _ _ (by omega))))
          go_wp2_with fail
          go_roundw
          case rel =>
            refine ⟨k + 1, by omega, by go_num, (below_drewN hb nq).setCell (by simp) _, (H0.out.drewN nq).setOther _ _ (by simp), ?_, ?_⟩
            · rw [idUpto_two bs k ca cb hlt HA.out HB.out RA.out RB.out, ← PA.out, ← PB.out, List.map_set]
              exact (H1.out.drewN nq).set _ _
            · intro j hj
              by_cases e : j = 2 * k
              · rw [e, ← HA.out]; exact DA.out
              · by_cases e2 : j = 2 * k + 1
                · rw [e2, ← HB.out]; exact DB.out
                · exact HD.out j (by omega)
          case measure => simp [intOf]; omega
        · have hg : getOf bs = none := by
            unfold getOf
            rw [if_neg]
            intro h
            rw [allDig_iff] at h
            have g1 := h.2 (2 * k) (by omega)
            have g2 := h.2 (2 * k + 1) (by omega)
            rw [← HA.out] at g1
            rw [← HB.out] at g2
            exact hda ⟨g1, g2⟩
          by_cases da : isDig ca = true
          · have db : isDig cb = false := by
              cases hd : isDig cb with
              | false => rfl
              | true => exact absurd ⟨da, hd⟩ hda
            have t1 : decide (rdig ca < 0) = false := by
              rw [rdig_pos ca bca da]
              have := numOf_bd ca bca da
              simp; omega
            have t2 : decide (rdig cb < 0) = true := by simpa using nb.2 db
            clear da db
            have HG := Lib.hid hg
            clear hg na nb hda
            go_wp2_with fail
            go_quiet (first | (go_at_call 34; refine Calls.quiet_of_same (rdigit_any _ _ (by omega))))
            have hb2 := below_drewN hb nq
            have K0 := Lib.hid (H0.out.drewN nq)
            obtain ⟨wq, hwq⟩ : ∃ wq, wq = wr.drewN nq := ⟨_, rfl⟩
            rw [← hwq] at hb2 K0 ⊢; clear hwq
            go_wp2_with (first
              | (refine wpList_build' rfl 26 _ rfl (zero32.map v8).toArray (by kernel_rfl) ?_)
              | (refine wpList_store_row rfl 26 _ _ rfl _ _ rfl rfl _ _ K0.out hszz rfl (one8 _) ?_))
            (try simp only [Exit.inBlock, Exit.then])
            refine bodyPost_ret (v := .tuple #[.agg (zero32.map v8).toArray, .int .i64 10]) ?_ rfl ⟨by rw [HG.out]; rfl, Below.setRow hb2 (by omega) _⟩
            exact results_row_tmp rfl _ _ _ _ _ _ _ _ rfl (K0.out.row _) (Try.underlying26) rfl hszz rfl
          · have t1 : decide (rdig ca < 0) = true := by simpa using na.2 (by simpa using da)
            clear da
            have HG := Lib.hid hg
            clear hg na nb hda
            go_wp2_with fail
            go_quiet (first | (go_at_call 34; refine Calls.quiet_of_same (rdigit_any _ _ (by omega))))
            have hb2 := below_drewN hb nq
            have K0 := Lib.hid (H0.out.drewN nq)
            obtain ⟨wq, hwq⟩ : ∃ wq, wq = wr.drewN nq := ⟨_, rfl⟩
            rw [← hwq] at hb2 K0 ⊢; clear hwq
            go_wp2_with (first
              | (refine wpList_build' rfl 26 _ rfl (zero32.map v8).toArray (by kernel_rfl) ?_)
              | (refine wpList_store_row rfl 26 _ _ rfl _ _ rfl rfl _ _ K0.out hszz rfl (one8 _) ?_))
            (try simp only [Exit.inBlock, Exit.then])
            refine bodyPost_ret (v := .tuple #[.agg (zero32.map v8).toArray, .int .i64 10]) ?_ rfl ⟨by rw [HG.out]; rfl, Below.setRow hb2 (by omega) _⟩
            exact results_row_tmp rfl _ _ _ _ _ _ _ _ rfl (K0.out.row _) (Try.underlying26) rfl hszz rfl
      · obtain rfl : k = 32 := by omega
        have hsz1 : (Try.prog.info? 26).map (fun i => i.size) = some ((idUpto bs 64).map v8).toArray.size := by rw [size26]; simp [idUpto_length]
        have hg : getOf bs = some (idUpto bs 64) := by
          unfold getOf
          rw [if_pos ⟨by omega, (allDig_iff bs).2 HD.out⟩]
        have HG := Lib.hid hg
        have H2 : Hid (Blk wr (w.heap.size + 1) ((idUpto bs 64).map v8) 26) := H1.out
        clear hg
        go_wp2_with (first
          | (refine wpList_load_row rfl 26 _ rfl _ rfl _ _ _ _ H2.out (Try.underlying26) rfl hsz1 ?_)
          | (refine wpList_store_row rfl 26 _ _ rfl _ _ rfl rfl _ _ H0.out hsz1 (by simp [zero32_length, idUpto_length]) (one8 _) ?_))
        (try simp only [Exit.inBlock, Exit.then])
        refine bodyPost_ret (v := .tuple #[.agg ((idUpto bs 64).map v8).toArray, .int .i64 0]) ?_ rfl ⟨by rw [HG.out]; rfl, Below.setRow hb (by omega) _⟩
        exact results_row_tmp rfl _ _ _ _ _ _ _ _ rfl (H0.out.row _) (Try.underlying26) rfl hsz1 rfl
  · have t0 : ((s.size : Int) != 64) = true := by rw [bne_iff_ne]; omega
    have hg : getOf bs = none := by
      unfold getOf
      rw [if_neg]
      intro h
      omega
    have HG := Lib.hid hg
    simp only [World.size_alloc] at f1
    have F0 := Lib.hid f0
    have F1 := Lib.hid f1
    have B2 := Lib.hid b2
    clear hg f0 f1 b2
    go_enter Try.func14, Try.ntmps14
    go_wp2_with (first
      | (refine wpList_alloc_arr rfl 26 rfl _ info26 ?_)
      | (refine wpList_load_row rfl 26 _ rfl _ rfl _ _ _ _ F1.out (Try.underlying26) rfl hszz ?_)
      | (refine wpList_store_row rfl 26 _ _ rfl _ _ rfl rfl _ _ F0.out hszz rfl (one8 _) ?_))
    (try simp only [Exit.inBlock, Exit.then])
    refine bodyPost_ret (v := .tuple #[.agg (zero32.map v8).toArray, .int .i64 10]) ?_ rfl ⟨by rw [HG.out]; rfl, Below.setRow B2.out (by omega) _⟩
    exact results_row_tmp rfl _ _ _ _ _ _ _ _ rfl (F0.out.row _) (Try.underlying26) rfl hszz rfl
end Go.Proofs.Ytfafgnefibgaaaa
