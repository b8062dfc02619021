/-
  The program's New; what rounds are asked to do, the program does.
-/
import Derived.Test.YtfoomffbjjcjjaaPvE
import Derived.Test.YtfoomffbjjcjjaaPvG
import Derived.Test.YtfoomffbjjcjjaaPlQ
namespace Go.Proofs.Ytfoomffbjjcjjaa
set_option linter.unusedSimpArgs false
set_option linter.unusedVariables false
open Go.RowKit Sha Lot
theorem PbNew.ok {xs : List Int} (h : PbNew xs) : Rd.OK ⟨xs, 0⟩ := ⟨h.1, h.2, Nat.zero_le _⟩
theorem PbNew.next {xs : List Int} {i : Nat} (h : PbNew (xs.take i)) (hi : i < xs.length) (h1 : 1 ≤ xs[i] ∧ xs[i] ≤ 64) (h2 : xs[i] ∉ xs.take i) : PbNew (xs.take (i + 1)) := by
  rw [List.take_succ_eq_append_getElem hi]
  refine ⟨List.nodup_append.2 ⟨h.1, by simp, fun a ha b hb => ?_⟩, fun n hn => ?_⟩
  · rw [List.mem_singleton.1 hb]; rintro rfl; exact h2 ha
  · rcases List.mem_append.1 hn with h3 | h3
    · exact h.2 n h3
    · rw [List.mem_singleton.1 h3]; exact h1
theorem PbNew.not_may {xs : List Int} {i : Nat} (hi : i < xs.length) (h1 : ¬ (1 ≤ xs[i] ∧ xs[i] ≤ 64)) : ¬ PbNew xs := fun h => h1 (h.2 _ (List.getElem_mem hi))
theorem PbNew.not_nd {xs : List Int} {i : Nat} (hi : i < xs.length) (h1 : xs[i] ∈ xs.take i) : ¬ PbNew xs := fun h => by
  obtain ⟨j, hj, he⟩ := List.mem_iff_getElem.1 h1
  rw [List.length_take] at hj
  rw [List.getElem_take] at he
  exact List.pairwise_iff_getElem.1 h.1 j i (by omega) hi (by omega) he
section
attribute [local go_sem ↓] execOp_sliceI execOp_buildI
set_option maxRecDepth 100000 in
set_option maxHeartbeats 8000000 in
theorem pnewR_any (xs : List Int) (n : Nat) (q : Option Addr) (c : Nat) (lv : Value) (fl : List Nat) (Ls : List Int) (N : Nat) (w : World) (hn : xs.length = n) (hG : GoodN w xs q c) (hm : n ≤ 100) (hl : LArg ProgLot w lv fl Ls N) (hN : N ≤ 1000000000) (hq : ∀ a, q = some a → a.block ∉ fl) :
    Calls Try.prog 12 #[.slice q n c, lv] w (PbMade PRep ProgLot xs n lv fl Ls N w) := by
  have HL := Lib.hid hl
  have HLN := Lib.hid hn
  have b1 := hG.le
  have b2 := hG.max
  rw [hn] at b1
  have HA := Lib.hid hG.at_
  have HC := Lib.hid (show ∀ k (hk : k < xs.length), ∃ g off, q = some ⟨g, off, none⟩ ∧ w.cell? ⟨g, off + k, none⟩ = some (v64 xs[k]) from fun k hk => by
    obtain ⟨g, off, hq, hc⟩ := hG.at_.addr (by rw [List.length_map]; omega)
    exact ⟨g, off, hq, hc k _ (pn64_at hk)⟩)
  have HB := Lib.hid (show ∀ a, q = some a → ∀ W : World, Touch fl w W → xs ≠ [] → W.heap[a.block]? = w.heap[a.block]? from fun a e W ht hx => by
    obtain ⟨g, off, hq2, hc⟩ := hG.at_.addr (by rw [List.length_map]; exact List.length_pos_iff.2 hx)
    rw [hq2] at e
    cases e
    have := hc 0 _ (pn64_at (List.length_pos_iff.2 hx))
    exact ht.block g (World.block_lt_of_cell? w _ this) (hq _ hq2))
  have k1 := fun (k : Nat) (hk : k ≤ n) => cut_hI q n c k (by omega) w
  have HSH := Lib.hid (fun (h64 : n ≤ 64) => shuffled_any lv fl Ls N n w hl hN h64)
  clear hn hG hl hq
  go_enter Try.func12, Try.ntmps12
  go_wp2_with fail
  go_loop [13] (fun iv => ∃ i : Nat, iv = .int .i64 i ∧ i ≤ n ∧ Hid (PbNew (xs.take i))) (fun iv => n - (intOf iv).toNat)
  case atStart => exact ⟨0, rfl, by omega, Lib.hid ⟨by simp, by simp⟩⟩
  case round =>
    obtain ⟨i, rfl, hi, HP⟩ := hrel
    by_cases hlt : i < n
    · have hil : i < xs.length := by rw [HLN.out]; exact hlt
      obtain ⟨g, off, rfl, c1⟩ := HC.out i hil
      have jn : (0 : Int) ≤ (i : Int) ∧ (i : Int) < (n : Int) := by omega
      have k2 := k1 i hi
      have HPL := Lib.hid (place_any (xs.take i) i (some ⟨g, off, none⟩) c xs[i] w (by rw [List.length_take]; omega) (by rw [List.map_take]; exact at_first HA.out i) (by omega))
      have HMY := Lib.hid (may_any xs[i] w)
      by_cases hx : 1 ≤ xs[i] ∧ xs[i] ≤ 64
      · rw [decide_eq_true hx] at HMY
        by_cases hin : xs[i] ∈ xs.take i
        · have HNO := Lib.hid (PbNew.not_nd hil hin)
          rw [show plcIs (xs.take i) xs[i] = true from decide_eq_true (Rd.at_mem.2 hin)] at HPL
          generalize plcAt (xs.take i) xs[i] = k0 at *
          generalize xs[i] = x at *
          clear hx hin hil k1
          go_wp2_with fail
          refine HMY.out.mono ?_
          rintro e w' ⟨rfl, hw⟩
          obtain rfl := hw.symm
          clear hw
          go_wp2_with fail
          refine HPL.out.mono ?_
          rintro e w' ⟨rfl, hw⟩
          obtain rfl := hw.symm
          clear hw
          go_wp2_with fail
          go_ret2
          exact Or.inr ⟨HNO.out, rfl, fl, N, HL.out, Touch.refl _ _, From.refl _ _⟩
        · have HP2 := Lib.hid (PbNew.next HP.out hil hx hin)
          rw [show plcIs (xs.take i) xs[i] = false from decide_eq_false (fun h => hin (Rd.at_mem.1 h))] at HPL
          generalize plcAt (xs.take i) xs[i] = k0 at *
          generalize xs[i] = x at *
          clear hx hin hil k1 HP
          go_wp2_with fail
          refine HMY.out.mono ?_
          rintro e w' ⟨rfl, hw⟩
          obtain rfl := hw.symm
          clear hw
          go_wp2_with fail
          refine HPL.out.mono ?_
          rintro e w' ⟨rfl, hw⟩
          obtain rfl := hw.symm
          clear hw
          go_wp2_with fail
          go_round
          case rel => exact ⟨i + 1, by go_num, by omega, HP2⟩
          case measure => simp [intOf]; omega
      · have HNO := Lib.hid (PbNew.not_may hil hx)
        rw [decide_eq_false hx] at HMY
        generalize plcAt (xs.take i) xs[i] = k0 at *
        generalize plcIs (xs.take i) xs[i] = k3 at *
        generalize xs[i] = x at *
        clear hx hil k1
        go_wp2_with fail
        refine HMY.out.mono ?_
        rintro e w' ⟨rfl, hw⟩
        obtain rfl := hw.symm
        clear hw
        go_wp2_with fail
        go_ret2
        exact Or.inr ⟨HNO.out, rfl, fl, N, HL.out, Touch.refl _ _, From.refl _ _⟩
    · obtain rfl : i = n := by omega
      have hP : PbNew xs := by have := HP.out; rwa [List.take_of_length_le (by rw [HLN.out]; exact Nat.le_refl _)] at this
      have h64 : i ≤ 64 := by have := hP.ok.len; rw [← HLN.out]; exact this
      have HP2 := Lib.hid hP
      have HS := Lib.hid (HSH.out h64)
      have HPM := Lib.hid (fun W Bs p d (hA : At W q (xs.map v64)) (hnd : NdI p i d (shuf Ls N i) Bs 0 W) => (show Calls Try.prog 28 #[.slice q i c, .func (.func 49) #[] #[.pointer (some ⟨Bs, 0, none⟩)]] W (PermDone (Rd.ordered xs Ls N) W) from by
        have ho := Rd.shuf_order (Ls := Ls) (N := N) h64
        have := permuted_any xs (shuf Ls N i) i i q p c d Bs HLN.out ho.1 (by omega) (by omega) ho.2.1 W hA hnd
        unfold Rd.ordered
        rw [HLN.out]
        exact this))
      have HYL := Lib.hid (show (Rd.ordered xs Ls N).length = i from by rw [Rd.ordered_len (by rw [HLN.out]; exact h64), HLN.out])
      have HYO := Lib.hid (show Rd.OK ⟨Rd.ordered xs Ls N, 0⟩ from hP.ok.order Ls N)
      clear HSH k1 hP HP HC
      obtain ⟨ys, hys⟩ : ∃ ys, ys = Rd.ordered xs Ls N := ⟨_, rfl⟩
      rw [← hys] at HYL HYO HPM
      have HYE := Lib.hid hys
      clear hys
      go_wp2_with fail
      refine HS.out.mono ?_
      rintro e wA ⟨Bs, p, d, fl2, rfl, hnd, hlg, ht, hf⟩
      have ND := Lib.hid hnd
      have LG := Lib.hid hlg
      have TA := Lib.hid ht
      have FA := Lib.hid hf
      have HAA := Lib.hid (show At wA q (xs.map v64) from by
        by_cases hx : xs = []
        · rw [hx]; exact Or.inl rfl
        · exact HA.out.blocks fun a e => HB.out a e wA TA.out hx)
      clear hnd hlg ht hf HS
      go_wp2_with fail
      refine (HPM.out _ _ _ _ HAA.out ND.out).mono ?_
      rintro e wB ⟨v6, rfl, ho, hb⟩
      rw [HYL.out] at ho
      have hbase := own_base_w ho
      have LB := Lib.hid (larg_on LG.out hb)
      have TB := Lib.hid (TA.out.trans (Touch.of_below (fp := fl2) hb) FA.out)
      have OB := Lib.hid ho
      have HBS := Lib.hid hbase
      have HBB := Lib.hid hb
      obtain ⟨p6, c6, hv6, _⟩ := own_at_s ho
      subst hv6
      clear ho hb hbase HPM
      go_wp2_with fail
      go_ret2
      have BN : Below wB.heap.size wB (wB.alloc (.cells #[optr wB.heap.size, .slice p6 i c6, .int .i64 0] prt)) := (Below.refl _ _).alloc (Nat.le_refl _) _
      have hlow := larg_low LG.out
      unfold PbMade
      rw [← HYE.out]
      refine Or.inl ⟨HP2.out, wB.heap.size, wB.heap.size :: (Value.slice p6 i c6).ownBlock.toList, fl2, rfl, ⟨⟨.slice p6 i c6, ⟨rfl, Blk.new wB #[optr wB.heap.size, .slice p6 i c6, .int .i64 0] prt, ?_, fun e => by have := (HBS.out _ e).2; omega⟩⟩, HYO.out⟩, larg_on LB.out BN, ?_, TB.out.trans (Touch.of_below (fp := fl2) BN) FA.out, FA.out, ?_⟩
      · have h := own_on_p OB.out BN
        rw [← HYL.out] at h ⊢
        exact own_lessR h (Nat.zero_le _)
      · intro k a cc
        have h1 := hlow k cc
        rcases List.mem_cons.1 a with rfl | a
        · have := HBB.out.size; omega
        · have := (HBS.out k (by simpa using a)).1; omega
      · intro k hk
        have h1 := TA.out.size
        rcases List.mem_cons.1 hk with rfl | hk
        · have := HBB.out.size; omega
        · have := (HBS.out k (by simpa using hk)).1; omega
theorem probeOK : PProbe PRep ProgLot where
  held := prHeld
  ok := fun h => h.2
  new := fun xs n q c lv fl Ls N w hn hg hm hl hN hq => pnewR_any xs n q c lv fl Ls N w hn hg hm hl hN hq
  next := fun b fp s lv fl Ls N w h hl ha hN => pnext_any b fp s lv fl Ls N w h hl ha hN
  add := fun b fp s x lv fl Ls N w h hl ha hN => padd_any b fp s x lv fl Ls N w h hl ha hN
  rem := fun b fp s x w h => prem_any b fp s x w h
  order := fun b fp s w h => rorder_any b fp s w h
  told := fun b fp s w h => rtold_any b fp s w h
end
end Go.Proofs.Ytfoomffbjjcjjaa
