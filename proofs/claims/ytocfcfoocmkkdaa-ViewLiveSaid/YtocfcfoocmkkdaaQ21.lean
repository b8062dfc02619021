/-
  The program's Merge.
  The program's Same: slices.Equal over words.
  The program's Live and Alive: the nodes of the words that are wanted.
  The program's Live and Alive.
  The program's views do what is asked of them.
  An array of bytes among the arguments: opened to its numbers, and shut again.
  The last step of a law's row: it answered true, and left what was there as it was.
-/
import Derived.Test.YtocfcfoocmkkdaaQ20
import Derived.Test.YtocfcfoocmkkdaaQ9
import Derived.Test.YtocfcfoocmkkdaaQ12
import Derived.Test.YtocfcfoocmkkdaaQ10
import Derived.Test.YtocfcfoocmkkdaaQ1
import Derived.ProofKit
import Derived.OpenShut
namespace Go.Proofs.Ytocfcfoocmkkdaa
section
set_option linter.unusedSimpArgs false
set_option linter.unusedVariables false
open Go.RowKit Sha
theorem own_base_mono {w w' : World} {B n : Nat} {v : Value} {xs : List Value} (h : w'.ownsRow w.heap.size mt 3 v n xs) (hB : B ≤ w.heap.size) : w'.ownsRow B mt 3 v n xs := by
  refine ⟨h.1, ?_⟩
  rcases h.2 with h | ⟨g, cap, cur, hv, hg, h4⟩
  · exact Or.inl h
  · exact Or.inr ⟨g, cap, cur, hv, by omega, h4⟩
section
attribute [local go_sem ↓] execOp_loadM execOp_storeM execOp_eqlM execOp_neqM execOp_buildM
theorem collect_any (l now : List Mb) (n m c d : Nat) (q p : Option Addr) (Bi Bw : Nat) (hlo : Vw.Ok l) (hno : Vw.Ok now) (hn : l.length = n) (hm : now.length = m) (hsn : n ≤ 1000) (hsm : m ≤ 2000) (w : World) (hnd : NdM l now n m c d q p Bi Bw 0 w) :
    Calls Try.prog 33 #[.func (.func 51) #[] #[.pointer (some ⟨Bi, 0, none⟩), .pointer (some ⟨Bw, 0, none⟩)]] w fun e w' =>
      ∃ v, e = .returned v ∧ w'.ownsRow w.heap.size mt 3 v (Vw.fresh l now).length ((Vw.fresh l now).flatMap mc) ∧ Below w.heap.size w w' := by
  have HA := Lib.hid (appseq_any l now n m c d q p Bi Bw hlo hno hn hm hsn hsm w hnd)
  generalize Vw.fresh l now = fs at *
  clear hlo hno hn hm hnd hsn hsm
  go_enter Try.func33, Try.ntmps33
  go_wp2_with fail
  refine HA.out.mono ?_
  rintro e w1 ⟨v, rfl, ho, hb⟩
  go_wp2_with fail
  go_ret
  exact ⟨v, rfl, ho, hb⟩
theorem pnews_any (l now : List Mb) (n m c d : Nat) (q p : Option Addr) (w : World) (hl : GoodW w l q c) (hl' : GoodW w now p d) :
    Calls Try.prog 34 #[.slice q n c, .slice p m d] w fun e w' => ∃ Bi Bw, e = .returned (.func (.func 51) #[] #[.pointer (some ⟨Bi, 0, none⟩), .pointer (some ⟨Bw, 0, none⟩)]) ∧ NdM l now n m c d q p Bi Bw 0 w' ∧ Below w.heap.size w w' := by
  have HL := Lib.hid hl
  have HR := Lib.hid hl'
  clear hl hl'
  go_enter Try.func34, Try.ntmps34
  go_wp2_with fail
  go_ret
  have b1 : Below w.heap.size w (w.alloc (.cells #[.slice q n c] 22)) := (Below.refl _ _).alloc (Nat.le_refl _) _
  have b2 := b1.alloc b1.size (.cells #[.slice p m d] 22)
  refine ⟨_, _, rfl, ⟨?_, ?_, HR.out.below b2, HL.out.below b2⟩, b2⟩
  · have h2 := (Blk.new (w.alloc (.cells #[.slice q n c] 22)) #[.slice p m d] 22).cell 0
    rw [World.size_alloc] at h2
    exact h2
  · exact ((Blk.new w #[.slice q n c] 22).old (.cells #[.slice p m d] 22)).cell 0
set_option maxRecDepth 100000 in
set_option maxHeartbeats 16000000 in
theorem vmerge_any (l l' : List Mb) (n m : Nat) (q p : Option Addr) (c d : Nat) (w : World) (hn : l.length = n) (hm : l'.length = m) (hl : GoodW w l q c) (hl' : GoodW w l' p d) (hs : n ≤ 400) (hs' : m ≤ 400) :
    Calls Try.prog 10 #[.slice q n c, .slice p m d] w (MrgDone (Vw.mrg l l') w) := by
  have HL := Lib.hid hl
  have HR := Lib.hid hl'
  have HN := Lib.hid hn
  have HM := Lib.hid hm
  have b1 := hl.le
  have b2 := hl.max
  have b3 := hl'.le
  have b4 := hl'.max
  rw [hn] at b1
  rw [hm] at b3
  have HCK := Lib.hid (vcheck_any l n q c w hn hl hs)
  clear hl hl' hn hm
  go_enter Try.func10, Try.ntmps10
  by_cases hok : Vw.Ok l
  · rw [show Vw.err l = 0 from if_pos hok] at HCK
    have HOK := Lib.hid hok
    have HCL := Lib.hid (fun w' hb => clone_any l n q c w' HN.out (HL.out.below hb) (by omega))
    go_wp2_with fail
    refine HCK.out.mono ?_
    rintro e w1 ⟨rfl, hb1⟩
    have HB1 := Lib.hid hb1
    clear hb1 HCK hok
    go_wp2_with fail
    refine (HCL.out _ HB1.out).mono ?_
    rintro e w6 ⟨v6, rfl, ho6, hb6⟩
    have HO6 := Lib.hid ho6
    have HB6 := Lib.hid (below_next HB1.out hb6)
    clear ho6 hb6 HCL
    go_wp2_with fail
    go_loopw [21, 8] (fun i v wr => ∃ (k cnt : Nat) (L : List Mb), i = .int .i64 k ∧ k ≤ m ∧ cnt ≤ n + k ∧ Hid (∀ y ∈ l'.take k, y.May) ∧ Hid (L = Vw.put l (l'.take k)) ∧ Hid (L.length = cnt) ∧ Hid (wr.ownsRow w.heap.size mt 3 v cnt (L.flatMap mc)) ∧ Hid (Below w.heap.size w wr)) (fun i v _ => m - (intOf i).toNat)
    case atStart => exact ⟨0, n, l, rfl, Nat.zero_le _, by omega, Lib.hid (by simp), Lib.hid rfl, HN, Lib.hid (own_base_mono HO6.out HB1.out.size), HB6⟩
    case round =>
      clear HO6 HB6 HB1
      obtain ⟨k, cnt, L, rfl, hk, hcn, HMY, HE, HLN, HO, HB⟩ := hrel
      rename World => wr
      have HT := Lib.hid (show Vw.Ok L from by rw [HE.out]; exact (Vw.put_top HOK.out HMY.out).ok)
      obtain ⟨q1, c1, rfl, hg⟩ := own_good HO.out (fun x hx => (HT.out.1 x hx).ok)
      have HG := Lib.hid hg
      clear hg
      by_cases hlt : k < m
      · have hk1 : k < l'.length := by rw [HM.out]; exact hlt
        obtain ⟨b, off, hqq, hr⟩ := HR.out.get k hk1
        subst hqq
        have l0 := run_loadM (rangeM_on hr HB.out)
        have jk : (0 : Int) ≤ (k : Int) ∧ (k : Int) < (m : Int) := by omega
        have hxo := HR.out.ok l'[k] (List.getElem_mem hk1)
        have HE2 := Lib.hid (show Vw.ins L l'[k] = Vw.put l (l'.take (k + 1)) from by rw [HE.out, Vw.put_take l l' k hk1])
        have HIL := Vw.ins_length L l'[k]
        rw [HLN.out] at HIL
        have HY2 := Lib.hid (fun (hmay : l'[k].May) => show ∀ y ∈ l'.take (k + 1), y.May from by
          intro y hy
          rw [List.take_succ_eq_append_getElem hk1] at hy
          rcases List.mem_append.1 hy with hy | hy
          · exact HMY.out y hy
          · simp at hy; subst hy; exact hmay)
        have HNO := Lib.hid (fun (hmay : ¬ l'[k].May) => show Vw.mrg l l' = ([], [], 2) from if_neg (fun h => hmay (h.2 _ (List.getElem_mem hk1))))
        generalize l'[k] = x at *
        have s9 := put_run wr x
        have P9 := Lib.hid (Put.new wr x)
        generalize putM wr x = w7 at *
        have l5 := P9.out.load
        have HB7 := Lib.hid (below_next HB.out P9.out.below)
        have HO7 := Lib.hid (own_on_w HO.out P9.out.below)
        clear hr hk1 HE HO HG
        by_cases hmay : x.May
        · have HCK := Lib.hid (check_ok hmay)
          have HY3 := Lib.hid (HY2.out hmay)
          have HHD := Lib.hid (fun w' ho hB => heard_any L cnt c1 w.heap.size q1 x w' HT.out hxo hmay HLN.out ho hB (by omega))
          clear HY2 HNO HMY hmay
          go_wp2_with fail
          refine (HCK.out _).mono ?_
          rintro e w8 ⟨rfl, hb8⟩
          have HB8 := Lib.hid (below_next HB7.out hb8)
          have HO8 := Lib.hid (own_on_w HO7.out hb8)
          have P8 := Lib.hid (P9.out.on hb8)
          have l8 := P8.out.load
          have HQ := Lib.hid (HHD.out w8 HO8.out HB8.out.size)
          clear l0 l5 s9 hb8 HHD
          go_wp2_with fail
          refine HQ.out.mono ?_
          rintro e w9 ⟨v9, rfl, ho9, hb9⟩
          have HO9 := Lib.hid ho9
          have HB9 := Lib.hid (HB8.out.trans hb9)
          clear ho9 hb9 l8 HQ
          generalize Vw.ins L x = L2 at *
          go_wp2_with fail
          go_roundw
          case rel => exact ⟨k + 1, L2.length, L2, by go_num, by omega, by omega, HY3, HE2, Lib.hid rfl, HO9, HB9⟩
          case measure => simp [intOf]; omega
        · have HCK := Lib.hid (check_no hmay)
          have HV := Lib.hid (HNO.out hmay)
          clear HY2 HNO HMY hmay
          go_wp2_with fail
          refine (HCK.out _).mono ?_
          rintro e w8 ⟨rfl, hb8⟩
          have HB8 := Lib.hid (below_next HB7.out hb8)
          clear l0 l5 s9 hb8
          go_wp2_with fail
          try rw [Exit.noGoto_ret]
          go_ret3
          rw [HV.out]
          exact MrgDone.none HB8.out
      · obtain rfl : m = k := by omega
        have HF := Lib.hid (show ∀ x ∈ l', x.May from by have := HMY.out; rwa [List.take_of_length_le (by rw [HM.out]; exact Nat.le_refl _)] at this)
        have HEQ := Lib.hid (show Vw.put l l' = L from by rw [HE.out, List.take_of_length_le (by rw [HM.out]; exact Nat.le_refl _)])
        have HV := Lib.hid (show Vw.mrg l l' = (L, Vw.fresh l L, 0) from by rw [Vw.mrg_ok HOK.out HF.out, HEQ.out])
        have HNW := Lib.hid (pnews_any l L n cnt c c1 q q1 wr (HL.out.below HB.out) HG.out)
        have HCO := Lib.hid (fun Bi Bw w' hnd => collect_any l L n cnt c c1 q q1 Bi Bw HOK.out HT.out HN.out HLN.out (by omega) (by omega) w' hnd)
        clear HE HEQ hk hlt HMY
        go_wp2_with fail
        refine HNW.out.mono ?_
        rintro e w7 ⟨Bi, Bw, rfl, hnd, hb7⟩
        have HB7 := Lib.hid (below_next HB.out hb7)
        have HO7 := Lib.hid (own_on_w HO.out hb7)
        have HQ := Lib.hid (HCO.out Bi Bw w7 hnd)
        clear hnd hb7 HCO HNW
        go_wp2_with fail
        refine HQ.out.mono ?_
        rintro e w8 ⟨v2, rfl, ho8, hb8⟩
        have HB8 := Lib.hid (below_next HB7.out hb8)
        have HO8 := Lib.hid (own_on_w HO7.out hb8)
        have HF8 := Lib.hid (own_base_mono ho8 HB7.out.size)
        go_wp2_with fail
        go_ret3
        rw [HV.out]
        refine ⟨_, _, rfl, ?_, HF8.out, ?_, HB8.out⟩
        · show w8.ownsRow w.heap.size mt 3 _ L.length (L.flatMap mc)
          rw [HLN.out]; exact HO8.out
        · intro g h1 h2
          have e1 := (own_base_w HO7.out g h1).2
          have e2 := (own_base_w ho8 g h2).1
          omega
  · rw [show Vw.err l = 2 from if_neg hok] at HCK
    have HV := Lib.hid (show Vw.mrg l l' = ([], [], 2) from if_neg (fun h => hok h.1))
    go_wp2_with fail
    refine HCK.out.mono ?_
    rintro e w1 ⟨rfl, hb1⟩
    go_wp2_with fail
    go_ret3
    rw [HV.out]
    exact MrgDone.none hb1
end
end
section
set_option linter.unusedSimpArgs false
set_option linter.unusedVariables false
open Go.RowKit Sha
section
attribute [local go_sem ↓] execOp_loadM execOp_storeM execOp_eqlM execOp_neqM
set_option maxRecDepth 100000 in
set_option maxHeartbeats 2000000 in
theorem equal_any (l l' : List Mb) (n m : Nat) (q p : Option Addr) (c d : Nat) (w : World) (hn : l.length = n) (hm : l'.length = m) (hl : GoodW w l q c) (hl' : GoodW w l' p d) :
    Calls Try.prog 42 #[.slice q n c, .slice p m d] w (BoolDone (decide (l = l')) w) := by
  have HL := Lib.hid hl
  have HR := Lib.hid hl'
  have HN := Lib.hid hn
  have HM := Lib.hid hm
  have b1 := hl.le
  have b2 := hl.max
  have b3 := hl'.le
  have b4 := hl'.max
  rw [hn] at b1
  rw [hm] at b3
  clear hl hl'
  by_cases hnm : n = m
  · subst hnm
    have t0 : ((n : Int) != (n : Int)) = false := by simp
    clear hn hm
    go_enter Try.func42, Try.ntmps42
    go_wp2_with fail
    go_loopw [13] (fun i wr => ∃ k : Nat, i = .int .i64 k ∧ k ≤ n ∧ Hid (l.take k = l'.take k) ∧ Hid (Below w.heap.size w wr)) (fun i _ => n - (intOf i).toNat)
    case atStart => exact ⟨0, rfl, by omega, Lib.hid rfl, Lib.hid (Below.refl _ _)⟩
    case round =>
      obtain ⟨k, rfl, hk, HT, HB⟩ := hrel
      by_cases hlt : k < n
      · have hk1 : k < l.length := by rw [HN.out]; exact hlt
        have hk2 : k < l'.length := by rw [HM.out]; exact hlt
        obtain ⟨b, off, rfl, hr⟩ := HL.out.get k hk1
        obtain ⟨b', off', rfl, hr'⟩ := HR.out.get k hk2
        have jk : (0 : Int) ≤ (k : Int) ∧ (k : Int) < (n : Int) := by omega
        obtain ⟨I, W, hC⟩ := cls_of wr
        have hne : Nonempty I := hC.ne
        have m1 := fun i => run_loadM (rangeM_on hr (below_next HB.out (hC.back i)))
        have m2 := fun i => run_loadM (rangeM_on hr' (below_next HB.out (hC.back i)))
        have HC := Lib.hid hC
        have HS := Lib.hid (show (l.take (k + 1) = l'.take (k + 1)) ↔ l[k] = l'[k] from by
          rw [List.take_succ_eq_append_getElem hk1, List.take_succ_eq_append_getElem hk2, HT.out]
          exact ⟨fun e => by simpa using List.append_cancel_left e, fun e => by rw [e]⟩)
        have HNE := Lib.hid (show l[k] ≠ l'[k] → l ≠ l' from fun h e => h (by simp [e]))
        generalize l[k] = x at *
        generalize l'[k] = y at *
        clear hC hr hr' hk1 hk2 HT
        by_cases hxy : x = y
        · have HT2 := Lib.hid (HS.out.2 hxy)
          have HQ := run_neqM x y false (by simp [hxy])
          clear hxy HS HNE
          go_wp2_with fail
          refine wp_region_cls W (by kernel_rfl) (by kernel_rfl) HC.out.one ?_
          repeat go_big_quiet_step (fail)
          refine wpQuiet_nil ?_
          rintro _ ⟨mm, rfl⟩
          have B2 := Lib.hid (below_next HB.out (HC.out.back mm))
          clear m1 m2 HQ HC
          generalize W mm = wv at *
          go_wp2_with fail
          go_roundw
          case rel => exact ⟨k + 1, by go_num, by omega, HT2, B2⟩
          case measure => simp [intOf]; omega
        · have HV := Lib.hid (decide_eq_false (HNE.out hxy))
          have HQ := run_neqM x y true (by simp [hxy])
          clear hxy HS HNE
          go_wp2_with fail
          refine wp_region_cls W (by kernel_rfl) (by kernel_rfl) HC.out.one ?_
          repeat go_big_quiet_step (fail)
          refine wpQuiet_nil ?_
          rintro _ ⟨mm, rfl⟩
          have B2 := Lib.hid (below_next HB.out (HC.out.back mm))
          clear m1 m2 HQ HC
          generalize W mm = wv at *
          go_wp2_with fail
          try rw [Exit.noGoto_ret]
          go_ret
          exact ⟨by rw [HV.out]; rfl, B2.out⟩
      · obtain rfl : n = k := by omega
        have HV := Lib.hid (show decide (l = l') = true from decide_eq_true (by
          have := HT.out
          rwa [List.take_of_length_le (by rw [HN.out]; exact Nat.le_refl _), List.take_of_length_le (by rw [HM.out]; exact Nat.le_refl _)] at this))
        clear HT
        go_wp2_with fail
        go_ret
        exact ⟨by rw [HV.out]; rfl, HB.out⟩
  · have t0 : ((n : Int) != (m : Int)) = true := by simpa using (show (n : Int) ≠ (m : Int) by omega)
    have HV := Lib.hid (show decide (l = l') = false from decide_eq_false (fun e => hnm (by rw [← hn, ← hm, e])))
    clear hn hm hnm
    go_enter Try.func42, Try.ntmps42
    go_wp2_with fail
    go_ret
    exact ⟨by rw [HV.out]; rfl, Below.refl _ _⟩
theorem vsame_any (l l' : List Mb) (n m : Nat) (q p : Option Addr) (c d : Nat) (w : World) (hn : l.length = n) (hm : l'.length = m) (hl : GoodW w l q c) (hl' : GoodW w l' p d) :
    Calls Try.prog 22 #[.slice q n c, .slice p m d] w (BoolDone (decide (l = l')) w) := by
  have HE := Lib.hid (equal_any l l' n m q p c d w hn hm hl hl')
  have b1 := hl.le
  have b2 := hl.max
  have b3 := hl'.le
  have b4 := hl'.max
  rw [hn] at b1
  rw [hm] at b3
  generalize decide (l = l') = e at *
  clear hn hm hl hl'
  go_enter Try.func22, Try.ntmps22
  go_wp2_with fail
  refine HE.out.mono ?_
  rintro e w1 ⟨rfl, hb1⟩
  go_wp2_with fail
  go_ret
  exact ⟨rfl, hb1⟩
end
end
section
set_option linter.unusedSimpArgs false
set_option linter.unusedVariables false
open Go.RowKit Sha
section
attribute [local go_sem ↓] execOp_loadM execOp_storeM execOp_eqlM execOp_neqM
set_option maxRecDepth 100000 in
set_option maxHeartbeats 4000000 in
theorem nodes_any (V : CheckOK) (f : Mb → Bool) (fn : Nat) (hf : ∀ (x : Mb) (w : World), Calls Try.prog fn #[mv x] w fun e w' => e = .returned (.bool (f x)) ∧ Below w.heap.size w w') (hcf : ∀ (args : Array Value) (w : World), (callFunc fn args).run Try.prog w = .ok (.enter fn args) w) (l : List Mb) (n : Nat) (q : Option Addr) (c : Nat) (w : World) (hn : l.length = n) (hl : GoodW w l q c) (hs : n ≤ 400) :
    Calls Try.prog 39 #[.slice q n c, .func (.func fn) #[] #[]] w (NumsDone w (if Vw.Ok l then (l.filter f).map (fun x => x.I) else []) w) := by
  have HL := Lib.hid hl
  have HN := Lib.hid hn
  have b1 := hl.le
  have b2 := hl.max
  rw [hn] at b1
  have HCK := Lib.hid (fun w' hb => V l n q c w' hn (hl.below hb) hs)
  have HF := Lib.hid hf
  clear hl hn hf
  by_cases hok : Vw.Ok l
  · rw [show Vw.err l = 0 from if_pos hok] at HCK
    rw [if_pos hok]
    clear hok
    go_enter Try.func39, Try.ntmps39
    go_wp2_with fail
    refine (HCK.out _ (Below.refl _ _)).mono ?_
    rintro e w1 ⟨rfl, hb1⟩
    have HB1 := Lib.hid hb1
    clear hb1 HCK
    go_wp2_with fail
    go_loopw [13, 5] (fun i v wr => ∃ (k cnt : Nat), i = .int .i64 k ∧ k ≤ n ∧ cnt ≤ k ∧ Hid (((l.take k).filter f).length = cnt) ∧ Hid (Own64 wr w.heap.size 3 v cnt ((((l.take k).filter f).map (·.I)).map v64)) ∧ Hid (Below w.heap.size w wr)) (fun i v _ => n - (intOf i).toNat)
    case atStart => exact ⟨0, 0, rfl, by omega, by omega, Lib.hid (by simp), Lib.hid (Own64.nil _ _ _), HB1⟩
    case round =>
      clear HB1
      obtain ⟨k, cnt, rfl, hk, hck, HCN, HO, HB⟩ := hrel
      by_cases hlt : k < n
      · have hk1 : k < l.length := by rw [HN.out]; exact hlt
        obtain ⟨b, off, rfl, hr⟩ := HL.out.get k hk1
        have l0 := run_loadM (rangeM_on hr HB.out)
        have jk : (0 : Int) ≤ (k : Int) ∧ (k : Int) < (n : Int) := by omega
        have HTK := Lib.hid (show l.take (k + 1) = l.take k ++ [l[k]] from List.take_succ_eq_append_getElem hk1)
        generalize l[k] = x at *
        have s9 := put_run wr x
        have P9 := Lib.hid (Put.new wr x)
        have HO5 := Lib.hid (own64_on HO.out P9.out.below)
        have HB5 := Lib.hid (below_next HB.out P9.out.below)
        generalize putM wr x = w5 at *
        have l5 := P9.out.load
        have hc5 := hcf #[mv x] w5
        have HW := Lib.hid (HF.out x w5)
        obtain ⟨bl, hbl⟩ : ∃ bl, bl = f x := ⟨_, rfl⟩
        rw [← hbl] at HW
        have hfx : f x = bl := hbl.symm
        clear hr hk1 hbl
        go_wp2_with fail
        refine HW.out.mono ?_
        rintro e w6 ⟨rfl, hb6⟩
        have HB6 := Lib.hid (below_next HB5.out hb6)
        have HO6 := Lib.hid (own64_on HO5.out hb6)
        have P6 := Lib.hid (P9.out.on hb6)
        clear hb6 l5 s9 l0
        cases bl with
        | true =>
          have HCN2 := Lib.hid (show ((l.take (k + 1)).filter f).length = cnt + 1 from by rw [HTK.out, List.filter_append]; simp [hfx, HCN.out])
          have HV2 := Lib.hid (show ((((l.take k).filter f).map (·.I)).map v64) ++ [.int .i64 x.I] = ((((l.take (k + 1)).filter f).map (·.I)).map v64) from by rw [HTK.out, List.filter_append]; simp [hfx])
          clear hfx
          have HAT := Lib.hid (at_one w6 (.int .i64 x.I) 3)
          have HO7 := Lib.hid (HO6.out.alloc (.cells #[.int .i64 x.I] 3))
          have HB7 := Lib.hid (below_alloc0 HB6.out (.cells #[.int .i64 x.I] 3))
          have cI := rangeM_I (rangeM_of P6.out.blk)
          go_wp2_with (refine wpList_app64 rfl _ _ 32 rfl w.heap.size 3 Try.underlying32 knum_info _ cnt _ rfl HO7.out _ 1 1 [.int .i64 x.I] rfl HAT.out rfl (fun h => by cases h) (Nat.le_refl _) (by intro u hu; simp at hu; exact ⟨_, hu⟩) (by omega) (by unfold maxLen; omega) HB7.out.size ?_; intro v' w8 hv' hg' hb' hs')
          have HB8 := Lib.hid (HB7.out.trans hb')
          go_roundw
          case rel => exact ⟨k + 1, cnt + 1, by go_num, by omega, by omega, HCN2, Lib.hid (by rw [← HV2.out]; exact hv'), HB8⟩
          case measure => simp [intOf]; omega
        | false =>
          have HCN2 := Lib.hid (show ((l.take (k + 1)).filter f).length = cnt from by rw [HTK.out, List.filter_append]; simp [hfx, HCN.out])
          have HV2 := Lib.hid (show ((((l.take k).filter f).map (·.I)).map v64) = ((((l.take (k + 1)).filter f).map (·.I)).map v64) from by rw [HTK.out, List.filter_append]; simp [hfx])
          clear hfx
          go_wp2_with fail
          go_roundw
          case rel => exact ⟨k + 1, cnt, by go_num, by omega, by omega, HCN2, Lib.hid (by rw [← HV2.out]; exact HO6.out), HB6⟩
          case measure => simp [intOf]; omega
      · obtain rfl : n = k := by omega
        have HE := Lib.hid (show (((l.take n).filter f).map (·.I)) = ((l.filter f).map (·.I)) from by rw [List.take_of_length_le (by rw [HN.out]; exact Nat.le_refl _)])
        have HLN := Lib.hid (show cnt = ((l.filter f).map (·.I)).length from by rw [← HE.out, List.length_map, HCN.out])
        go_wp2_with fail
        go_ret
        exact ⟨_, rfl, by rw [← HLN.out, ← HE.out]; exact HO.out, HB.out⟩
  · rw [show Vw.err l = 2 from if_neg hok] at HCK
    rw [if_neg hok]
    clear hok
    go_enter Try.func39, Try.ntmps39
    go_wp2_with fail
    refine (HCK.out _ (Below.refl _ _)).mono ?_
    rintro e w1 ⟨rfl, hb1⟩
    go_wp2_with fail
    go_ret
    exact ⟨_, rfl, Own64.nil _ _ _, hb1⟩
end
end
section
set_option linter.unusedSimpArgs false
set_option linter.unusedVariables false
open Go.RowKit Sha
section
attribute [local go_sem ↓] execOp_loadM execOp_storeM execOp_eqlM execOp_neqM
theorem cf_live (args : Array Value) (w : World) : (callFunc 29 args).run Try.prog w = .ok (.enter 29 args) w := by go_simp
theorem cf_alive (args : Array Value) (w : World) : (callFunc 40 args).run Try.prog w = .ok (.enter 40 args) w := by go_simp
theorem alive1_any (x : Mb) (w : World) : Calls Try.prog 40 #[mv x] w fun e w' => e = .returned (.bool (x.S == 1)) ∧ Below w.heap.size w w' := by
  go_enter Try.func40, Try.ntmps40
  go_wp2_with fail
  go_ret
  exact ⟨rfl, (Below.refl _ _).alloc (Nat.le_refl _) _⟩
theorem vlive_any (V : CheckOK) (l : List Mb) (n : Nat) (q : Option Addr) (c : Nat) (w : World) (hn : l.length = n) (hl : GoodW w l q c) (hs : n ≤ 400) : Calls Try.prog 15 #[.slice q n c] w (NumsDone w (Vw.live l) w) := by
  have h := nodes_any V Mb.live 29 live_any cf_live l n q c w hn hl hs
  have h : Calls Try.prog 39 #[.slice q n c, .func (.func 29) #[] #[]] w (NumsDone w (Vw.live l) w) := h
  have HE := Lib.hid h
  generalize Vw.live l = z at *
  clear h hn hl
  go_enter Try.func15, Try.ntmps15
  go_wp2_with fail
  refine HE.out.mono ?_
  rintro e w1 ⟨v, rfl, ho, hb1⟩
  go_wp2_with fail
  go_ret
  exact ⟨v, rfl, ho, hb1⟩
theorem valive_any (V : CheckOK) (l : List Mb) (n : Nat) (q : Option Addr) (c : Nat) (w : World) (hn : l.length = n) (hl : GoodW w l q c) (hs : n ≤ 400) : Calls Try.prog 16 #[.slice q n c] w (NumsDone w (Vw.alive l) w) := by
  have h := nodes_any V (fun x => x.S == 1) 40 alive1_any cf_alive l n q c w hn hl hs
  have h : Calls Try.prog 39 #[.slice q n c, .func (.func 40) #[] #[]] w (NumsDone w (Vw.alive l) w) := h
  have HE := Lib.hid h
  generalize Vw.alive l = z at *
  clear h hn hl
  go_enter Try.func16, Try.ntmps16
  go_wp2_with fail
  refine HE.out.mono ?_
  rintro e w1 ⟨v, rfl, ho, hb1⟩
  go_wp2_with fail
  go_ret
  exact ⟨v, rfl, ho, hb1⟩
end
end
section
theorem viewOK : ViewOK where
  check := vcheck_any
  get := fun l n q c nd w hn hl hs hnd => vget_any vcheck_any l n q c nd w hn hl hs hnd
  live := fun l n q c w hn hl hs => vlive_any vcheck_any l n q c w hn hl hs
  alive := fun l n q c w hn hl hs => valive_any vcheck_any l n q c w hn hl hs
  same := fun l l' n m q p c d w hn hm hl hl' _ _ => vsame_any l l' n m q p c d w hn hm hl hl'
  merge := fun l l' n m q p c d w hn hm hl hl' hs hs' => vmerge_any l l' n m q p c d w hn hm hl hl' hs hs'
end
section
set_option linter.unusedSimpArgs false
set_option linter.unusedVariables false
open Go.ChangeShapes Go.WideShapes Go.ChangeAt Go.RowKit
section
variable {H : Type} {enc : TypeId × Value → H} {P : Program} {w : World} {base : Nat} {spare : Nat → Bool} {held : Bool}
theorem mapM_some_length' {α β : Type} {f : α → Option β} : ∀ {l : List α} {ys : List β}, l.mapM f = some ys → ys.length = l.length
  | [], ys, h => by simp at h; simp [h]
  | a :: l, ys, h => by
    rw [List.mapM_cons] at h
    cases ha : f a with
    | none => simp [ha] at h
    | some y =>
      cases hl : l.mapM f with
      | none => simp [ha, hl] at h
      | some zs =>
        simp [ha, hl] at h
        subst h
        simp [mapM_some_length' hl]
/-- An array of bytes by value: its numbers. -/
theorem open_bytes {r : Reach} {b0 : Nat} {t e : TypeId} {n : Nat} {v : Value} {d : DataW H} {p : List MemPlace} (ht : P.underlying t = some (.array n e)) (he : P.underlying e = some (.int .u8)) (hce : P.cellsOf e = 1) (hct : P.cellsOf t = n)
    (hv : Value.okWide P w r b0 t v) (h : DataW.Trod enc P w base spare held t v d p) :
    ∃ xs : List Int, v = .agg (xs.map (Value.int .u8)).toArray ∧ xs.length = n ∧ (∀ m ∈ xs, 0 ≤ m ∧ m ≤ 255) ∧ d = .agg (xs.map fun m => .lit (.int .u8 m)) ∧ p = [] := by
  simp only [Value.okWide, ht] at hv
  obtain ⟨cs, rfl, hsz, _⟩ := hv
  obtain ⟨fuel, hf⟩ := h
  obtain ⟨ys, m, _, hx, hl, hyl, hel⟩ := DataW.trod_array ht hf
  simp only [Value.cells] at hl hel
  simp only [hce, Nat.mul_one] at hel
  have hcl : cs.toList.length = n := by rw [hl, hct]
  have each : ∀ i, i < n → ∃ z, cs.toList[i]? = some (.int .u8 z) ∧ ys[i]? = some (.lit (.int .u8 z), []) ∧ 0 ≤ z ∧ z ≤ 255 := by
    intro i hi
    have h1 := hel i hi
    have h2 : ∃ y, ys[i]? = some y := ⟨ys[i], List.getElem?_eq_getElem (by omega)⟩
    obtain ⟨y, hy⟩ := h2
    rw [hy] at h1
    obtain ⟨z, hc, rfl, hwf⟩ := DataW.trod_int he h1
    refine ⟨z, ?_, hy, bounds_u8 hwf⟩
    have := congrArg (·[0]?) hc
    simpa [List.getElem?_take, List.getElem?_drop] using this
  refine ⟨(cs.toList.map fun c => match c with | .int _ z => z | _ => 0), ?_, by simpa using hcl, ?_, ?_, ?_⟩
  · congr 1
    apply Array.ext'
    simp only [List.map_map]
    apply List.ext_getElem?
    intro i
    rw [List.getElem?_map]
    by_cases hi : i < n
    · obtain ⟨z, hz, _⟩ := each i hi
      simp [hz]
    · rw [List.getElem?_eq_none (by omega)]; rfl
  · intro q hq
    obtain ⟨c, hc, rfl⟩ := List.mem_map.1 hq
    obtain ⟨i, hi, hci⟩ := List.mem_iff_getElem.1 hc
    obtain ⟨z, hz, _, hb⟩ := each i (by omega)
    rw [List.getElem?_eq_getElem hi, hci] at hz
    cases hz
    exact hb
  · have h1 := congrArg Prod.fst hx
    simp only at h1
    rw [h1]
    congr 1
    apply List.ext_getElem?
    intro i
    rw [List.getElem?_map, List.getElem?_map, List.getElem?_map]
    by_cases hi : i < n
    · obtain ⟨z, hz, hy, _⟩ := each i hi
      simp [hz, hy]
    · rw [List.getElem?_eq_none (by omega), List.getElem?_eq_none (by omega)]; rfl
  · have h1 := congrArg Prod.snd hx
    simp only at h1
    rw [h1]
    apply List.flatMap_eq_nil_iff.2
    intro y hy
    obtain ⟨i, hi, hyi⟩ := List.mem_iff_getElem.1 hy
    obtain ⟨z, _, hz, _⟩ := each i (by omega)
    rw [List.getElem?_eq_getElem hi, hyi] at hz
    cases hz
    rfl
theorem mapM_range_some {α : Type} (f : Nat → Option α) (g : Nat → α) : ∀ (l : List Nat), (∀ i ∈ l, f i = some (g i)) → l.mapM f = some (l.map g)
  | [], _ => by simp
  | a :: l, h => by
    rw [List.mapM_cons, h a (by simp), mapM_range_some f g l (fun i hi => h i (by simp [hi]))]
    simp
theorem shut_bytes {t e : TypeId} {n : Nat} (ht : P.underlying t = some (.array n e)) (he : P.underlying e = some (.int .u8)) (hce : P.cellsOf e = 1) (hct : P.cellsOf t = n)
    (xs : List Int) (hl : xs.length = n) (hb : ∀ m ∈ xs, 0 ≤ m ∧ m ≤ 255) :
    DataW.Trod enc P w base spare held t (.agg (xs.map (Value.int .u8)).toArray) (.agg (xs.map fun m => .lit (.int .u8 m))) [] := by
  refine ⟨2, ?_⟩
  have key : ∀ i ∈ List.range n, DataW.trod enc P w base spare held 1 e (((xs.map (Value.int .u8)).drop i).take 1) = some (.lit (.int .u8 (xs.getD i 0)), []) := by
    intro i hi
    have hi' : i < xs.length := by rw [hl]; exact List.mem_range.1 hi
    have h1 : ((xs.map (Value.int .u8)).drop i).take 1 = [.int .u8 xs[i]] := by
      rw [List.drop_eq_getElem_cons (by simpa using hi')]; simp
    have h2 := hb xs[i] (List.getElem_mem hi')
    have h3 : (Lit.int .u8 xs[i]).wf = true := WalkArith.wf_u8 (by omega)
    rw [h1]
    simp [DataW.trod, he, h3, hi']
  have hm := mapM_range_some (fun i => DataW.trod enc P w base spare held 1 e (((xs.map (Value.int .u8)).drop i).take 1)) (fun i => ((.lit (.int .u8 (xs.getD i 0)), []) : DataW H × List MemPlace)) (List.range n) key
  have hcells : (Value.agg (xs.map (Value.int .u8)).toArray).cells.toList = xs.map (Value.int .u8) := by simp [Value.cells]
  rw [hcells]
  unfold DataW.trod
  simp only [ht, hce, Nat.mul_one, hct, List.length_map, hl, if_true, hm]
  simp only [Option.map_some, List.map_map, Option.some.injEq, Prod.mk.injEq]
  refine ⟨?_, by simp⟩
  congr 1
  apply List.ext_getElem?
  intro i
  rw [List.getElem?_map, List.getElem?_map]
  by_cases hi : i < n
  · simp [hi, hl]
  · simp [hi, hl]
end
end
section
set_option linter.unusedSimpArgs false
set_option linter.unusedVariables false
open Go.ChangeShapes Go.WideShapes Go.ChangeAt Go.RowKit
section
variable {H : Type} {enc : TypeId × Value → H} {P : Program}
theorem trodAll_carry {W W' : World} (hl : laidOutB P = true) (hb : Below W.heap.size W W') :
    ∀ {ts : List TypeId} {vs : List Value} {ds : List (DataW H)} {ps : List MemPlace}, DataW.TrodAll enc P W 0 (fun _ => true) true ts vs ds ps → (∀ t ∈ ts, P.readableRec t = true ∧ t < P.types.size) → (∀ x ∈ ps, x.block < W.heap.size) →
      DataW.TrodAll enc P W' 0 (fun b => decide (b < W.heap.size)) true ts vs ds ps
  | [], vs, ds, ps, h, _, _ => by
    obtain ⟨rfl, rfl, rfl⟩ := trodAll_nil h
    exact trodAll_mk0
  | t :: ts, vs, ds, ps, h, hr, hp => by
    obtain ⟨v, vs', d, ds', p, p', rfl, rfl, rfl, h1, h2⟩ := trodAll_cons h
    exact ⟨p, p', Below.trod hl (hr t (by simp)).1 (hr t (by simp)).2 h1 hb (fun x hx => hp x (by simp [hx])), trodAll_carry hl hb h2 (fun t ht => hr t (by simp [ht])) (fun x hx => hp x (by simp [hx])), rfl⟩
/-- What a law's row asks behind the call. -/
theorem law_post {f : Func} {s : ChangeSpec} {W W' : World} {args : Array Value} {ds : List (DataW H)} {before : List MemPlace} {tb : TypeId}
    (hW : DataW.Whole enc P f.params.toList s.vars false W args.toList ds [] before) (hv : s.vars = []) (hfn : s.fn H (ds ++ []) = { results := [.lit (.bool true)], args := ds })
    (hr : f.resultTypes = #[tb]) (hu : P.underlying tb = some .bool) (hl : laidOutB P = true) (hps : ∀ t ∈ f.params.toList, P.readableRec t = true ∧ t < P.types.size) (hb : Below W.heap.size W W') :
    s.post enc P f false true false false W args (.bool true) W' := by
  have hlt : ∀ p ∈ before, p.block < W.heap.size := fun p hp => hW.lt p hp
  have hW2 := hW
  obtain ⟨p, q, hA, hV, hbe, _, _⟩ := hW2
  rw [hv] at hV
  obtain ⟨_, hq⟩ := trodVars_none hV
  have hbp : before = p := by rw [hbe, hq, List.append_nil]
  refine ⟨ds, [], before, [], p, [], hW, ?_, ?_, ?_, ?_, fun h => by cases h⟩
  · rw [hr, hfn]
    exact trodAll_mk1 (shut_bool hu true)
  · rw [hfn]
    exact trodAll_carry hl hb hA hps (fun x hx => hlt x (by rw [hbp]; exact hx))
  · rw [hv, hfn]; rfl
  · refine World.keptBut_mono (fun x hx => ⟨hx, ?_⟩) (hb.frame (· ∈ before))
    right; left
    rw [← hbp]; exact hx
end
end
end Go.Proofs.Ytocfcfoocmkkdaa
