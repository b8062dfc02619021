/-
  The reference of the wire package: items (written by mkrwg15.py).
  A number is read as an item.
  What an item may be: the contracts of named and bounded.
  Which errors an item beyond its letter's bounds has: the contract of bounded.
-/
import Derived.Test.YtbogjfmefkhglaaGreatP8
import Derived.Deep.CutRange
import Derived.Test.YtbogjfmefkhglaaGreatP5
import Derived.Test.YtbogjfmefkhglaaGreatP4
import Derived.WalkSpells
import Derived.Deep.LoopGhost
import Derived.ScopeJumps
import Derived.BigQuiet
import Derived.Deep.QuietTactic
import Derived.Test.YtbogjfmefkhglaaGreatP2
import Derived.Laws.CopyOwn
import Derived.Deep.OwnRows
import Derived.IntWalk
import Derived.WalkLawsBesides
import Derived.Test.YtbogjfmefkhglaaGreatP1
namespace Go.Proofs.YtbogjfmefkhglaaGreat
section
set_option linter.unusedSimpArgs false
set_option linter.unusedVariables false
open Go.RowKit Sha Nte
open Fld (Itm)
section
attribute [local go_sem ↓] execOp_boxNote execOp_loadId execOp_nmakeItem execOp_buildItems
set_option maxRecDepth 100000 in
set_option maxHeartbeats 8000000 in
theorem ritems_any (x : Not) (h : NHd) (w : World) (hg : NGood w x h) (hf : WFew x) (hz0 : ∀ j, (headsH x ++ ((letters x.K).take j).flatMap (hdrs x h)).length ≤ 3000) :
    Calls Tryz.prog 57 #[.agg (ncells x h).toArray] w (fun e w' => ∃ v, e = .returned v ∧ w'.ownsRow w.heap.size 118 34 v (itemsH15 x h).length ((itemsH15 x h).flatMap cellsI) ∧ Below w.heap.size w w') := by
  obtain ⟨g, w1, r1, hg1, hl1, K1, B1⟩ := box_note w x h
  have HX := Lib.hid hg
  have HFW := Lib.hid hf
  have HK1 := Lib.hid K1
  have HB1 := Lib.hid B1
  have HZ := Lib.hid hz0
  have hsz := kHas_size x.K
  have hnm := kHas_nums x.K
  have HIS := Lib.hid (letters_isT x.K)
  unfold itemsH15
  have a0 : w1.cell? ⟨g, 0, none⟩ = some (nic x.K) := nblk_cells K1.range 0 rfl
  have a1 : w1.cell? ⟨g, 1, none⟩ = some (nic x.F) := nblk_cells K1.range 1 rfl
  have a2 : w1.cell? ⟨g, 2, none⟩ = some (nic x.T) := nblk_cells K1.range 2 rfl
  have HK := Lib.hid (nblk_int w1 [x.K, x.F, x.T])
  have HS2 := Lib.hid (Stays.below (t := 118) (B := w.heap.size) ((Below.refl _ w1).alloc (Nat.le_refl _) (.cells ([x.K, x.F, x.T].map nic).toArray 3)) B1.size)
  have HB2 := Lib.hid (show w.heap.size ≤ (w1.alloc (.cells ([x.K, x.F, x.T].map nic).toArray 3)).heap.size from by have := B1.size; simp; omega)
  have HF := Lib.hid (show ∀ n ∈ [x.K, x.F, x.T], fit n from by
    have g := HX.out.ok
    intro n hn
    simp at hn
    rcases hn with rfl | rfl | rfl
    · exact g.K
    · exact g.F
    · exact g.T)
  have HL := Lib.hid (fun w => rletters_any x.K w)
  have HKD := Lib.hid (show ∀ w3, Stays 118 w.heap.size w1 w3 → w3.cell? ⟨g, 0, none⟩ = some (nic x.K) from fun w3 hs => nblk_cells (hs.blk HK1.out note_ne_item).range 0 rfl)
  generalize kHas x.K = t at *
  generalize letters x.K = l at *
  have HNM := Lib.hid hnm
  clear hg hf K1 B1 hg1 hl1 hnm hz0
  go_enter Tryz.func57, Tryz.ntmps57
  go_wp2_with fail
  refine (rput15_any w.heap.size [] (.slice none 0 0) [x.K, x.F, x.T] 3 rfl w1.heap.size _ HF.out (World.ownsRow_nil _ _ _ _) HK.out HB2.out (by simp) (by omega)).mono ?_
  rintro e w3 ⟨v3, rfl, ho3, hs3⟩
  have HO3 := Lib.hid (show w3.ownsRow w.heap.size 118 34 v3 (headsH x ++ (l.take 0).flatMap (hdrs x h)).length ((headsH x ++ (l.take 0).flatMap (hdrs x h)).flatMap cellsI) from by simpa [headsH] using ho3)
  have HS3 := Lib.hid (HS2.out.trans hs3)
  have k3 := HKD.out _ HS3.out
  clear ho3 hs3 HS2 HB2 HF HK HKD a0 a1 a2
  go_wp2_with fail
  refine (HL.out _).mono ?_
  rintro e w4 ⟨rfl, hb4⟩
  have HO4 := Lib.hid (nrow_below HO3.out hb4)
  have HS4 := Lib.hid (HS3.out.trans (Stays.below (t := 118) hb4 (Nat.le_trans HB1.out.size HS3.out.size)))
  clear hb4 HO3 HS3 k3 HL r1
  go_wp2_with fail
  go_loopw [3, 5] (fun vv i wr => ∃ (j : Nat) (u : Value), u = vv ∧ i = .int .i64 j ∧ j ≤ t.size ∧ Hid (wr.ownsRow w.heap.size 118 34 u (headsH x ++ (l.take j).flatMap (hdrs x h)).length ((headsH x ++ (l.take j).flatMap (hdrs x h)).flatMap cellsI)) ∧ Hid (Stays 118 w.heap.size w1 wr)) (fun _ i _ => t.size - (intOf i).toNat)
  case atStart => exact ⟨0, v3, rfl, rfl, by omega, HO4, HS4⟩
  case round =>
    obtain ⟨j, u, rfl, rfl, hj, HO, HS⟩ := hrel
    clear HO4 HS4
    by_cases hp : j < t.size
    · obtain ⟨ch, hd⟩ := drop_some t j hp
      have hby := run_letter t j ch _ hd
      have HG := Lib.hid (show l[j]? = some ch by rw [← HNM.out, ← List.head?_drop, hd]; rfl)
      have hc := isT_or (HIS.out ch (List.mem_of_getElem? HG.out))
      have HTK := Lib.hid (show headsH x ++ (l.take (j + 1)).flatMap (hdrs x h) = (headsH x ++ (l.take j).flatMap (hdrs x h)) ++ hdrs x h ch by
        rw [List.take_add_one, HG.out]; simp)
      have hzl := HZ.out j
      have HBr := Lib.hid (Nat.le_trans HB1.out.size HS.out.size)
      have HBw := Lib.hid (HS.out.bel _ HB1.out)
      have HKr := Lib.hid (HS.out.blk HK1.out note_ne_item)
      clear hd HG
      generalize headsH x ++ (l.take j).flatMap (hdrs x h) = zs at *
      rcases hc with rfl | rfl | rfl | rfl | rfl | rfl | rfl | rfl | rfl | rfl
      · have a0 : wr.cell? ⟨g, 3, none⟩ = some (nic x.C1) := nblk_cells HKr.out.range 3 rfl
        have a1 : wr.cell? ⟨g, 4, none⟩ = some (nic x.C2) := nblk_cells HKr.out.range 4 rfl
        have a2 : wr.cell? ⟨g, 5, none⟩ = some (nic x.C3) := nblk_cells HKr.out.range 5 rfl
        have HD := Lib.hid (show hdrs x h 99 = [x.C1, x.C2, x.C3].map nNh from hdrs_N (by decide) (by simp [its]))
        have HF := Lib.hid (show ∀ n ∈ [x.C1, x.C2, x.C3], fit n from by
          have g := HX.out.ok
          intro n hn
          simp at hn
          rcases hn with rfl | rfl | rfl
          · exact g.C.1
          · exact g.C.2.1
          · exact g.C.2.2)
        have HK := Lib.hid (nblk_int wr [x.C1, x.C2, x.C3])
        have HV2 := Lib.hid (HO.out.alloc (.cells ([x.C1, x.C2, x.C3].map nic).toArray 3))
        have HS2 := Lib.hid (HS.out.trans (Stays.below (t := 118) ((Below.refl _ wr).alloc (Nat.le_refl _) (.cells ([x.C1, x.C2, x.C3].map nic).toArray 3)) HBr.out))
        have HB2 := Lib.hid (show w.heap.size ≤ (wr.alloc (.cells ([x.C1, x.C2, x.C3].map nic).toArray 3)).heap.size from by have := HBr.out; simp; omega)
        go_wp2_with fail
        refine (rput15_any w.heap.size zs u [x.C1, x.C2, x.C3] 3 rfl wr.heap.size _ HF.out HV2.out HK.out HB2.out (by omega) (by omega)).mono ?_
        rintro e w5 ⟨v5, rfl, ho5, hs5⟩
        have HS5 := Lib.hid (HS2.out.trans hs5)
        rw [← HD.out] at ho5
        rw [← List.length_append, ← HTK.out] at ho5
        have HO5 := Lib.hid ho5
        clear ho5 hs5 HO HS HV2 HS2 HB2 HK
        go_wp2_with fail
        go_roundw
        case rel => exact ⟨j + 1, _, rfl, by go_num, by omega, HO5, HS5⟩
        case measure => simp [intOf]; omega
      · have a0 : wr.cell? ⟨g, 8, none⟩ = some (nic x.B1) := nblk_cells HKr.out.range 8 rfl
        have a1 : wr.cell? ⟨g, 9, none⟩ = some (nic x.B2) := nblk_cells HKr.out.range 9 rfl
        have HD := Lib.hid (show hdrs x h 98 = [x.B1, x.B2].map nNh from hdrs_N (by decide) (by simp [its]))
        have HF := Lib.hid (show ∀ n ∈ [x.B1, x.B2], fit n from by
          have g := HX.out.ok
          intro n hn
          simp at hn
          rcases hn with rfl | rfl
          · exact g.B.1
          · exact g.B.2)
        have HK := Lib.hid (nblk_int wr [x.B1, x.B2])
        have HV2 := Lib.hid (HO.out.alloc (.cells ([x.B1, x.B2].map nic).toArray 3))
        have HS2 := Lib.hid (HS.out.trans (Stays.below (t := 118) ((Below.refl _ wr).alloc (Nat.le_refl _) (.cells ([x.B1, x.B2].map nic).toArray 3)) HBr.out))
        have HB2 := Lib.hid (show w.heap.size ≤ (wr.alloc (.cells ([x.B1, x.B2].map nic).toArray 3)).heap.size from by have := HBr.out; simp; omega)
        go_wp2_with fail
        refine (rput15_any w.heap.size zs u [x.B1, x.B2] 2 rfl wr.heap.size _ HF.out HV2.out HK.out HB2.out (by omega) (by omega)).mono ?_
        rintro e w5 ⟨v5, rfl, ho5, hs5⟩
        have HS5 := Lib.hid (HS2.out.trans hs5)
        rw [← HD.out] at ho5
        rw [← List.length_append, ← HTK.out] at ho5
        have HO5 := Lib.hid ho5
        clear ho5 hs5 HO HS HV2 HS2 HB2 HK
        go_wp2_with fail
        go_roundw
        case rel => exact ⟨j + 1, _, rfl, by go_num, by omega, HO5, HS5⟩
        case measure => simp [intOf]; omega
      · have a0 : wr.cell? ⟨g, 10, none⟩ = some (nic x.O1) := nblk_cells HKr.out.range 10 rfl
        have a1 : wr.cell? ⟨g, 11, none⟩ = some (nic x.O2) := nblk_cells HKr.out.range 11 rfl
        have HD := Lib.hid (show hdrs x h 111 = [x.O1, x.O2].map nNh from hdrs_N (by decide) (by simp [its]))
        have HF := Lib.hid (show ∀ n ∈ [x.O1, x.O2], fit n from by
          have g := HX.out.ok
          intro n hn
          simp at hn
          rcases hn with rfl | rfl
          · exact g.O.1
          · exact g.O.2)
        have HK := Lib.hid (nblk_int wr [x.O1, x.O2])
        have HV2 := Lib.hid (HO.out.alloc (.cells ([x.O1, x.O2].map nic).toArray 3))
        have HS2 := Lib.hid (HS.out.trans (Stays.below (t := 118) ((Below.refl _ wr).alloc (Nat.le_refl _) (.cells ([x.O1, x.O2].map nic).toArray 3)) HBr.out))
        have HB2 := Lib.hid (show w.heap.size ≤ (wr.alloc (.cells ([x.O1, x.O2].map nic).toArray 3)).heap.size from by have := HBr.out; simp; omega)
        go_wp2_with fail
        refine (rput15_any w.heap.size zs u [x.O1, x.O2] 2 rfl wr.heap.size _ HF.out HV2.out HK.out HB2.out (by omega) (by omega)).mono ?_
        rintro e w5 ⟨v5, rfl, ho5, hs5⟩
        have HS5 := Lib.hid (HS2.out.trans hs5)
        rw [← HD.out] at ho5
        rw [← List.length_append, ← HTK.out] at ho5
        have HO5 := Lib.hid ho5
        clear ho5 hs5 HO HS HV2 HS2 HB2 HK
        go_wp2_with fail
        go_roundw
        case rel => exact ⟨j + 1, _, rfl, by go_num, by omega, HO5, HS5⟩
        case measure => simp [intOf]; omega
      · have yok : (iD x.D : Itm).ok := iD_ok HX.out.ok.D HX.out.ok.len
        have HD := Lib.hid (show hdrs x h 100 = [(iD x.D, none, 0)] from by simp [hdrs, its])
        have l0 := load_nid (o := 0) HX.out.ok.len HKr.out.range
        have mk := fun w => nmake_iD x.D HX.out.ok.len w
        have bi := build_item wr (q := none) (c := 0) yok
        have HL := Lib.hid (icells_length yok (none) (0))
        have HA := Lib.hid (nat_cells wr (icells (iD x.D) (none) (0)) 118 (0, 0))
        have HV2 := Lib.hid (HO.out.alloc (.cells (icells (iD x.D) (none) (0)).toArray 118))
        have HS2 := Lib.hid (HS.out.trans (Stays.below (t := 118) ((Below.refl _ wr).alloc (Nat.le_refl _) (.cells (icells (iD x.D) (none) (0)).toArray 118)) HBr.out))
        have HB2 := Lib.hid (show w.heap.size ≤ (wr.alloc (.cells (icells (iD x.D) (none) (0)).toArray 118)).heap.size from by have := HBr.out; simp; omega)
        clear yok
        go_wp2_with (at_builtin; refine wpList_app_s rfl (.tmp 89) (.tmp 93) 67 rfl w.heap.size 118 (size := 34) (by omega) Tryz.underlying67 item_all3 nitem_zsize u zs.length _ rfl HV2.out (some ⟨wr.heap.size, 0, none⟩) 1 1 (icells (iD x.D) (none) (0)) rfl HA.out (by rw [HL.out]) (fun h => by cases h) (Nat.le_refl _) (icells_one _ _ _) (by omega) (by unfold maxLen; omega) HB2.out ?_; intro v8 w8 hown8 hgr8 hat8)
        have HS8 := Lib.hid (HS2.out.trans (Stays.grown HV2.out hgr8 HB2.out))
        have HO8 := Lib.hid (show w8.ownsRow w.heap.size 118 34 v8 (headsH x ++ (l.take (j + 1)).flatMap (hdrs x h)).length ((headsH x ++ (l.take (j + 1)).flatMap (hdrs x h)).flatMap cellsI) from by
          rw [HTK.out, HD.out, List.flatMap_append, List.flatMap_singleton, List.length_append]; exact hown8)
        clear hown8 hgr8 hat8 HV2 HS2 HB2 HA HL HO HS
        go_wp2_with fail
        go_roundw
        case rel => exact ⟨j + 1, _, rfl, by go_num, by omega, HO8, HS8⟩
        case measure => simp [intOf]; omega
      · have yok : (iB x.X : Itm).ok := iB_ok HX.out.ok.X
        have HD := Lib.hid (show hdrs x h 120 = [(iB x.X, h.q, h.c)] from by simp [hdrs, its])
        have l0 : wr.cell? ⟨g, 45, none⟩ = some (.slice h.q x.X.length h.c) := nblk_cells HKr.out.range 45 (ncells_X HX.out.ok.len h)
        have mk := fun w => nmake_iB x.X h.q x.X.length h.c rfl w
        have bi := build_item wr (q := h.q) (c := h.c) yok
        have HL := Lib.hid (icells_length yok (h.q) (h.c))
        have HA := Lib.hid (nat_cells wr (icells (iB x.X) (h.q) (h.c)) 118 (0, 0))
        have HV2 := Lib.hid (HO.out.alloc (.cells (icells (iB x.X) (h.q) (h.c)).toArray 118))
        have HS2 := Lib.hid (HS.out.trans (Stays.below (t := 118) ((Below.refl _ wr).alloc (Nat.le_refl _) (.cells (icells (iB x.X) (h.q) (h.c)).toArray 118)) HBr.out))
        have HB2 := Lib.hid (show w.heap.size ≤ (wr.alloc (.cells (icells (iB x.X) (h.q) (h.c)).toArray 118)).heap.size from by have := HBr.out; simp; omega)
        clear yok
        go_wp2_with (at_builtin; refine wpList_app_s rfl (.tmp 97) (.tmp 101) 67 rfl w.heap.size 118 (size := 34) (by omega) Tryz.underlying67 item_all3 nitem_zsize u zs.length _ rfl HV2.out (some ⟨wr.heap.size, 0, none⟩) 1 1 (icells (iB x.X) (h.q) (h.c)) rfl HA.out (by rw [HL.out]) (fun h => by cases h) (Nat.le_refl _) (icells_one _ _ _) (by omega) (by unfold maxLen; omega) HB2.out ?_; intro v8 w8 hown8 hgr8 hat8)
        have HS8 := Lib.hid (HS2.out.trans (Stays.grown HV2.out hgr8 HB2.out))
        have HO8 := Lib.hid (show w8.ownsRow w.heap.size 118 34 v8 (headsH x ++ (l.take (j + 1)).flatMap (hdrs x h)).length ((headsH x ++ (l.take (j + 1)).flatMap (hdrs x h)).flatMap cellsI) from by
          rw [HTK.out, HD.out, List.flatMap_append, List.flatMap_singleton, List.length_append]; exact hown8)
        clear hown8 hgr8 hat8 HV2 HS2 HB2 HA HL HO HS
        go_wp2_with fail
        go_roundw
        case rel => exact ⟨j + 1, _, rfl, by go_num, by omega, HO8, HS8⟩
        case measure => simp [intOf]; omega
      · have HF1 := Lib.hid HFW.out.I
        have HD := Lib.hid (show hdrs x h 105 = nNh x.I.length :: x.I.map nDh from by simp [hdrs, its, nNh, nDh, List.map_flatMap]; induction x.I with | nil => rfl | cons a l ih => simp [ih, nDh])
        have t1 := HX.out.I.le
        have t2 := HX.out.I.max
        have LI := Lib.hid (show ∀ w3, Stays 118 w.heap.size w1 w3 → w3.cell? ⟨g, 46, none⟩ = some (.slice h.r x.I.length h.d) from fun w3 hs => nblk_cells (hs.blk HK1.out note_ne_item).range 46 (ncells_I HX.out.ok.len h))
        obtain ⟨n, hn⟩ : ∃ n, n = x.I.length := ⟨_, rfl⟩
        have HN := Lib.hid hn
        rw [← hn] at LI HF1 HD t1
        have l0 := LI.out _ HS.out
        have HF := Lib.hid (show ∀ m ∈ [(n : Int)], fit m from by
          intro m hm
          have := HF1.out
          simp at hm
          rw [hm]; unfold fit; omega)
        clear hn
        have HK := Lib.hid (nblk_int wr [(n : Int)])
        have HV2 := Lib.hid (HO.out.alloc (.cells ([(n : Int)].map nic).toArray 3))
        have HS2 := Lib.hid (HS.out.trans (Stays.below (t := 118) ((Below.refl _ wr).alloc (Nat.le_refl _) (.cells ([(n : Int)].map nic).toArray 3)) HBr.out))
        have HB2 := Lib.hid (show w.heap.size ≤ (wr.alloc (.cells ([(n : Int)].map nic).toArray 3)).heap.size from by have := HBr.out; simp; omega)
        go_wp2_with fail
        refine (rput15_any w.heap.size zs u [(n : Int)] 1 rfl wr.heap.size _ HF.out HV2.out HK.out HB2.out (by omega) (by omega)).mono ?_
        rintro e w5 ⟨v5, rfl, ho5, hs5⟩
        have HS5 := Lib.hid (HS2.out.trans hs5)
        have HO5 := Lib.hid ho5
        clear ho5 hs5 HO HV2 HS2 HB2 HK l0
        have l1 := LI.out _ HS5.out
        go_wp2_with fail
        go_loopw [3, 7] (fun vv i wq => ∃ (m : Nat) (u2 : Value), u2 = vv ∧ i = .int .i64 m ∧ m ≤ n ∧ Hid (wq.ownsRow w.heap.size 118 34 u2 (zs.length + 1 + m) ((zs ++ nNh n :: (x.I.take m).map nDh).flatMap cellsI)) ∧ Hid (Stays 118 w.heap.size w1 wq)) (fun _ i _ => n - (intOf i).toNat)
        case atStart => exact ⟨0, v5, rfl, rfl, by omega, Lib.hid (by simpa using HO5.out), HS5⟩
        case round =>
          obtain ⟨m, u2, rfl, rfl, hm, HOm, HSm⟩ := hrel
          clear HO5 HS5 l1
          have l2 := LI.out _ HSm.out
          by_cases hlt : m < n
          · have hjn : m < x.I.length := by rw [← HN.out]; exact hlt
            obtain ⟨b, off, q1, c1, hpp, hr, hgd⟩ := (HX.out.I.below (HSm.out.bel _ HB1.out)).rows.get m hjn
            have hr : wr.rangeAt b (off + m * 32) ((x.I[m]).map v8) := hr
            have jk : (0 : Int) ≤ (m : Int) ∧ (m : Int) < (n : Int) := by omega
            have HTJ := Lib.hid (show (x.I.take (m + 1)).map nDh = (x.I.take m).map nDh ++ [nDh x.I[m]] from by
              rw [List.take_succ_eq_append_getElem hjn, List.map_append]; rfl)
            have hdl : (x.I[m]).length = 32 := hgd.ok.2
            have hdb : Frm.Bytes x.I[m] := hgd.ok.1
            rw [hpp] at l2 ⊢
            generalize x.I[m] = d at *
            have ld := load_idr hdl hr
            have HFew := HF1.out
            have mk := fun w => nmake_iD d hdl w
            have yok : (iD d : Itm).ok := iD_ok hdb hdl
            have bi := build_item wr (q := none) (c := 0) yok
            have HL := Lib.hid (icells_length yok none 0)
            have HA := Lib.hid (nat_cells wr (icells (iD d) none 0) 118 (0, 0))
            have HO6 := Lib.hid (HOm.out.alloc (.cells (icells (iD d) none 0).toArray 118))
            have HBm := Lib.hid (Nat.le_trans HB1.out.size HSm.out.size)
            have HS6 := Lib.hid (HSm.out.trans (Stays.below (t := 118) ((Below.refl _ wr).alloc (Nat.le_refl _) (.cells (icells (iD d) none 0).toArray 118)) HBm.out))
            have HB6 := Lib.hid (show w.heap.size ≤ (wr.alloc (.cells (icells (iD d) none 0).toArray 118)).heap.size from by have := HBm.out; simp; omega)
            clear yok hjn HOm HSm hr hgd hdl hdb hpp
            go_wp2_with (at_builtin; refine wpList_app_s rfl (.tmp 118) (.tmp 125) 67 rfl w.heap.size 118 (size := 34) (by omega) Tryz.underlying67 item_all3 nitem_zsize u2 (zs.length + 1 + m) _ rfl HO6.out (some ⟨wr.heap.size, 0, none⟩) 1 1 (icells (iD d) none 0) rfl HA.out (by rw [HL.out]) (fun h => by cases h) (Nat.le_refl _) (icells_one _ _ _) (by omega) (by unfold maxLen; omega) HB6.out ?_; intro v8 w8 hown8 hgr8 hat8)
            have HS8 := Lib.hid (HS6.out.trans (Stays.grown HO6.out hgr8 HB6.out))
            have HO8 := Lib.hid (show w8.ownsRow w.heap.size 118 34 v8 (zs.length + 1 + (m + 1)) ((zs ++ nNh n :: (x.I.take (m + 1)).map nDh).flatMap cellsI) from by
              rw [HTJ.out, ← List.cons_append, ← List.append_assoc, List.flatMap_append, List.flatMap_singleton]; exact hown8)
            clear hown8 hgr8 hat8 HO6 HS6 HB6 HA HL HTJ
            go_wp2_with fail
            go_roundw
            case rel => exact ⟨m + 1, _, rfl, by go_num, by omega, HO8, HS8⟩
            case measure => simp [intOf]; omega
          · obtain rfl : m = n := by omega
            have HTL := Lib.hid (show x.I.take m = x.I from List.take_of_length_le (by rw [← HN.out]; exact Nat.le_refl _))
            have HO9 := Lib.hid (show wr.ownsRow w.heap.size 118 34 u2 (headsH x ++ (l.take (j + 1)).flatMap (hdrs x h)).length ((headsH x ++ (l.take (j + 1)).flatMap (hdrs x h)).flatMap cellsI) from by
              have := HOm.out
              rw [HTL.out] at this
              rw [HTK.out, HD.out, List.length_append, List.length_cons, List.length_map, ← HN.out, show zs.length + (m + 1) = zs.length + 1 + m by omega]
              exact this)
            go_wp2_with fail
            go_roundw
            case rel => exact ⟨j + 1, _, rfl, by go_num, by omega, HO9, HSm⟩
            case measure => simp [intOf]; omega
      · have HF1 := Lib.hid HFW.out.W
        have HD := Lib.hid (show hdrs x h 119 = nNh x.W.length :: x.W.flatMap (fun m => [nNh m.I, nNh m.S, nNh m.N]) from by simp [hdrs, its, nNh, List.map_flatMap, Nte.w3])
        have HWL := Lib.hid (show ∀ l : List Mb, (l.flatMap (fun m => [nNh m.I, nNh m.S, nNh m.N])).length = 3 * l.length from by intro l; induction l with | nil => rfl | cons a l ih => rw [List.flatMap_cons, List.length_append, ih]; simp; omega)
        have t1 := HX.out.W.le
        have t2 := HX.out.W.max
        have LI := Lib.hid (show ∀ w3, Stays 118 w.heap.size w1 w3 → w3.cell? ⟨g, 47, none⟩ = some (.slice h.s x.W.length h.e) from fun w3 hs => nblk_cells (hs.blk HK1.out note_ne_item).range 47 (ncells_W HX.out.ok.len h))
        obtain ⟨n, hn⟩ : ∃ n, n = x.W.length := ⟨_, rfl⟩
        have HN := Lib.hid hn
        rw [← hn] at LI HF1 HD t1
        have l0 := LI.out _ HS.out
        have HF := Lib.hid (show ∀ m ∈ [(n : Int)], fit m from by
          intro m hm
          have := HF1.out
          simp at hm
          rw [hm]; unfold fit; omega)
        clear hn
        have HK := Lib.hid (nblk_int wr [(n : Int)])
        have HV2 := Lib.hid (HO.out.alloc (.cells ([(n : Int)].map nic).toArray 3))
        have HS2 := Lib.hid (HS.out.trans (Stays.below (t := 118) ((Below.refl _ wr).alloc (Nat.le_refl _) (.cells ([(n : Int)].map nic).toArray 3)) HBr.out))
        have HB2 := Lib.hid (show w.heap.size ≤ (wr.alloc (.cells ([(n : Int)].map nic).toArray 3)).heap.size from by have := HBr.out; simp; omega)
        go_wp2_with fail
        refine (rput15_any w.heap.size zs u [(n : Int)] 1 rfl wr.heap.size _ HF.out HV2.out HK.out HB2.out (by omega) (by omega)).mono ?_
        rintro e w5 ⟨v5, rfl, ho5, hs5⟩
        have HS5 := Lib.hid (HS2.out.trans hs5)
        have HO5 := Lib.hid ho5
        clear ho5 hs5 HO HV2 HS2 HB2 HK l0
        have l1 := LI.out _ HS5.out
        go_wp2_with fail
        go_loopw [3, 8] (fun vv i wq => ∃ (m : Nat) (u2 : Value), u2 = vv ∧ i = .int .i64 m ∧ m ≤ n ∧ Hid (wq.ownsRow w.heap.size 118 34 u2 (zs ++ nNh n :: (x.W.take m).flatMap (fun m => [nNh m.I, nNh m.S, nNh m.N])).length ((zs ++ nNh n :: (x.W.take m).flatMap (fun m => [nNh m.I, nNh m.S, nNh m.N])).flatMap cellsI)) ∧ Hid (Stays 118 w.heap.size w1 wq)) (fun _ i _ => n - (intOf i).toNat)
        case atStart => exact ⟨0, v5, rfl, rfl, by omega, Lib.hid (by simpa using HO5.out), HS5⟩
        case round =>
          obtain ⟨m, u2, rfl, rfl, hm, HOm, HSm⟩ := hrel
          clear HO5 HS5 l1
          have l2 := LI.out _ HSm.out
          by_cases hlt : m < n
          · have hjn : m < x.W.length := by rw [← HN.out]; exact hlt
            have jk : (0 : Int) ≤ (m : Int) ∧ (m : Int) < (n : Int) := by omega
            have HTJ := Lib.hid (show (zs ++ nNh n :: (x.W.take (m + 1)).flatMap (fun m => [nNh m.I, nNh m.S, nNh m.N])) = (zs ++ nNh n :: (x.W.take m).flatMap (fun m => [nNh m.I, nNh m.S, nNh m.N])) ++ [x.W[m].I, x.W[m].S, x.W[m].N].map nNh from by
              rw [List.take_succ_eq_append_getElem hjn, List.flatMap_append, List.flatMap_singleton]; simp)
            have hlen : (zs ++ nNh n :: (x.W.take m).flatMap (fun m => [nNh m.I, nNh m.S, nNh m.N])).length ≤ 99000 := by
              rw [List.length_append, List.length_cons, HWL.out, List.length_take]; have := HF1.out; omega
            obtain ⟨b, off, q1, c1, hpp, hr0, hgd0⟩ := (HX.out.W.below (HSm.out.bel _ HB1.out)).rows.get m hjn
            have hok : (x.W[m]).ok := hgd0.ok
            have HSS := Lib.hid (show ∀ w3, Stays 118 w.heap.size w1 w3 → w3.cell? ⟨g, 47, none⟩ = some (.slice (some ⟨b, off, none⟩) n h.e) ∧ w3.cell? ⟨b, off + m * 3, none⟩ = some (nic x.W[m].I) ∧ w3.cell? ⟨b, off + m * 3 + 1, none⟩ = some (nic x.W[m].S) ∧ w3.cell? ⟨b, off + m * 3 + 2, none⟩ = some (nic x.W[m].N) from fun w3 hs => by
              obtain ⟨b', off', q2, c2, hp2, hr2, _⟩ := (HX.out.W.below (hs.bel _ HB1.out)).rows.get m hjn
              rw [hpp] at hp2
              injection hp2 with hp2; injection hp2 with e1 e2; subst e1 e2
              have hr2 : w3.rangeAt b (off + m * 3) (nmc x.W[m]) := hr2
              exact ⟨by rw [← hpp]; exact LI.out _ hs, hr2 0 _ rfl, hr2 1 _ rfl, hr2 2 _ rfl⟩)
            have HF6 := Lib.hid (show ∀ k ∈ [x.W[m].I, x.W[m].S, x.W[m].N], fit k from by
              intro k hk
              simp at hk
              rcases hk with rfl | rfl | rfl
              · exact hok.i
              · exact hok.s
              · exact hok.n)
            rw [hpp] at *
            clear hpp
            have HBm := Lib.hid (Nat.le_trans HB1.out.size HSm.out.size)
            generalize (zs ++ nNh n :: (x.W.take m).flatMap (fun m => [nNh m.I, nNh m.S, nNh m.N])) = ws at *
            generalize x.W[m] = d at *
            clear hjn hr0 hgd0 hok
            go_wp2_with fail
            have HSd := Lib.hid (HSm.out.trans (Stays.below (t := 118) (Below.refl wr.heap.size wr).drew HBm.out))
            have HOd := Lib.hid (nrow_below HOm.out (Below.refl wr.heap.size wr).drew)
            refine wp_region_held_drew (S := (fun w' => w'.cell? ⟨g, 47, none⟩ = some (.slice (some ⟨b, off, none⟩) n h.e) ∧ w'.cell? ⟨b, off + m * 3, none⟩ = some (nic d.I) ∧ w'.cell? ⟨b, off + m * 3 + 1, none⟩ = some (nic d.S) ∧ w'.cell? ⟨b, off + m * 3 + 2, none⟩ = some (nic d.N))) (by kernel_rfl) (HSS.out _ HSd.out) (fun hHeld => ?_)
            generalize wr.drew = wd at *
            have HBd := Lib.hid (Nat.le_trans HB1.out.size HSd.out.size)
            clear HOm HSm HBm l2
            refine take_at 0 (by kernel_rfl) (v := ?v1) (by kernel_rfl) (by kernel_rfl) (by kernel_rfl) (fun _ _ _ h => h) (by rfl) ?y1 (by assumption) ?r1
            case y1 => (intro w hSw; (try dsimp only at hSw); simp only [List.getElem_cons_succ, List.getElem_cons_zero]; go_simp; (try with_reducible rfl))
            try simp only [List.getElem_cons_succ, List.getElem_cons_zero, Act.put, List.setIfInBounds_toArray, List.set_cons_zero, List.set_cons_succ]
            refine take_at 1 (by kernel_rfl) (v := ?v2) (by kernel_rfl) (by kernel_rfl) (by kernel_rfl) (fun _ _ _ h => h) (by rfl) ?y2 (by assumption) ?r2
            case y2 => (intro w hSw; (try dsimp only at hSw); simp only [List.getElem_cons_succ, List.getElem_cons_zero]; go_simp; (try with_reducible rfl))
            try simp only [List.getElem_cons_succ, List.getElem_cons_zero, Act.put, List.setIfInBounds_toArray, List.set_cons_zero, List.set_cons_succ]
            refine take_at 2 (by kernel_rfl) (v := ?v3) (by kernel_rfl) (by kernel_rfl) (by kernel_rfl) (fun _ _ _ h => h) (by rfl) ?y3 (by assumption) ?r3
            case y3 => (intro w hSw; obtain ⟨h1, h2, h3, h4⟩ := hSw; simp only [List.getElem_cons_succ, List.getElem_cons_zero]; go_simp; (try with_reducible rfl))
            try simp only [List.getElem_cons_succ, List.getElem_cons_zero, Act.put, List.setIfInBounds_toArray, List.set_cons_zero, List.set_cons_succ]
            refine take_at 3 (by kernel_rfl) (v := ?v4) (by kernel_rfl) (by kernel_rfl) (by kernel_rfl) (fun _ _ _ h => h) (by rfl) ?y4 (by assumption) ?r4
            case y4 => (intro w hSw; (try dsimp only at hSw); simp only [List.getElem_cons_succ, List.getElem_cons_zero]; go_simp; (try with_reducible rfl))
            try simp only [List.getElem_cons_succ, List.getElem_cons_zero, Act.put, List.setIfInBounds_toArray, List.set_cons_zero, List.set_cons_succ]
            refine take_at 4 (by kernel_rfl) (v := ?v5) (by kernel_rfl) (by kernel_rfl) (by kernel_rfl) (fun _ _ _ h => h) (by rfl) ?y5 (by assumption) ?r5
            case y5 => (intro w hSw; (try dsimp only at hSw); simp only [List.getElem_cons_succ, List.getElem_cons_zero]; go_simp; (try with_reducible rfl))
            try simp only [List.getElem_cons_succ, List.getElem_cons_zero, Act.put, List.setIfInBounds_toArray, List.set_cons_zero, List.set_cons_succ]
            refine take_at 5 (by kernel_rfl) (v := ?v6) (by kernel_rfl) (by kernel_rfl) (by kernel_rfl) (fun _ _ _ h => h) (by rfl) ?y6 (by assumption) ?r6
            case y6 => (intro w hSw; (try dsimp only at hSw); simp only [List.getElem_cons_succ, List.getElem_cons_zero]; go_simp; (try with_reducible rfl))
            try simp only [List.getElem_cons_succ, List.getElem_cons_zero, Act.put, List.setIfInBounds_toArray, List.set_cons_zero, List.set_cons_succ]
            refine take_at 6 (by kernel_rfl) (v := ?v7) (by kernel_rfl) (by kernel_rfl) (by kernel_rfl) (fun _ _ _ h => h) (by rfl) ?y7 (by assumption) ?r7
            case y7 => (intro w hSw; obtain ⟨h1, h2, h3, h4⟩ := hSw; simp only [List.getElem_cons_succ, List.getElem_cons_zero]; go_simp; (try with_reducible rfl))
            try simp only [List.getElem_cons_succ, List.getElem_cons_zero, Act.put, List.setIfInBounds_toArray, List.set_cons_zero, List.set_cons_succ]
            refine take_at 7 (by kernel_rfl) (v := ?v8) (by kernel_rfl) (by kernel_rfl) (by kernel_rfl) (fun _ _ _ h => h) (by rfl) ?y8 (by assumption) ?r8
            case y8 => (intro w hSw; (try dsimp only at hSw); simp only [List.getElem_cons_succ, List.getElem_cons_zero]; go_simp; (try with_reducible rfl))
            try simp only [List.getElem_cons_succ, List.getElem_cons_zero, Act.put, List.setIfInBounds_toArray, List.set_cons_zero, List.set_cons_succ]
            refine take_at 8 (by kernel_rfl) (v := ?v9) (by kernel_rfl) (by kernel_rfl) (by kernel_rfl) (fun _ _ _ h => h) (by rfl) ?y9 (by assumption) ?r9
            case y9 => (intro w hSw; obtain ⟨h1, h2, h3, h4⟩ := hSw; simp only [List.getElem_cons_succ, List.getElem_cons_zero]; go_simp; (try with_reducible rfl))
            try simp only [List.getElem_cons_succ, List.getElem_cons_zero, Act.put, List.setIfInBounds_toArray, List.set_cons_zero, List.set_cons_succ]
            refine take_at 9 (by kernel_rfl) (v := ?v10) (by kernel_rfl) (by kernel_rfl) (by kernel_rfl) (fun _ _ _ h => h) (by rfl) ?y10 (by assumption) ?r10
            case y10 => (intro w hSw; (try dsimp only at hSw); simp only [List.getElem_cons_succ, List.getElem_cons_zero]; go_simp; (try with_reducible rfl))
            try simp only [List.getElem_cons_succ, List.getElem_cons_zero, Act.put, List.setIfInBounds_toArray, List.set_cons_zero, List.set_cons_succ]
            refine take_at 10 (by kernel_rfl) (v := ?v11) (by kernel_rfl) (by kernel_rfl) (by kernel_rfl) (fun _ _ _ h => h) (by rfl) ?y11 (by assumption) ?r11
            case y11 => (intro w hSw; (try dsimp only at hSw); simp only [List.getElem_cons_succ, List.getElem_cons_zero]; go_simp; (try with_reducible rfl))
            try simp only [List.getElem_cons_succ, List.getElem_cons_zero, Act.put, List.setIfInBounds_toArray, List.set_cons_zero, List.set_cons_succ]
            refine take_at 11 (by kernel_rfl) (v := ?v12) (by kernel_rfl) (by kernel_rfl) (by kernel_rfl) (fun _ _ _ h => h) (by rfl) ?y12 (by assumption) ?r12
            case y12 => (intro w hSw; (try dsimp only at hSw); simp only [List.getElem_cons_succ, List.getElem_cons_zero]; go_simp; (try with_reducible rfl))
            try simp only [List.getElem_cons_succ, List.getElem_cons_zero, Act.put, List.setIfInBounds_toArray, List.set_cons_zero, List.set_cons_succ]
            refine take_at 12 (by kernel_rfl) (v := ?v13) (by kernel_rfl) (by kernel_rfl) (by kernel_rfl) (fun _ _ _ h => h) (by rfl) ?y13 (by assumption) ?r13
            case y13 => (intro w hSw; obtain ⟨h1, h2, h3, h4⟩ := hSw; simp only [List.getElem_cons_succ, List.getElem_cons_zero]; go_simp; (try with_reducible rfl))
            try simp only [List.getElem_cons_succ, List.getElem_cons_zero, Act.put, List.setIfInBounds_toArray, List.set_cons_zero, List.set_cons_succ]
            refine take_at 13 (by kernel_rfl) (v := ?v14) (by kernel_rfl) (by kernel_rfl) (by kernel_rfl) (fun _ _ _ h => h) (by rfl) ?y14 (by assumption) ?r14
            case y14 => (intro w hSw; (try dsimp only at hSw); simp only [List.getElem_cons_succ, List.getElem_cons_zero]; go_simp; (try with_reducible rfl))
            try simp only [List.getElem_cons_succ, List.getElem_cons_zero, Act.put, List.setIfInBounds_toArray, List.set_cons_zero, List.set_cons_succ]
            refine take_at 14 (by kernel_rfl) (v := ?v15) (by kernel_rfl) (by kernel_rfl) (by kernel_rfl) (fun _ _ _ h => h) (by rfl) ?y15 (by assumption) ?r15
            case y15 => (intro w hSw; obtain ⟨h1, h2, h3, h4⟩ := hSw; simp only [List.getElem_cons_succ, List.getElem_cons_zero]; go_simp; (try with_reducible rfl))
            try simp only [List.getElem_cons_succ, List.getElem_cons_zero, Act.put, List.setIfInBounds_toArray, List.set_cons_zero, List.set_cons_succ]
            refine take_at 15 (by kernel_rfl) (v := ?v16) (by kernel_rfl) (by kernel_rfl) (by kernel_rfl) (fun _ _ _ h => h) (by rfl) ?y16 (by assumption) ?r16
            case y16 => (intro w hSw; (try dsimp only at hSw); simp only [List.getElem_cons_succ, List.getElem_cons_zero]; go_simp; (try with_reducible rfl))
            try simp only [List.getElem_cons_succ, List.getElem_cons_zero, Act.put, List.setIfInBounds_toArray, List.set_cons_zero, List.set_cons_succ]
            refine take_at 16 (by kernel_rfl) (v := ?v17) (by kernel_rfl) (by kernel_rfl) (by kernel_rfl) (fun _ _ _ h => h) (by rfl) ?y17 (by assumption) ?r17
            case y17 => (intro w hSw; (try dsimp only at hSw); simp only [List.getElem_cons_succ, List.getElem_cons_zero]; go_simp; (try with_reducible rfl))
            try simp only [List.getElem_cons_succ, List.getElem_cons_zero, Act.put, List.setIfInBounds_toArray, List.set_cons_zero, List.set_cons_succ]
            refine take_at 17 (by kernel_rfl) (v := ?v18) (by kernel_rfl) (by kernel_rfl) (by kernel_rfl) (fun _ _ _ h => h) (by rfl) ?y18 (by assumption) ?r18
            case y18 => (intro w hSw; (try dsimp only at hSw); simp only [List.getElem_cons_succ, List.getElem_cons_zero]; go_simp; (try with_reducible rfl))
            try simp only [List.getElem_cons_succ, List.getElem_cons_zero, Act.put, List.setIfInBounds_toArray, List.set_cons_zero, List.set_cons_succ]
            refine take_at 18 (by kernel_rfl) (v := ?v19) (by kernel_rfl) (by kernel_rfl) (by kernel_rfl) (fun _ _ _ h => h) (by rfl) ?y19 (by assumption) ?r19
            case y19 => (intro w hSw; obtain ⟨h1, h2, h3, h4⟩ := hSw; simp only [List.getElem_cons_succ, List.getElem_cons_zero]; go_simp; (try with_reducible rfl))
            try simp only [List.getElem_cons_succ, List.getElem_cons_zero, Act.put, List.setIfInBounds_toArray, List.set_cons_zero, List.set_cons_succ]
            have bi := 0
            clear bi
            have HK6 := Lib.hid (nblk_int wd [d.I, d.S, d.N])
            have HO6 := Lib.hid (HOd.out.alloc (.cells ([d.I, d.S, d.N].map nic).toArray 3))
            have HS6 := Lib.hid (HSd.out.trans (Stays.below (t := 118) ((Below.refl _ wd).alloc (Nat.le_refl _) (.cells ([d.I, d.S, d.N].map nic).toArray 3)) HBd.out))
            have HB6 := Lib.hid (show w.heap.size ≤ (wd.alloc (.cells ([d.I, d.S, d.N].map nic).toArray 3)).heap.size from by have := HBd.out; simp; omega)
            refine ready_at 19 (by kernel_rfl) (by kernel_rfl) (fun K hK => ?_)
            simp only [List.getElem_cons_succ, List.getElem_cons_zero]
            go_simp
            refine hK.out _ _ (HSS.out _ HS6.out) (fun hHeld => ?_)
            clear hK K
            try simp only [List.getElem_cons_succ, List.getElem_cons_zero, Act.put, List.setIfInBounds_toArray, List.set_cons_zero, List.set_cons_succ]
            refine ready_at 20 (by kernel_rfl) (by kernel_rfl) (fun K hK => ?_)
            simp only [List.getElem_cons_succ, List.getElem_cons_zero]
            go_simp
            go_at_call 91
            refine (rput15_any w.heap.size ws u2 [d.I, d.S, d.N] 3 rfl wd.heap.size _ HF6.out HO6.out HK6.out HB6.out (by omega) (by omega)).mono ?_
            rintro e w8 ⟨v8, rfl, ho8, hs8⟩
            have HS8 := Lib.hid (HS6.out.trans hs8)
            rw [← List.length_append, ← HTJ.out] at ho8
            have HO8 := Lib.hid ho8
            clear ho8 hs8
            (try go_wp2_with fail)
            refine hK.out _ _ (HSS.out _ HS8.out) (fun hHeld => ?_)
            clear hK K
            try simp only [List.getElem_cons_succ, List.getElem_cons_zero, Act.put, List.setIfInBounds_toArray, List.set_cons_zero, List.set_cons_succ]
            refine take_at 21 (by kernel_rfl) (v := ?v20) (by kernel_rfl) (by kernel_rfl) (by kernel_rfl) (fun _ _ _ h => h) (by rfl) ?y20 (by assumption) ?r20
            case y20 => (intro w hSw; (try dsimp only at hSw); simp only [List.getElem_cons_succ, List.getElem_cons_zero]; go_simp; (try with_reducible rfl))
            try simp only [List.getElem_cons_succ, List.getElem_cons_zero, Act.put, List.setIfInBounds_toArray, List.set_cons_zero, List.set_cons_succ]
            refine wpAnyH_done (by kernel_rfl) ?_ _
            go_wp2_with fail
            go_roundw
            case rel => exact ⟨m + 1, _, rfl, by go_num, by omega, HO8, HS8⟩
            case measure => simp [intOf]; omega
          · obtain rfl : m = n := by omega
            have HTL := Lib.hid (show x.W.take m = x.W from List.take_of_length_le (by rw [← HN.out]; exact Nat.le_refl _))
            have HO9 := Lib.hid (show wr.ownsRow w.heap.size 118 34 u2 (headsH x ++ (l.take (j + 1)).flatMap (hdrs x h)).length ((headsH x ++ (l.take (j + 1)).flatMap (hdrs x h)).flatMap cellsI) from by
              have := HOm.out
              rw [HTL.out] at this
              rw [HTK.out, HD.out]
              exact this)
            go_wp2_with fail
            go_roundw
            case rel => exact ⟨j + 1, _, rfl, by go_num, by omega, HO9, HSm⟩
            case measure => simp [intOf]; omega
      · have a0 : wr.cell? ⟨g, 6, none⟩ = some (nic x.S) := nblk_cells HKr.out.range 6 rfl
        have HD := Lib.hid (show hdrs x h 115 = [x.S].map nNh from hdrs_N (by decide) (by simp [its]))
        have HF := Lib.hid (show ∀ n ∈ [x.S], fit n from by
          have g := HX.out.ok
          intro n hn
          simp at hn
          rcases hn with rfl
          · exact g.S)
        have HK := Lib.hid (nblk_int wr [x.S])
        have HV2 := Lib.hid (HO.out.alloc (.cells ([x.S].map nic).toArray 3))
        have HS2 := Lib.hid (HS.out.trans (Stays.below (t := 118) ((Below.refl _ wr).alloc (Nat.le_refl _) (.cells ([x.S].map nic).toArray 3)) HBr.out))
        have HB2 := Lib.hid (show w.heap.size ≤ (wr.alloc (.cells ([x.S].map nic).toArray 3)).heap.size from by have := HBr.out; simp; omega)
        go_wp2_with fail
        refine (rput15_any w.heap.size zs u [x.S] 1 rfl wr.heap.size _ HF.out HV2.out HK.out HB2.out (by omega) (by omega)).mono ?_
        rintro e w5 ⟨v5, rfl, ho5, hs5⟩
        have HS5 := Lib.hid (HS2.out.trans hs5)
        rw [← HD.out] at ho5
        rw [← List.length_append, ← HTK.out] at ho5
        have HO5 := Lib.hid ho5
        clear ho5 hs5 HO HS HV2 HS2 HB2 HK
        go_wp2_with fail
        go_roundw
        case rel => exact ⟨j + 1, _, rfl, by go_num, by omega, HO5, HS5⟩
        case measure => simp [intOf]; omega
      · have a0 : wr.cell? ⟨g, 7, none⟩ = some (nic x.H) := nblk_cells HKr.out.range 7 rfl
        have HD := Lib.hid (show hdrs x h 104 = [x.H].map nNh from hdrs_N (by decide) (by simp [its]))
        have HF := Lib.hid (show ∀ n ∈ [x.H], fit n from by
          have g := HX.out.ok
          intro n hn
          simp at hn
          rcases hn with rfl
          · exact g.H)
        have HK := Lib.hid (nblk_int wr [x.H])
        have HV2 := Lib.hid (HO.out.alloc (.cells ([x.H].map nic).toArray 3))
        have HS2 := Lib.hid (HS.out.trans (Stays.below (t := 118) ((Below.refl _ wr).alloc (Nat.le_refl _) (.cells ([x.H].map nic).toArray 3)) HBr.out))
        have HB2 := Lib.hid (show w.heap.size ≤ (wr.alloc (.cells ([x.H].map nic).toArray 3)).heap.size from by have := HBr.out; simp; omega)
        go_wp2_with fail
        refine (rput15_any w.heap.size zs u [x.H] 1 rfl wr.heap.size _ HF.out HV2.out HK.out HB2.out (by omega) (by omega)).mono ?_
        rintro e w5 ⟨v5, rfl, ho5, hs5⟩
        have HS5 := Lib.hid (HS2.out.trans hs5)
        rw [← HD.out] at ho5
        rw [← List.length_append, ← HTK.out] at ho5
        have HO5 := Lib.hid ho5
        clear ho5 hs5 HO HS HV2 HS2 HB2 HK
        go_wp2_with fail
        go_roundw
        case rel => exact ⟨j + 1, _, rfl, by go_num, by omega, HO5, HS5⟩
        case measure => simp [intOf]; omega
      · obtain ⟨yv, hyv⟩ : ∃ b, b = x.Y := ⟨_, rfl⟩
        have a0 : wr.cell? ⟨g, 12, none⟩ = some (.bool yv) := by rw [hyv]; exact nblk_cells HKr.out.range 12 rfl
        have HD := Lib.hid (show hdrs x h 121 = [yes yv].map nNh from by rw [hyv]; exact hdrs_N (by decide) (by simp [its]))
        clear hyv
        cases yv with
        | true =>
          have HD := Lib.hid (show hdrs x h 121 = [(1 : Int)].map nNh from HD.out)
          have HF := Lib.hid (show ∀ n ∈ [(1 : Int)], fit n from by intro n hn; simp at hn; rw [hn]; unfold fit; omega)
          have HK := Lib.hid (nblk_int wr [(1 : Int)])
          have HV2 := Lib.hid (HO.out.alloc (.cells ([(1 : Int)].map nic).toArray 3))
          have HS2 := Lib.hid (HS.out.trans (Stays.below (t := 118) ((Below.refl _ wr).alloc (Nat.le_refl _) (.cells ([(1 : Int)].map nic).toArray 3)) HBr.out))
          have HB2 := Lib.hid (show w.heap.size ≤ (wr.alloc (.cells ([(1 : Int)].map nic).toArray 3)).heap.size from by have := HBr.out; simp; omega)
          go_wp2_with fail
          refine (rput15_any w.heap.size zs u [(1 : Int)] 1 rfl wr.heap.size _ HF.out HV2.out HK.out HB2.out (by omega) (by omega)).mono ?_
          rintro e w5 ⟨v5, rfl, ho5, hs5⟩
          have HS5 := Lib.hid (HS2.out.trans hs5)
          rw [← HD.out] at ho5
          rw [← List.length_append, ← HTK.out] at ho5
          have HO5 := Lib.hid ho5
          clear ho5 hs5 HO HS HV2 HS2 HB2 HK
          go_wp2_with fail
          go_roundw
          case rel => exact ⟨j + 1, _, rfl, by go_num, by omega, HO5, HS5⟩
          case measure => simp [intOf]; omega
        | false =>
          have HD := Lib.hid (show hdrs x h 121 = [(0 : Int)].map nNh from HD.out)
          have HF := Lib.hid (show ∀ n ∈ [(0 : Int)], fit n from by intro n hn; simp at hn; rw [hn]; unfold fit; omega)
          have HK := Lib.hid (nblk_int wr [(0 : Int)])
          have HV2 := Lib.hid (HO.out.alloc (.cells ([(0 : Int)].map nic).toArray 3))
          have HS2 := Lib.hid (HS.out.trans (Stays.below (t := 118) ((Below.refl _ wr).alloc (Nat.le_refl _) (.cells ([(0 : Int)].map nic).toArray 3)) HBr.out))
          have HB2 := Lib.hid (show w.heap.size ≤ (wr.alloc (.cells ([(0 : Int)].map nic).toArray 3)).heap.size from by have := HBr.out; simp; omega)
          go_wp2_with fail
          refine (rput15_any w.heap.size zs u [(0 : Int)] 1 rfl wr.heap.size _ HF.out HV2.out HK.out HB2.out (by omega) (by omega)).mono ?_
          rintro e w5 ⟨v5, rfl, ho5, hs5⟩
          have HS5 := Lib.hid (HS2.out.trans hs5)
          rw [← HD.out] at ho5
          rw [← List.length_append, ← HTK.out] at ho5
          have HO5 := Lib.hid ho5
          clear ho5 hs5 HO HS HV2 HS2 HB2 HK
          go_wp2_with fail
          go_roundw
          case rel => exact ⟨j + 1, _, rfl, by go_num, by omega, HO5, HS5⟩
          case measure => simp [intOf]; omega
    · obtain rfl : j = t.size := by omega
      have HTL := Lib.hid (show l.take t.size = l from List.take_of_length_le (by rw [← HNM.out, nums_length]; exact Nat.le_refl _))
      have HO9 := Lib.hid (by have := HO.out; rw [HTL.out] at this; exact this)
      go_wp2_with fail
      go_ret
      exact ⟨_, rfl, HO9.out, HS.out.bel _ HB1.out⟩
end
end
section
set_option linter.unusedSimpArgs false
set_option linter.unusedVariables false
open Go.RowKit Sha
open Fld (Itm)
theorem item0_ok' : Itm.ok ⟨0, [], Fld.zero32⟩ := ⟨by simp, by simp, by simp, by unfold Fld.zero32; intro n hn; have := List.eq_of_mem_replicate hn; omega, Fld.zero32_length⟩
attribute [local go_sem ↓] execOp_loadItem execOp_buildItems
end
section
set_option linter.unusedSimpArgs false
set_option linter.unusedVariables false
open Go.RowKit Sha
open Fld (Itm)
theorem ret_bool {a b : Bool} (h : a = b) : Ending.returned (.bool a) = .returned (.bool b) := by rw [h]
/-- The last test of named, whatever the item has become. -/
theorem okFor_98 (x : Itm) : Fld.okFor 98 x = (decide (x.N = 0) && decide (x.D = Fld.zero32)) := by simp [Fld.okFor]
theorem okFor_100 (x : Itm) : Fld.okFor 100 x = (decide (x.N = 0) && decide (x.B = [])) := by simp [Fld.okFor]
theorem okFor_n' (c : Int) (x : Itm) (h1 : c ≠ 98) (h2 : c ≠ 100) : Fld.okFor c x = (decide (x.B = []) && decide (x.D = Fld.zero32)) := by simp [Fld.okFor, h1, h2]
set_option maxRecDepth 100000 in
set_option maxHeartbeats 2000000 in
theorem named_98 (x : Itm) (q : Option Addr) (cap : Nat) (w : World) (hx : x.ok) :
    Calls Tryz.prog 117 #[.int .i32 98, .agg (icells x q cap).toArray] w fun e w' => e = .returned (.bool (Fld.okFor 98 x)) ∧ Below w.heap.size w w' := by
  have hszd : (Tryz.prog.info? 27).map (fun i => i.size) = some (x.D.map v8).length := by rw [id_size]; simp [hx.len]
  have hszz : (Tryz.prog.info? 27).map (fun i => i.size) = some (Fld.zero32.map v8).length := by rw [id_size]; simp [Fld.zero32_length]
  have hszz' : (Tryz.prog.info? 27).map (fun i => i.size) = some (Fld.zero32.map v8).toArray.size := by rw [id_size]; simp [Fld.zero32_length]
  have Hx := Lib.hid hx.len
  have Hl := Lib.hid (icells_length hx q cap)
  have Hz := Lib.hid Fld.zero32_length
  clear hx
  have HR := Lib.hid (okFor_98 x)
  by_cases hN' : x.N = 0
  · have hN : (x.N == 0) = true := by simpa using hN'
    have HN := Lib.hid hN'
    clear hN'
    go_enter Tryz.func117, Tryz.ntmps117
    go_wp2_with (first
            | (refine wpList_box_new rfl 118 _ rfl _ rfl ?_; intro w1 g K1 B1 G1; have c0 : w1.cell? ⟨g, 0, none⟩ = some (.int .i64 x.N) := (K1.cell 0).trans (icells_0 _ _ _); have c1 : w1.cell? ⟨g, 1, none⟩ = some (.slice q x.B.length cap) := (K1.cell 1).trans (icells_1 _ _ _); have f0 := K1.free 0; have f1 := K1.free 1; have K2 := Lib.hid (show Blk (w1.setCell ⟨g, 1, none⟩ (.slice none 0 0)) g (icells ⟨x.N, [], x.D⟩ none 0) 118 by rw [← icells_set1 x q cap [] none 0]; exact K1.set 1 _); have B1 := Lib.hid B1; clear K1)
            | (refine BigFrame.wpList_want rfl (fun K hK => wp_load_mid 27 (.tmp 24) rfl _ 2 rfl _ _ K2.out.rangeId Tryz.underlying27 rfl hszd (hK _ _ ?_)))
            | (refine BigFrame.wpList_want rfl (fun K hK => wp_build' 27 #[] rfl _ id_zero (hK _ _ ?_)))
            | (refine BigFrame.wpList_want rfl (fun K hK => wp_eql_arr 27 (.tmp 25) (.tmp 26) _ rfl 5 32 .u8 Tryz.underlying27 Tryz.underlying5 kslice1 x.D Fld.zero32 rfl rfl Hx.out Hz.out (hK _ _ ?_))))
    go_ret
    exact ⟨ret_bool (by rw [HR.out, HN.out]; simp), B1.out.setCell G1 _⟩
  · have hN : (x.N == 0) = false := by simpa using hN'
    have HN := Lib.hid hN'
    clear hN'
    go_enter Tryz.func117, Tryz.ntmps117
    go_wp2_with (first
            | (refine wpList_box_new rfl 118 _ rfl _ rfl ?_; intro w1 g K1 B1 G1; have c0 : w1.cell? ⟨g, 0, none⟩ = some (.int .i64 x.N) := (K1.cell 0).trans (icells_0 _ _ _); have c1 : w1.cell? ⟨g, 1, none⟩ = some (.slice q x.B.length cap) := (K1.cell 1).trans (icells_1 _ _ _); have f0 := K1.free 0; have f1 := K1.free 1; have K2 := Lib.hid (show Blk (w1.setCell ⟨g, 1, none⟩ (.slice none 0 0)) g (icells ⟨x.N, [], x.D⟩ none 0) 118 by rw [← icells_set1 x q cap [] none 0]; exact K1.set 1 _); have B1 := Lib.hid B1; clear K1)
            | (refine BigFrame.wpList_want rfl (fun K hK => wp_load_mid 27 (.tmp 24) rfl _ 2 rfl _ _ K2.out.rangeId Tryz.underlying27 rfl hszd (hK _ _ ?_)))
            | (refine BigFrame.wpList_want rfl (fun K hK => wp_build' 27 #[] rfl _ id_zero (hK _ _ ?_)))
            | (refine BigFrame.wpList_want rfl (fun K hK => wp_eql_arr 27 (.tmp 25) (.tmp 26) _ rfl 5 32 .u8 Tryz.underlying27 Tryz.underlying5 kslice1 x.D Fld.zero32 rfl rfl Hx.out Hz.out (hK _ _ ?_))))
    go_ret
    exact ⟨ret_bool (by rw [HR.out]; simp [HN.out]), B1.out.setCell G1 _⟩
set_option maxRecDepth 100000 in
set_option maxHeartbeats 2000000 in
theorem named_100 (x : Itm) (q : Option Addr) (cap : Nat) (w : World) (hx : x.ok) :
    Calls Tryz.prog 117 #[.int .i32 100, .agg (icells x q cap).toArray] w fun e w' => e = .returned (.bool (Fld.okFor 100 x)) ∧ Below w.heap.size w w' := by
  have hszd : (Tryz.prog.info? 27).map (fun i => i.size) = some (x.D.map v8).length := by rw [id_size]; simp [hx.len]
  have hszz : (Tryz.prog.info? 27).map (fun i => i.size) = some (Fld.zero32.map v8).length := by rw [id_size]; simp [Fld.zero32_length]
  have hszz' : (Tryz.prog.info? 27).map (fun i => i.size) = some (Fld.zero32.map v8).toArray.size := by rw [id_size]; simp [Fld.zero32_length]
  have Hx := Lib.hid hx.len
  have Hl := Lib.hid (icells_length hx q cap)
  have Hz := Lib.hid Fld.zero32_length
  clear hx
  have HR := Lib.hid (okFor_100 x)
  by_cases hN' : x.N = 0
  · have hN : (x.N == 0) = true := by simpa using hN'
    have HN := Lib.hid hN'
    clear hN'
    by_cases hB' : x.B = []
    · have hB : ((x.B.length : Int) == 0) = true := by simp [hB']
      have HB := Lib.hid hB'
      clear hB'
      go_enter Tryz.func117, Tryz.ntmps117
      go_wp2_with (first
              | (refine wpList_box_new rfl 118 _ rfl _ rfl ?_; intro w1 g K1 B1 G1; have c0 : w1.cell? ⟨g, 0, none⟩ = some (.int .i64 x.N) := (K1.cell 0).trans (icells_0 _ _ _); have c1 : w1.cell? ⟨g, 1, none⟩ = some (.slice q x.B.length cap) := (K1.cell 1).trans (icells_1 _ _ _); have f0 := K1.free 0; have f1 := K1.free 1; have TH := Lib.hid (K1.there 2 32 (by rw [Hl.out]; decide)); have KK := Lib.hid (icells_set2 q cap 118 K1 Fld.zero32 (by rw [Hx.out, Hz.out])); have B1 := Lib.hid B1; clear K1)
              | (refine wpList_store_mid rfl 27 _ _ rfl g 2 (Fld.zero32.map v8).toArray rfl rfl (by simpa [Hz.out] using TH.out) hszz' (v8_one _) ?_; rw [List.toList_toArray]; have k2 := KK.out; have B2 := Lib.hid (setCells_below G1 (Fld.zero32.map v8) 2 _ B1.out); generalize w1.setCells g 2 (Fld.zero32.map v8) = w2 at *; have d0 : w2.cell? ⟨g, 0, none⟩ = some (.int .i64 x.N) := (k2.cell 0).trans (icells_0 _ _ _); have d1 : w2.cell? ⟨g, 1, none⟩ = some (.slice q x.B.length cap) := (k2.cell 1).trans (icells_1 _ _ _); have K2 := Lib.hid k2; clear k2)
              | (refine BigFrame.wpList_want rfl (fun K hK => wp_load_mid 27 (.tmp 24) rfl _ 2 rfl _ _ K2.out.rangeId Tryz.underlying27 rfl hszz (hK _ _ ?_)))
              | (refine BigFrame.wpList_want rfl (fun K hK => wp_build' 27 #[] rfl _ id_zero (hK _ _ ?_)))
              | (refine wpList_build' rfl 27 #[] rfl _ id_zero ?_)
              | (refine BigFrame.wpList_want rfl (fun K hK => wp_eql_arr 27 (.tmp 25) (.tmp 26) _ rfl 5 32 .u8 Tryz.underlying27 Tryz.underlying5 kslice1 Fld.zero32 Fld.zero32 rfl rfl Hz.out Hz.out (hK _ _ ?_))))
      go_ret
      exact ⟨ret_bool (by rw [HR.out, HN.out, HB.out]; simp), B2.out⟩
    · have hB : ((x.B.length : Int) == 0) = false := by simp; exact hB'
      have HB := Lib.hid hB'
      clear hB'
      go_enter Tryz.func117, Tryz.ntmps117
      go_wp2_with (first
              | (refine wpList_box_new rfl 118 _ rfl _ rfl ?_; intro w1 g K1 B1 G1; have c0 : w1.cell? ⟨g, 0, none⟩ = some (.int .i64 x.N) := (K1.cell 0).trans (icells_0 _ _ _); have c1 : w1.cell? ⟨g, 1, none⟩ = some (.slice q x.B.length cap) := (K1.cell 1).trans (icells_1 _ _ _); have f0 := K1.free 0; have f1 := K1.free 1; have TH := Lib.hid (K1.there 2 32 (by rw [Hl.out]; decide)); have KK := Lib.hid (icells_set2 q cap 118 K1 Fld.zero32 (by rw [Hx.out, Hz.out])); have B1 := Lib.hid B1; clear K1)
              | (refine wpList_store_mid rfl 27 _ _ rfl g 2 (Fld.zero32.map v8).toArray rfl rfl (by simpa [Hz.out] using TH.out) hszz' (v8_one _) ?_; rw [List.toList_toArray]; have k2 := KK.out; have B2 := Lib.hid (setCells_below G1 (Fld.zero32.map v8) 2 _ B1.out); generalize w1.setCells g 2 (Fld.zero32.map v8) = w2 at *; have d0 : w2.cell? ⟨g, 0, none⟩ = some (.int .i64 x.N) := (k2.cell 0).trans (icells_0 _ _ _); have d1 : w2.cell? ⟨g, 1, none⟩ = some (.slice q x.B.length cap) := (k2.cell 1).trans (icells_1 _ _ _); have K2 := Lib.hid k2; clear k2)
              | (refine BigFrame.wpList_want rfl (fun K hK => wp_load_mid 27 (.tmp 24) rfl _ 2 rfl _ _ K2.out.rangeId Tryz.underlying27 rfl hszz (hK _ _ ?_)))
              | (refine BigFrame.wpList_want rfl (fun K hK => wp_build' 27 #[] rfl _ id_zero (hK _ _ ?_)))
              | (refine wpList_build' rfl 27 #[] rfl _ id_zero ?_)
              | (refine BigFrame.wpList_want rfl (fun K hK => wp_eql_arr 27 (.tmp 25) (.tmp 26) _ rfl 5 32 .u8 Tryz.underlying27 Tryz.underlying5 kslice1 Fld.zero32 Fld.zero32 rfl rfl Hz.out Hz.out (hK _ _ ?_))))
      go_ret
      exact ⟨ret_bool (by rw [HR.out]; simp [HB.out]), B2.out⟩
  · have hN : (x.N == 0) = false := by simpa using hN'
    have HN := Lib.hid hN'
    clear hN'
    go_enter Tryz.func117, Tryz.ntmps117
    go_wp2_with (first
            | (refine wpList_box_new rfl 118 _ rfl _ rfl ?_; intro w1 g K1 B1 G1; have c0 : w1.cell? ⟨g, 0, none⟩ = some (.int .i64 x.N) := (K1.cell 0).trans (icells_0 _ _ _); have c1 : w1.cell? ⟨g, 1, none⟩ = some (.slice q x.B.length cap) := (K1.cell 1).trans (icells_1 _ _ _); have f0 := K1.free 0; have f1 := K1.free 1; have TH := Lib.hid (K1.there 2 32 (by rw [Hl.out]; decide)); have KK := Lib.hid (icells_set2 q cap 118 K1 Fld.zero32 (by rw [Hx.out, Hz.out])); have B1 := Lib.hid B1; clear K1)
            | (refine wpList_store_mid rfl 27 _ _ rfl g 2 (Fld.zero32.map v8).toArray rfl rfl (by simpa [Hz.out] using TH.out) hszz' (v8_one _) ?_; rw [List.toList_toArray]; have k2 := KK.out; have B2 := Lib.hid (setCells_below G1 (Fld.zero32.map v8) 2 _ B1.out); generalize w1.setCells g 2 (Fld.zero32.map v8) = w2 at *; have d0 : w2.cell? ⟨g, 0, none⟩ = some (.int .i64 x.N) := (k2.cell 0).trans (icells_0 _ _ _); have d1 : w2.cell? ⟨g, 1, none⟩ = some (.slice q x.B.length cap) := (k2.cell 1).trans (icells_1 _ _ _); have K2 := Lib.hid k2; clear k2)
            | (refine BigFrame.wpList_want rfl (fun K hK => wp_load_mid 27 (.tmp 24) rfl _ 2 rfl _ _ K2.out.rangeId Tryz.underlying27 rfl hszz (hK _ _ ?_)))
            | (refine BigFrame.wpList_want rfl (fun K hK => wp_build' 27 #[] rfl _ id_zero (hK _ _ ?_)))
            | (refine wpList_build' rfl 27 #[] rfl _ id_zero ?_)
            | (refine BigFrame.wpList_want rfl (fun K hK => wp_eql_arr 27 (.tmp 25) (.tmp 26) _ rfl 5 32 .u8 Tryz.underlying27 Tryz.underlying5 kslice1 Fld.zero32 Fld.zero32 rfl rfl Hz.out Hz.out (hK _ _ ?_))))
    go_ret
    exact ⟨ret_bool (by rw [HR.out]; simp [HN.out]), B2.out⟩
set_option maxRecDepth 100000 in
set_option maxHeartbeats 2000000 in
theorem named_n (c : Int) (x : Itm) (q : Option Addr) (cap : Nat) (w : World) (hx : x.ok) (h98 : c ≠ 98) (h100 : c ≠ 100) :
    Calls Tryz.prog 117 #[.int .i32 c, .agg (icells x q cap).toArray] w fun e w' => e = .returned (.bool (Fld.okFor c x)) ∧ Below w.heap.size w w' := by
  have hszd : (Tryz.prog.info? 27).map (fun i => i.size) = some (x.D.map v8).length := by rw [id_size]; simp [hx.len]
  have hszz : (Tryz.prog.info? 27).map (fun i => i.size) = some (Fld.zero32.map v8).length := by rw [id_size]; simp [Fld.zero32_length]
  have hszz' : (Tryz.prog.info? 27).map (fun i => i.size) = some (Fld.zero32.map v8).toArray.size := by rw [id_size]; simp [Fld.zero32_length]
  have Hx := Lib.hid hx.len
  have Hl := Lib.hid (icells_length hx q cap)
  have Hz := Lib.hid Fld.zero32_length
  clear hx
  have HR := Lib.hid (okFor_n' c x h98 h100)
  have t98 : (c == 98) = false := by simpa using h98
  have t100 : (c == 100) = false := by simpa using h100
  clear h98 h100
  by_cases hB' : x.B = []
  · have hB : ((x.B.length : Int) == 0) = true := by simp [hB']
    have HB := Lib.hid hB'
    clear hB'
    go_enter Tryz.func117, Tryz.ntmps117
    go_wp2_with (first
            | (refine wpList_box_new rfl 118 _ rfl _ rfl ?_; intro w1 g K1 B1 G1; have c0 : w1.cell? ⟨g, 0, none⟩ = some (.int .i64 x.N) := (K1.cell 0).trans (icells_0 _ _ _); have c1 : w1.cell? ⟨g, 1, none⟩ = some (.slice q x.B.length cap) := (K1.cell 1).trans (icells_1 _ _ _); have f0 := K1.free 0; have f1 := K1.free 1; have K2 := Lib.hid (show Blk (w1.setCell ⟨g, 0, none⟩ (.int .i64 0)) g (icells ⟨0, x.B, x.D⟩ q cap) 118 by rw [← icells_set0 x q cap 0]; exact K1.set 0 _); have B1 := Lib.hid B1; clear K1)
            | (refine BigFrame.wpList_want rfl (fun K hK => wp_load_mid 27 (.tmp 24) rfl _ 2 rfl _ _ K2.out.rangeId Tryz.underlying27 rfl hszd (hK _ _ ?_)))
            | (refine BigFrame.wpList_want rfl (fun K hK => wp_build' 27 #[] rfl _ id_zero (hK _ _ ?_)))
            | (refine BigFrame.wpList_want rfl (fun K hK => wp_eql_arr 27 (.tmp 25) (.tmp 26) _ rfl 5 32 .u8 Tryz.underlying27 Tryz.underlying5 kslice1 x.D Fld.zero32 rfl rfl Hx.out Hz.out (hK _ _ ?_))))
    go_ret
    exact ⟨ret_bool (by rw [HR.out, HB.out]; simp), B1.out.setCell G1 _⟩
  · have hB : ((x.B.length : Int) == 0) = false := by simp; exact hB'
    have HB := Lib.hid hB'
    clear hB'
    go_enter Tryz.func117, Tryz.ntmps117
    go_wp2_with (first
            | (refine wpList_box_new rfl 118 _ rfl _ rfl ?_; intro w1 g K1 B1 G1; have c0 : w1.cell? ⟨g, 0, none⟩ = some (.int .i64 x.N) := (K1.cell 0).trans (icells_0 _ _ _); have c1 : w1.cell? ⟨g, 1, none⟩ = some (.slice q x.B.length cap) := (K1.cell 1).trans (icells_1 _ _ _); have f0 := K1.free 0; have f1 := K1.free 1; have K2 := Lib.hid (show Blk (w1.setCell ⟨g, 0, none⟩ (.int .i64 0)) g (icells ⟨0, x.B, x.D⟩ q cap) 118 by rw [← icells_set0 x q cap 0]; exact K1.set 0 _); have B1 := Lib.hid B1; clear K1)
            | (refine BigFrame.wpList_want rfl (fun K hK => wp_load_mid 27 (.tmp 24) rfl _ 2 rfl _ _ K2.out.rangeId Tryz.underlying27 rfl hszd (hK _ _ ?_)))
            | (refine BigFrame.wpList_want rfl (fun K hK => wp_build' 27 #[] rfl _ id_zero (hK _ _ ?_)))
            | (refine BigFrame.wpList_want rfl (fun K hK => wp_eql_arr 27 (.tmp 25) (.tmp 26) _ rfl 5 32 .u8 Tryz.underlying27 Tryz.underlying5 kslice1 x.D Fld.zero32 rfl rfl Hx.out Hz.out (hK _ _ ?_))))
    go_ret
    exact ⟨ret_bool (by rw [HR.out]; simp [HB.out]), B1.out.setCell G1 _⟩
theorem named_any (c : Int) (x : Itm) (q : Option Addr) (cap : Nat) (w : World) (hx : x.ok) :
    Calls Tryz.prog 117 #[.int .i32 c, .agg (icells x q cap).toArray] w fun e w' => e = .returned (.bool (Fld.okFor c x)) ∧ Below w.heap.size w w' := by
  by_cases h98 : c = 98
  · subst h98; exact named_98 x q cap w hx
  · by_cases h100 : c = 100
    · subst h100; exact named_100 x q cap w hx
    · exact named_n c x q cap w hx h98 h100
end
section
set_option linter.unusedSimpArgs false
set_option linter.unusedVariables false
open Go.RowKit Sha
open Fld (Itm)
set_option maxRecDepth 100000 in
set_option maxHeartbeats 1000000 in
theorem bounded_any (c : Int) (x : Itm) (q : Option Addr) (cap : Nat) (w : World) (hx : x.ok) (hc : Fld.isC c) :
    Calls Tryz.prog 118 #[.int .i32 c, .agg (icells x q cap).toArray] w fun e w' => e = .returned (.int .i64 (Fld.bound c x)) ∧ Below w.heap.size w w' := by
  have n0 := hx.N0
  have n1 := hx.N1
  obtain ⟨m, hm⟩ : ∃ m, m = x.B.length := ⟨_, rfl⟩
  have HM := Lib.hid hm
  obtain ⟨n, hn⟩ : ∃ n, n = x.N := ⟨_, rfl⟩
  have HN := Lib.hid hn
  rw [← hn] at n0 n1
  have HB := Lib.hid (show Fld.bound c x = if n < 0 ∨ 4611686018427387903 < n then 5 else if 4000 < m ∨ (c = 40 ∧ 4000 < n) then 3 else 0 by rw [hn, hm]; rfl)
  clear hx hm hn
  rcases hc with rfl | rfl | rfl | rfl
  all_goals by_cases h1 : n < 0
  all_goals by_cases h3 : 4611686018427387903 < n
  all_goals by_cases h4 : 4000 < m
  all_goals by_cases h6 : 4000 < n
  all_goals try omega
  all_goals
    go_enter Tryz.func118, Tryz.ntmps118
    go_wp2_with (refine wpList_box_new rfl 118 _ rfl _ rfl ?_; intro w1 g K1 B1 G1; have c0 : w1.cell? ⟨g, 0, none⟩ = some (.int .i64 n) := (by rw [HN.out]; exact (K1.cell 0).trans (icells_0 _ _ _)); have c1 : w1.cell? ⟨g, 1, none⟩ = some (.slice q m cap) := (by rw [HM.out]; exact (K1.cell 1).trans (icells_1 _ _ _)); have B1 := Lib.hid B1; clear K1)
    go_ret
    exact ⟨ret_int (by rw [HB.out]; first | (simp [h1, h3, h4, h6]; done) | (simp [h1, h3, h4, h6]; rw [if_neg (by omega), if_neg (by omega)])), B1.out⟩
end
end Go.Proofs.YtbogjfmefkhglaaGreat
