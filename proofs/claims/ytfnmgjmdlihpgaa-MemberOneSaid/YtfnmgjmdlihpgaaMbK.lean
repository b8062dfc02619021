/-
  The law MemberOne.
-/
import Derived.Test.YtfnmgjmdlihpgaaMbJ
import Derived.Deep.DeepCutAuto
import Derived.BigQuiet
namespace Go.Proofs.Ytfnmgjmdlihpgaa
set_option linter.unusedSimpArgs false
set_option linter.unusedVariables false
open Go.RowKit Sha
theorem mem_one {tl cur : List Mb} {y : Mb} (h : ∀ z ∈ tl, z ∈ cur) (hy : y ∈ cur) : ∀ z ∈ tl ++ [y], z ∈ cur := by
  intro z hz
  rcases List.mem_append.1 hz with h1 | h1
  · exact h z h1
  · simp at h1; subst h1; exact hy
theorem mem_down {tl cur : List Mb} {s : Nat} (h : ∀ (j : Nat) (h : j < cur.length), s + 1 ≤ j → cur[j] ∈ tl) (hs : s < cur.length) : ∀ (j : Nat) (h : j < cur.length), s ≤ j → cur[j] ∈ tl ++ [cur[s]] := by
  intro j hj hsj
  by_cases e : j = s
  · subst e; simp
  · exact List.mem_append_left _ (h j hj (by omega))
/-- The same one is left. -/
theorem Mb.fold_same {i : Int} {cur tl : List Mb} (hf : Mb.Fit i cur) (h1 : ∀ y ∈ tl, y ∈ cur) (h2 : ∀ y ∈ cur, y ∈ tl) (hc : 0 < cur.length) (ht : 0 < tl.length) :
    Mb.fold (cur[0]'hc) cur = Mb.fold (tl[0]'ht) tl ∧ Mb.fold (cur[0]'hc) cur ∈ cur ∧ (∀ y ∈ cur, ¬ y.Up (Mb.fold (cur[0]'hc) cur)) := by
  have m0 : cur[0]'hc ∈ cur := List.getElem_mem hc
  have m1 : tl[0]'ht ∈ tl := List.getElem_mem ht
  have ft : Mb.Fit i tl := fun y hy => hf y (h1 y hy)
  obtain ⟨a1, a2, a3⟩ := Mb.fold_mem (hf _ m0) hf
  obtain ⟨b1, b2, b3⟩ := Mb.fold_mem (ft _ m1) ft
  have ma : Mb.fold (cur[0]'hc) cur ∈ cur := by rcases a1 with e | e; rw [e]; exact m0; exact e
  have mb : Mb.fold (tl[0]'ht) tl ∈ tl := by rcases b1 with e | e; rw [e]; exact m1; exact e
  refine ⟨?_, ma, a3⟩
  rcases Mb.up_or (a := Mb.fold (cur[0]'hc) cur) (b := Mb.fold (tl[0]'ht) tl) (by rw [(hf _ ma).2, (ft _ mb).2]) with e | e | e
  · exact absurd e (b3 _ (h2 _ ma))
  · exact absurd e (a3 _ (h1 _ mb))
  · exact e
section
attribute [local go_sem ↓] execOp_loadM execOp_storeM execOp_eqlM execOp_buildM
/-- The row of words, and what lies above. -/
structure RowM (w0 w : World) (g : Nat) (l : List Mb) (rest : List Value) : Prop where
  blk : Blk w g (l.flatMap mc ++ rest) mt
  below : Below w0.heap.size w0 w
theorem RowM.on {w0 w w' : World} {g : Nat} {l : List Mb} {rest : List Value} (h : RowM w0 w g l rest) (hb : Below w.heap.size w w') : RowM w0 w' g l rest := ⟨h.blk.upon hb, h.below.trans (hb.mono h.below.size)⟩
theorem RowM.set {w0 w : World} {g : Nat} {l : List Mb} {rest : List Value} (h : RowM w0 w g l rest) (hg : w0.heap.size ≤ g) (k : Nat) (hk : k < l.length) (i : Int) : RowM w0 (w.setCell ⟨g, k * 3, none⟩ (.int .i64 i)) g (l.set k ⟨i, l[k].S, l[k].N⟩) rest := by
  refine ⟨?_, Below.setCell h.below hg _⟩
  have := h.blk.set (k * 3) (.int .i64 i)
  rwa [wflat_set l rest k hk i] at this
theorem RowM.load {w0 w : World} {g : Nat} {l : List Mb} {rest : List Value} (h : RowM w0 w g l rest) (k : Nat) (hk : k < l.length) : (loadM mt (.pointer (some ⟨g, k * 3, none⟩))).run Try.prog w = .ok (.value (mv l[k])) w := run_loadM (rangeW h.blk k hk)
set_option maxRecDepth 100000 in
set_option maxHeartbeats 8000000 in
theorem one_any (l : List Mb) (n : Nat) (q : Option Addr) (cap : Nat) (ks : List Int) (m : Nat) (p : Option Addr) (d : Nat) (w : World) (hn : l.length = n) (hl : GoodW w l q cap) (hm : ks.length = m) (hk : GoodN w ks p d) :
    Calls Try.prog 5 #[.slice q n cap, .slice p m d] w (BoolDone true w) := by
  have HL := Lib.hid hl
  have HN := Lib.hid hn
  have HK := Lib.hid hk
  have HM := Lib.hid hm
  have b1 := hl.le
  have b2 := hl.max
  have b3 := hk.le
  have b4 := hk.max
  rw [hn] at b1
  rw [hm] at b3
  clear hl hn hk hm
  go_enter Try.func5, Try.ntmps5
  go_wp2_with fail
  refine (known_any _).mono ?_
  rintro e w1 ⟨rfl, hb1⟩
  have L1 := Lib.hid (HL.out.below hb1)
  have K1 := Lib.hid (HK.out.below hb1)
  have B1 := Lib.hid hb1
  clear hb1
  by_cases h1 : n ≤ 20
  · have t1 : decide ((20 : Int) < (n : Int)) = false := decide_eq_false (by omega)
    by_cases h2 : n = 0
    · have t2 : ((n : Int) == 0) = true := by rw [beq_iff_eq]; omega
      clear h1 h2
      go_wp2_with fail
      go_ret
      exact ⟨rfl, B1.out⟩
    · have t2 : ((n : Int) == 0) = false := by rw [beq_eq_false_iff_ne]; omega
      by_cases h3 : m ≤ 40
      · have t3 : decide ((40 : Int) < (m : Int)) = false := decide_eq_false (by omega)
        have O0 := own_empty_w w1 w.heap.size B1.out.size
        have c0 := run_buildM0 w1
        have hg0 := B1.out.size
        have L1' := L1.out.below (show Below w1.heap.size w1 (w1.alloc (.cells #[] mt)) from (Below.refl _ _).alloc (Nat.le_refl _) _)
        have B1' := Below.go B1.out (show Below w1.heap.size w1 (w1.alloc (.cells #[] mt)) from (Below.refl _ _).alloc (Nat.le_refl _) _)
        clear L1 K1 B1
        generalize w1.alloc (.cells #[] mt) = w2 at *
        generalize w1.heap.size = g0 at *
        go_wp2_with (refine wpList_app_s rfl _ _ 36 rfl w.heap.size mt (z := .agg #[.int .i64 0, .int .i64 0, .int .i64 0]) (by decide) Try.underlying36 mem_info rfl _ 0 [] rfl O0 q n cap (l.flatMap mc) rfl L1'.at_ (by rw [wflat_length, HN.out]) L1'.nil b1 (wflat_one l) (by omega) (by unfold maxLen; omega) B1'.size ?_; intro v w3 hv hg _)
        have hg : w2.grownBy w3 (some g0) := hg
        rw [Nat.zero_add, List.nil_append] at hv
        have B3 := grown_below B1' hg (fun g e => by cases e; exact hg0) B1'.size
        obtain ⟨gS, cS, rest, rfl, hgS, hcS, hmS, hS⟩ := own_blk_w hv (by omega)
        have R3 := Lib.hid (show RowM w w3 gS l rest from ⟨hS, B3⟩)
        clear hv hg O0 c0 hg0 L1' B1' B3 hS
        have hn0 : 0 < l.length := by rw [HN.out]; omega
        obtain ⟨b, off, rfl, hr0⟩ := HL.out.get 0 hn0
        obtain ⟨i0, hi0⟩ : ∃ i0, i0 = (l[0]'hn0).I := ⟨_, rfl⟩
        have HR0 := Lib.hid (show w.cell? ⟨b, off, none⟩ = some (.int .i64 i0) from by rw [hi0]; simpa using hr0 0 _ rfl)
        have HI0 := Lib.hid (show -9223372036854775808 ≤ i0 ∧ i0 ≤ 9223372036854775807 from by rw [hi0]; exact (HL.out.ok _ (List.getElem_mem hn0)).i)
        clear hr0 hi0 hn0
        have j0 : (0 : Int) < (n : Int) := by omega
        go_loopw [7] (fun i wr => ∃ (k : Nat) (cur : List Mb), i = .int .i64 k ∧ k ≤ n ∧ Hid (Cur i0 l cur k) ∧ Hid (RowM w wr gS cur rest) ∧ Hid (∀ y ∈ cur.take k, y.May ∧ y.I = i0)) (fun i _ => n - (intOf i).toNat)
        case atStart => exact ⟨0, l, rfl, by omega, Lib.hid (Cur.start i0 l), R3, Lib.hid (by simp)⟩
        case round =>
          obtain ⟨k, cur, rfl, hk, HC, HR, HY⟩ := hrel
          by_cases hlt : k < n
          · have hkl : k < l.length := by rw [HN.out]; exact hlt
            have hkc : k < cur.length := by rw [HC.out.len]; exact hkl
            have c1 : wr.cell? ⟨b, off, none⟩ = some (.int .i64 i0) := (HR.out.below.cell (World.block_lt_of_cell? w _ HR0.out)).trans HR0.out
            have c2 : wr.cell? ⟨gS, k * 3, none⟩ = some (.int .i64 cur[k].I) := by have := rangeW HR.out.blk k hkc 0 _ rfl; simpa using this
            have z2 := HR.out.blk.free (k * 3)
            have R2 := Lib.hid (HR.out.set hgS k hkc i0)
            rw [show (⟨i0, cur[k].S, cur[k].N⟩ : Mb) = Mb.fx i0 l[k] from by rw [HC.out.at hkl]; rfl] at R2
            have l2 := R2.out.load k (by simpa using hkc)
            rw [List.getElem_set_self] at l2
            have jk : (0 : Int) ≤ (k : Int) ∧ (k : Int) < (n : Int) := by omega
            have HC2 := Lib.hid (HC.out.next hkl)
            by_cases hmay : (Mb.fx i0 l[k]).May
            · have HY2 := Lib.hid (show ∀ y ∈ (cur.set k (Mb.fx i0 l[k])).take (k + 1), y.May ∧ y.I = i0 from by
                intro y hy
                rw [List.take_succ_eq_append_getElem (by simpa using hkc), List.getElem_set_self] at hy
                rcases List.mem_append.1 hy with hy | hy
                · rw [List.take_set_of_le (Nat.le_refl _)] at hy; exact HY.out y hy
                · simp at hy; subst hy; exact ⟨hmay, rfl⟩)
              have HCK := Lib.hid (check_ok hmay)
              generalize Mb.fx i0 l[k] = y at *
              generalize cur[k].I = ci at *
              clear HR hmay HC HY hkl
              go_wp2_with fail
              refine (HCK.out _).mono ?_
              rintro e w5 ⟨rfl, hb5⟩
              have R5 := Lib.hid (R2.out.on hb5)
              clear hb5 l2 c1 c2 z2 R2
              go_wp2_with fail
              go_roundw
              case rel => exact ⟨k + 1, cur.set k y, by go_num, by omega, HC2, R5, HY2⟩
              case measure => simp [intOf]; omega
            · have HCK := Lib.hid (check_no hmay)
              generalize Mb.fx i0 l[k] = y at *
              generalize cur[k].I = ci at *
              clear HR hmay HC HY hkl
              go_wp2_with fail
              refine (HCK.out _).mono ?_
              rintro e w5 ⟨rfl, hb5⟩
              have R5 := Lib.hid (R2.out.on hb5)
              clear hb5 l2 c1 c2 z2 R2
              go_wp2_with fail
              try rw [Exit.noGoto_ret]
              go_ret
              exact ⟨rfl, R5.out.below⟩
          · obtain rfl : n = k := by omega
            have HLN := Lib.hid (show cur.length = n from by rw [HC.out.len]; exact HN.out)
            have HF := Lib.hid (show Mb.Fit i0 cur from fun y hy => HY.out y (by rw [List.take_of_length_le (by rw [HLN.out]; exact Nat.le_refl _)]; exact hy))
            clear HC HY R3 HR0 HL HN hlt hk
            have hw1 : wrap64 ((n : Int) - 1) = (n : Int) - 1 := IntWalk.wrap64_in _ (by omega)
            have hw2 : IntKind.i64.wrap ((n : Int) - 1) = (n : Int) - 1 := IntWalk.i64_in _ (by omega)
            go_wp2_with fail
            go_loopw [9, 8] (fun i v wx => ∃ (k : Nat) (tl : List Mb), i = .int .i64 k ∧ k ≤ m ∧ Hid (wx.ownsRow wr.heap.size mt 3 v k (tl.flatMap mc)) ∧ Hid (tl.length = k) ∧ Hid (∀ y ∈ tl, y ∈ cur) ∧ Hid (Below wr.heap.size wr wx)) (fun i _ _ => m - (intOf i).toNat)
            case atStart => exact ⟨0, [], rfl, by omega, Lib.hid (World.ownsRow_nil _ _ _ _), Lib.hid rfl, Lib.hid (by simp), Lib.hid (Below.refl _ _)⟩
            case round =>
              obtain ⟨k, tl, rfl, hk, HO, HTL, HTM, HB⟩ := hrel
              rename World => wx
              by_cases hlt : k < m
              · have hkl : k < ks.length := by rw [HM.out]; exact hlt
                obtain ⟨bp, op, rfl, cp⟩ := HK.out.at_.addr (by rw [List.length_map]; omega)
                have hRx := HR.out.on HB.out
                have c1 : wx.cell? ⟨bp, op + k, none⟩ = some (.int .i64 ks[k]) := by
                  have h0 : w.cell? ⟨bp, op + k, none⟩ = some (.int .i64 ks[k]) := cp k _ (by rw [List.getElem?_map, List.getElem?_eq_getElem hkl]; rfl)
                  exact (hRx.below.cell (World.block_lt_of_cell? w _ h0)).trans h0
                have hbd := HK.out.nums ks[k] (List.getElem_mem hkl)
                obtain ⟨o, ho⟩ : ∃ o, o = ks[k] := ⟨_, rfl⟩
                rw [← ho] at c1 hbd
                have HP := Lib.hid (pick_any o n wx (by omega) (by omega) hbd)
                have hpb := pickOf_bd o n (by omega)
                obtain ⟨j, hj⟩ : ∃ j : Nat, (j : Int) = pickOf o n := ⟨(pickOf o n).toNat, by omega⟩
                rw [← hj] at HP hpb
                have hjl : j < cur.length := by rw [HLN.out]; omega
                have jk : (0 : Int) ≤ (k : Int) ∧ (k : Int) < (m : Int) := by omega
                have jj : (0 : Int) ≤ (j : Int) ∧ (j : Int) < (n : Int) := hpb
                have l3 := hRx.load j hjl
                have hmem : cur[j] ∈ cur := List.getElem_mem hjl
                have c0 := run_buildM1 wx cur[j]
                have HAT := Lib.hid (show At (wx.alloc (.cells (mc cur[j]).toArray mt)) (some ⟨wx.heap.size, 0, none⟩) (mc cur[j]) from (goodW_blk (l := [cur[j]]) (rest := []) (n := 1) (cap := 1) (by simpa using Blk.new wx (mc cur[j]).toArray mt) (by intro x hx; simp at hx; subst hx; exact (HF.out _ hmem).1.ok) rfl (Nat.le_refl _) (by unfold maxLen; omega)).at_)
                have hal : Below wx.heap.size wx (wx.alloc (.cells (mc cur[j]).toArray mt)) := (Below.refl _ _).alloc (Nat.le_refl _) _
                have HO2 := Lib.hid (own_on_w HO.out hal)
                have HB2 := Lib.hid (below_next HB.out hal)
                have hlen := HTL.out
                generalize cur[j] = y at *
                generalize hwy : wx.alloc (.cells (mc y).toArray mt) = wy at *
                clear cp hRx ho hj hbd hpb hjl hal hkl hwy
                go_wp2_with fail
                refine HP.out.mono ?_
                rintro e wz ⟨rfl, rfl⟩
                go_wp2_with (refine wpList_app_s rfl _ _ 36 rfl wr.heap.size mt (z := .agg #[.int .i64 0, .int .i64 0, .int .i64 0]) (by decide) Try.underlying36 mem_info rfl _ k (tl.flatMap mc) rfl HO2.out _ 1 1 (mc y) rfl HAT.out rfl (fun h => by cases h) (Nat.le_refl _) (wflat_one [y]) (by omega) (by unfold maxLen; omega) HB2.out.size ?_; intro v' w4 hv' hg' _)
                have HB4 := Lib.hid (grown_below HB2.out hg' (fun g e => (own_base_w HO2.out g e).1) HB2.out.size)
                go_roundw
                case rel => exact ⟨k + 1, tl ++ [y], by go_num, by omega, Lib.hid (by rw [List.flatMap_append]; exact hv'), Lib.hid (by simp [hlen]), Lib.hid (mem_one HTM.out hmem), HB4⟩
                case measure => simp [intOf]; omega
              · obtain rfl : m = k := by omega
                have HT0 := Lib.hid (show 0 < n from by omega)
                clear HK HM hlt hk
                go_wp2_with fail
                go_loopw [10, 8] (fun i v wx => ∃ (r c : Nat) (z : Int) (tl : List Mb), i = .int .i64 z ∧ z = (r : Int) - 1 ∧ r ≤ n ∧ Hid (c + r = n + m) ∧ Hid (wx.ownsRow wr.heap.size mt 3 v c (tl.flatMap mc)) ∧ Hid (tl.length = c) ∧ Hid (∀ y ∈ tl, y ∈ cur) ∧ Hid (∀ (j : Nat) (h : j < cur.length), r ≤ j → cur[j] ∈ tl) ∧ Hid (Below wr.heap.size wr wx)) (fun i _ _ => (intOf i + 1).toNat)
                case atStart => exact ⟨n, m, (n : Int) - 1, tl, rfl, rfl, Nat.le_refl _, Lib.hid (by omega), HO, HTL, HTM, Lib.hid (fun j h hj => by have := HLN.out; omega), HB⟩
                case round =>
                  clear HO HTL HTM HB tl
                  obtain ⟨r, c, z, tl, rfl, hz, hr, hcr, HO, HTL, HTM, HTN, HB⟩ := hrel
                  rename World => wy
                  by_cases hr0 : 1 ≤ r
                  · obtain ⟨s, rfl⟩ : ∃ s, r = s + 1 := ⟨r - 1, by omega⟩
                    obtain rfl : z = (s : Int) := by omega
                    clear hz
                    have tz : decide ((0 : Int) ≤ (s : Int)) = true := decide_eq_true (by omega)
                    have hsl : s < cur.length := by rw [HLN.out]; omega
                    have js : (0 : Int) ≤ (s : Int) ∧ (s : Int) < (n : Int) := by omega
                    have l3 := (HR.out.on HB.out).load s hsl
                    have hmem : cur[s] ∈ cur := List.getElem_mem hsl
                    have HTN2 := Lib.hid (mem_down HTN.out hsl)
                    have c0 := run_buildM1 wy cur[s]
                    have HAT := Lib.hid (show At (wy.alloc (.cells (mc cur[s]).toArray mt)) (some ⟨wy.heap.size, 0, none⟩) (mc cur[s]) from (goodW_blk (l := [cur[s]]) (rest := []) (n := 1) (cap := 1) (by simpa using Blk.new wy (mc cur[s]).toArray mt) (by intro x hx; simp at hx; subst hx; exact (HF.out _ hmem).1.ok) rfl (Nat.le_refl _) (by unfold maxLen; omega)).at_)
                    have hal : Below wy.heap.size wy (wy.alloc (.cells (mc cur[s]).toArray mt)) := (Below.refl _ _).alloc (Nat.le_refl _) _
                    have HO2 := Lib.hid (own_on_w HO.out hal)
                    have HB2 := Lib.hid (below_next HB.out hal)
                    have hlen := HTL.out
                    have hcb : c ≤ 60 := by have := hcr.out; omega
                    have hd1 : wrap64 ((s : Int) - 1) = (s : Int) - 1 := IntWalk.wrap64_in _ (by omega)
                    have hd2 : IntKind.i64.wrap ((s : Int) - 1) = (s : Int) - 1 := IntWalk.i64_in _ (by omega)
                    generalize cur[s] = y at *
                    generalize hwv : wy.alloc (.cells (mc y).toArray mt) = wv at *
                    clear hal hsl hwv HTN
                    go_wp2_with (refine wpList_app_s rfl _ _ 36 rfl wr.heap.size mt (z := .agg #[.int .i64 0, .int .i64 0, .int .i64 0]) (by decide) Try.underlying36 mem_info rfl _ c (tl.flatMap mc) rfl HO2.out _ 1 1 (mc y) rfl HAT.out rfl (fun h => by cases h) (Nat.le_refl _) (wflat_one [y]) (by omega) (by unfold maxLen; omega) HB2.out.size ?_; intro v' w4 hv' hg' _)
                    have HB4 := Lib.hid (grown_below HB2.out hg' (fun g e => (own_base_w HO2.out g e).1) HB2.out.size)
                    go_roundw
                    case rel => exact ⟨s, c + 1, (s : Int) - 1, tl ++ [y], by first | rfl | go_num, rfl, by omega, Lib.hid (by have := hcr.out; omega), Lib.hid (by rw [List.flatMap_append]; exact hv'), Lib.hid (by simp [hlen]), Lib.hid (mem_one HTM.out hmem), HTN2, HB4⟩
                    case measure => (simp [intOf] <;> omega)
                  · obtain rfl : r = 0 := by omega
                    obtain rfl : z = -1 := by omega
                    clear hz
                    have hc0 : 0 < cur.length := by rw [HLN.out]; exact HT0.out
                    have hcb : 0 < c := by have := hcr.out; omega
                    have ht0 : 0 < tl.length := by rw [HTL.out]; omega
                    have HSAME := Lib.hid (Mb.fold_same HF.out HTM.out (fun y hy => by obtain ⟨j, hj, rfl⟩ := List.mem_iff_getElem.1 hy; exact HTN.out j hj (Nat.zero_le _)) hc0 ht0)
                    obtain ⟨gT, cT, restT, rfl, hgT, hcT, hmT, hT⟩ := own_blk_w HO.out (by omega)
                    have HTB := Lib.hid (show RowM wr wy gT tl restT from ⟨hT, HB.out⟩)
                    have HSB := Lib.hid (HR.out.on HB.out)
                    have hokc : ∀ x ∈ cur, x.ok := fun x hx => (HF.out x hx).1.ok
                    have hokt : ∀ x ∈ tl, x.ok := fun x hx => hokc x (HTM.out x hx)
                    have FT : Mb.Fit i0 tl := fun y hy => HF.out y (HTM.out y hy)
                    have HM1 := Lib.hid (fun (w' : World) (hb : Below wy.heap.size wy w') => merged_any i0 (cur[0]'hc0) cur n cS (some ⟨gS, 0, none⟩) w' HLN.out (goodW_blk (HSB.out.on hb).blk hokc HLN.out hcS hmS) (HF.out _ (List.getElem_mem hc0)) HF.out)
                    have HM2 := Lib.hid (fun (w' : World) (hb : Below wy.heap.size wy w') => merged_any i0 (tl[0]'ht0) tl c cT (some ⟨gT, 0, none⟩) w' HTL.out (goodW_blk (HTB.out.on hb).blk hokt HTL.out hcT hmT) (FT _ (List.getElem_mem ht0)) FT)
                    have l0 := HSB.out.load 0 hc0
                    have HL0 := Lib.hid (fun (w' : World) (hb : Below wy.heap.size wy w') => (HTB.out.on hb).load 0 ht0)
                    have jc : (0 : Int) < (c : Int) := by omega
                    have hA := HSAME.out
                    rw [← hA.1] at HM2
                    obtain ⟨A, hAe⟩ : ∃ A, A = Mb.fold (cur[0]'hc0) cur := ⟨_, rfl⟩
                    rw [← hAe] at HM1 HM2 hA
                    have HIN := Lib.hid hA.2.1
                    have HTOP := Lib.hid hA.2.2
                    clear hA hAe HSAME hokc hokt FT hT HTN HTM HO
                    obtain ⟨x0, hx0⟩ : ∃ x0, x0 = cur[0]'hc0 := ⟨_, rfl⟩
                    obtain ⟨y0, hy0⟩ : ∃ y0, y0 = tl[0]'ht0 := ⟨_, rfl⟩
                    rw [← hx0] at l0 HM1
                    rw [← hy0] at HL0 HM2
                    clear hx0 hy0
                    simp only [Nat.zero_mul] at l0 HL0
                    have HQ := run_eqlM A A true (by simp)
                    go_wp2_with fail
                    refine (HM1.out _ (Below.refl _ _)).mono ?_
                    rintro e w5 ⟨rfl, hb5⟩
                    have s5 := put_run w5 A
                    have P5 := Lib.hid (Put.new w5 A)
                    have B5 := Lib.hid (below_next hb5 P5.out.below)
                    have l6 := HL0.out _ B5.out
                    clear hb5
                    generalize putM w5 A = w6 at *
                    go_wp2_with fail
                    refine (HM2.out _ B5.out).mono ?_
                    rintro e w7 ⟨rfl, hb7⟩
                    have s7 := put_run w7 A
                    have P7 := Lib.hid (Put.new w7 A)
                    have hb8 := Below.go hb7 P7.out.below
                    have P6 := Lib.hid (P5.out.on hb8)
                    have B7 := Lib.hid (below_next B5.out hb8)
                    clear hb7 hb8 l6 l0
                    generalize putM w7 A = w8 at *
                    have HS8 := Lib.hid (HSB.out.on B7.out)
                    clear HM1 HM2 HL0 HTB HSB B5 P5
                    go_wp2_with fail
                    have KA := Lib.hid P6.out.blk
                    have KB := Lib.hid P7.out.blk
                    clear P6 P7
                    generalize w5.heap.size = gA at *
                    generalize w7.heap.size = gB at *
                    clear s5 s7 HQ
                    go_loopw [16, 15] (fun i s wx => ∃ (k : Nat) (bb : Bool), i = .int .i64 k ∧ s = .bool bb ∧ k ≤ n ∧ Hid (bb = true ↔ ∃ (j : Nat) (h : j < cur.length), j < k ∧ cur[j] = A) ∧ Hid (Below w8.heap.size w8 wx)) (fun i _ _ => n - (intOf i).toNat)
                    case atStart => exact ⟨0, false, rfl, rfl, Nat.zero_le _, Lib.hid (by simp), Lib.hid (Below.refl _ _)⟩
                    case round =>
                      obtain ⟨k, bb, rfl, rfl, hk, HBB, HB9⟩ := hrel
                      rename World => wz
                      have HR9 := Lib.hid (HS8.out.on HB9.out)
                      have PA := Lib.hid (KA.out.upon HB9.out)
                      by_cases hlt : k < n
                      · have hkl : k < cur.length := by rw [HLN.out]; exact hlt
                        have jk : (0 : Int) ≤ (k : Int) ∧ (k : Int) < (n : Int) := by omega
                        have lk := HR9.out.load k hkl
                        have HO9 := Lib.hid (over_at (decide_eq_false (show ¬ (cur[k]).Over A from fun h => HTOP.out _ (List.getElem_mem hkl) h.2)))
                        obtain ⟨y, hy⟩ : ∃ y, y = cur[k] := ⟨_, rfl⟩
                        rw [← hy] at HO9
                        have HBB2 := Lib.hid (show (bb || decide (y = A)) = true ↔ ∃ (j : Nat) (h : j < cur.length), j < k + 1 ∧ cur[j] = A from by
                          rw [Bool.or_eq_true, HBB.out, decide_eq_true_iff]
                          constructor
                          · rintro (⟨j, h, h1, h2⟩ | h)
                            · exact ⟨j, h, by omega, h2⟩
                            · exact ⟨k, hkl, by omega, by rw [← hy]; exact h⟩
                          · rintro ⟨j, h, h1, h2⟩
                            by_cases e : j = k
                            · subst e; exact Or.inr (by rw [hy]; exact h2)
                            · exact Or.inl ⟨j, h, by omega, h2⟩)
                        obtain ⟨I, W, hC⟩ := cls_of wz
                        have hne : Nonempty I := hC.ne
                        have m1 : ∀ i, (loadM mt (.pointer (some ⟨gS, k * 3, none⟩))).run Try.prog (W i) = .ok (.value (mv y)) (W i) := fun i => by rw [hy]; exact (HR9.out.on (hC.back i)).load k hkl
                        have m2 := fun i => run_loadM (rangeM_of (PA.out.upon (hC.back i)))
                        have HLY := Lib.hid (show ∀ w', RowM w w' gS cur rest → (loadM mt (.pointer (some ⟨gS, k * 3, none⟩))).run Try.prog w' = .ok (.value (mv y)) w' from fun w' h => by rw [hy]; exact h.load k hkl)
                        have HC := Lib.hid hC
                        have HQ := run_eqlM y A (decide (y = A)) rfl
                        clear hC lk hy hkl
                        cases bb with
                        | true =>
                          go_wp2_with fail
                          refine wp_region_cls W (by kernel_rfl) (by kernel_rfl) HC.out.one ?_
                          repeat go_big_quiet_step (fail)
                          refine wpQuiet_nil ?_
                          rintro _ ⟨mm, rfl⟩
                          have R10 := Lib.hid (HR9.out.on (HC.out.back mm))
                          have P10 := Lib.hid (PA.out.upon (HC.out.back mm))
                          have B10 := Lib.hid (below_next HB9.out (HC.out.back mm))
                          clear m1 m2 HC HQ
                          generalize W mm = wv at *
                          go_wp2_with fail
                          obtain ⟨I2, W2, hC⟩ := cls_of wv
                          have hne2 : Nonempty I2 := hC.ne
                          have m1 : ∀ i, (loadM mt (.pointer (some ⟨gS, k * 3, none⟩))).run Try.prog (W2 i) = .ok (.value (mv y)) (W2 i) := fun i => HLY.out _ (R10.out.on (hC.back i))
                          have m2 := fun i => run_loadM (rangeM_of (P10.out.upon (hC.back i)))
                          have QO := Lib.hid (hC.call (P := Try.prog) (f := 14) (args := #[mv y, mv A]) (v := .bool false) (fun w' hb => HO9.out w'))
                          have HC := Lib.hid hC
                          clear hC
                          refine wp_region_cls W2 (by kernel_rfl) (by kernel_rfl) HC.out.one ?_
                          repeat go_big_quiet_step (((first | (go_at_call 14; exact QO.out _))))
                          refine wpQuiet_nil ?_
                          rintro _ ⟨mn, rfl⟩
                          have B11 := Lib.hid (below_next B10.out (HC.out.back mn))
                          clear m1 m2 QO HC
                          generalize W2 mn = wu at *
                          go_wp2_with fail
                          go_roundw
                          case rel => exact ⟨k + 1, _, by go_num, rfl, by omega, by simpa using HBB2, B11⟩
                          case measure => simp [intOf]; omega
                        | false =>
                          go_wp2_with fail
                          refine wp_region_cls W (by kernel_rfl) (by kernel_rfl) HC.out.one ?_
                          repeat go_big_quiet_step (fail)
                          refine wpQuiet_nil ?_
                          rintro _ ⟨mm, rfl⟩
                          have R10 := Lib.hid (HR9.out.on (HC.out.back mm))
                          have P10 := Lib.hid (PA.out.upon (HC.out.back mm))
                          have B10 := Lib.hid (below_next HB9.out (HC.out.back mm))
                          clear m1 m2 HC HQ
                          generalize W mm = wv at *
                          go_wp2_with fail
                          obtain ⟨I2, W2, hC⟩ := cls_of wv
                          have hne2 : Nonempty I2 := hC.ne
                          have m1 : ∀ i, (loadM mt (.pointer (some ⟨gS, k * 3, none⟩))).run Try.prog (W2 i) = .ok (.value (mv y)) (W2 i) := fun i => HLY.out _ (R10.out.on (hC.back i))
                          have m2 := fun i => run_loadM (rangeM_of (P10.out.upon (hC.back i)))
                          have QO := Lib.hid (hC.call (P := Try.prog) (f := 14) (args := #[mv y, mv A]) (v := .bool false) (fun w' hb => HO9.out w'))
                          have HC := Lib.hid hC
                          clear hC
                          refine wp_region_cls W2 (by kernel_rfl) (by kernel_rfl) HC.out.one ?_
                          repeat go_big_quiet_step (((first | (go_at_call 14; exact QO.out _))))
                          refine wpQuiet_nil ?_
                          rintro _ ⟨mn, rfl⟩
                          have B11 := Lib.hid (below_next B10.out (HC.out.back mn))
                          clear m1 m2 QO HC
                          generalize W2 mn = wu at *
                          go_wp2_with fail
                          go_roundw
                          case rel => exact ⟨k + 1, _, by go_num, rfl, by omega, by simpa using HBB2, B11⟩
                          case measure => simp [intOf]; omega
                      · obtain rfl : n = k := by omega
                        obtain rfl : bb = true := by
                          rw [HBB.out]
                          obtain ⟨j, hj, e⟩ := List.mem_iff_getElem.1 HIN.out
                          exact ⟨j, hj, by have := HLN.out; omega, e⟩
                        have m1 := run_loadM (rangeM_of PA.out)
                        have m2 := run_loadM (rangeM_of (KB.out.upon HB9.out))
                        have HQ := run_eqlM A A true (by simp)
                        have BF := Lib.hid (below_next HR9.out.below (Below.refl _ _))
                        go_wp2_with fail
                        go_ret
                        exact ⟨rfl, BF.out⟩
      · have t3 : decide ((40 : Int) < (m : Int)) = true := decide_eq_true (by omega)
        clear h1 h2 h3
        go_wp2_with fail
        go_ret
        exact ⟨rfl, B1.out⟩
  · have t1 : decide ((20 : Int) < (n : Int)) = true := decide_eq_true (by omega)
    clear h1
    go_wp2_with fail
    go_ret
    exact ⟨rfl, B1.out⟩
end
end Go.Proofs.Ytfnmgjmdlihpgaa
