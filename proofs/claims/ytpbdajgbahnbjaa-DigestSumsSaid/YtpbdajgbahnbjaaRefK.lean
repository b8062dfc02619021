/-
  The reference's block.
-/
import Derived.Test.YtpbdajgbahnbjaaRefW
import Derived.Test.YtpbdajgbahnbjaaShaD
namespace Go.Proofs.Ytpbdajgbahnbjaa
set_option linter.unusedSimpArgs false
set_option linter.unusedVariables false
open Go.RowKit Sha
theorem U_self (x : W) : U x % (4294967296 : Int) = U x := by rw [U_mod, ofInt_U]
attribute [local go_sem] U_self U_and U_or U_xor U_add U_shl8 U_shr3 U_shr10 U_not U_notmax U_or_int
theorem at_cell32 {w : World} {g : Nat} {l : List W} (h : At w (some ⟨g, 0, none⟩) (l.map v32)) (i : Nat) (hi : i < l.length) : w.cell? ⟨g, i, none⟩ = some (v32 (l.getD i 0)) := by
  rcases h with hA | ⟨b', off', ha, hc⟩
  · rw [List.map_eq_nil_iff] at hA; subst hA; simp at hi
  · cases ha
    have := hc i (v32 (l.getD i 0)) (by rw [List.getElem?_map, List.getElem?_eq_getElem hi, List.getD_eq_getElem?_getD, List.getElem?_eq_getElem hi]; rfl)
    rwa [Nat.zero_add] at this
theorem own_at_g32 {w : World} {B n g c : Nat} {e : TypeId} {xs : List Value} (h : w.ownsRow B e 1 (.slice (some ⟨g, 0, none⟩) n c) n xs) : At w (some ⟨g, 0, none⟩) xs := by
  obtain ⟨p, cap, hv, _, _, hA, _⟩ := own_at h
  cases hv; exact hA
/-- What holds at the head of each round of the reference. -/
def RRound (ws : List W) (r0 : R8) (w3 : World) (v i : Value) (wr : World) : Prop :=
  ∃ (k : Nat) (g cc : Nat) (a b c d e f gg h : W), k ≤ 64 ∧ i = .int .i64 k ∧ v = .slice (some ⟨g, 0, none⟩) 8 cc ∧ Hid (At wr (some ⟨g, 0, none⟩) ([a, b, c, d, e, f, gg, h].map v32)) ∧ Hid (rounds kList ws r0 k = ⟨a, b, c, d, e, f, gg, h⟩) ∧ Hid (Below w3.heap.size w3 wr)
theorem at_eight {w : World} {g : Nat} {a b c d e f gg h : W} (hA : At w (some ⟨g, 0, none⟩) ([a, b, c, d, e, f, gg, h].map v32)) :
    w.cell? ⟨g, 0, none⟩ = some (v32 a) ∧ w.cell? ⟨g, 1, none⟩ = some (v32 b) ∧ w.cell? ⟨g, 2, none⟩ = some (v32 c) ∧ w.cell? ⟨g, 3, none⟩ = some (v32 d) ∧ w.cell? ⟨g, 4, none⟩ = some (v32 e) ∧ w.cell? ⟨g, 5, none⟩ = some (v32 f) ∧ w.cell? ⟨g, 6, none⟩ = some (v32 gg) ∧ w.cell? ⟨g, 7, none⟩ = some (v32 h) :=
  ⟨at_cell32 hA 0 (by simp), at_cell32 hA 1 (by simp), at_cell32 hA 2 (by simp), at_cell32 hA 3 (by simp), at_cell32 hA 4 (by simp), at_cell32 hA 5 (by simp), at_cell32 hA 6 (by simp), at_cell32 hA 7 (by simp)⟩
set_option maxRecDepth 100000 in
set_option maxHeartbeats 2000000 in
theorem rblock_any (s : List W) (zs : List Int) (gs cs gk : Nat) (p : Option Addr) (cap : Nat) (w : World) (hs : s.length = 8) (hl : zs.length = 64) (hz : ∀ n ∈ zs, 0 ≤ n ∧ n ≤ 255)
    (hS : At w (some ⟨gs, 0, none⟩) (s.map v32)) (hK : At w (some ⟨gk, 0, none⟩) (kList.map v32)) (hA : At w p (zs.map v8)) (hcs : 8 ≤ cs) :
    Calls Try.prog 31 #[.slice (some ⟨gs, 0, none⟩) 8 cs, .slice (some ⟨gk, 0, none⟩) 64 64, .slice p 64 cap] w
      fun e w' => ∃ g c, e = .returned (.slice (some ⟨g, 0, none⟩) 8 c) ∧ 8 ≤ c ∧ At w' (some ⟨g, 0, none⟩) ((behindOf s kList zs).map v32) ∧ Below w.heap.size w w' := by
  have Hs := Lib.hid hs
  have HS := Lib.hid hS
  have HK := Lib.hid hK
  have HA := Lib.hid hA
  clear hs hS hK hA
  go_enter Try.func31, Try.ntmps31
  go_wp2_with fail
  refine (rwords_any zs p cap w hl hz HA.out).mono ?_
  rintro e w1 ⟨gw, cw, rfl, how, hb1⟩
  have HW := Lib.hid (own_at_g32 how)
  have hs1 := hb1.size
  have hown0 := World.ownsRow_made (base := w1.heap.size) (size := 1) (e := 42) w1 #[] 0 (Nat.le_refl _) (by decide) rfl
  have HO0 := Lib.hid hown0
  have HS1 := Lib.hid (HS.out.below hb1)
  have HK1 := Lib.hid (HK.out.below hb1)
  have HB1 := Lib.hid hb1
  clear how hown0 hb1
  go_wp2_with (at_builtin; refine wpList_app rfl (.tmp 19) (.tmp 20) 49 rfl w1.heap.size 42 Try.underlying49 word_info rfl _ 0 [] rfl HO0.out (some ⟨gs, 0, none⟩) 8 cs (s.map v32) rfl (HS1.out.alloc _) (by simp [Hs.out]) (fun h => by cases h) hcs (one32l _) (by omega) (by unfold maxLen; omega) (by simp) ?_; intro v2 w3 hown2 _ hb3 hs3 _; simp only [Nat.zero_add, List.nil_append] at hown2)
  obtain ⟨gv, cv, rfl, hgv, hvc, hvm, hgs3⟩ := own_form hown2 (by omega)
  have hb13 : Below w1.heap.size w1 w3 := ((Below.refl w1.heap.size w1).alloc (Nat.le_refl _) _).trans hb3
  have HV := Lib.hid (own_at_g32 hown2)
  have HS3 := Lib.hid (HS1.out.below hb13)
  have HK3 := Lib.hid (HK1.out.below hb13)
  have HW3 := Lib.hid (HW.out.below hb13)
  have HB3 := Lib.hid (HB1.out.trans (hb13.mono hs1))
  clear hown2 hb3 hb13 HO0 HS1 HK1 HW HB1
  obtain ⟨a0, a1, a2, a3, a4, a5, a6, a7, hs8⟩ := eight s Hs.out
  obtain ⟨r0, hr0⟩ : ∃ r : R8, r = R8.get s := ⟨_, rfl⟩
  have Hr0 : Hid (rounds kList (wordsOf zs) r0 0 = ⟨a0, a1, a2, a3, a4, a5, a6, a7⟩) := by show _ = _; rw [Sha.rounds_zero, hr0, hs8, get_eight]
  have HR0 := Lib.hid hr0
  have HV8 : Hid (At w3 (some ⟨gv, 0, none⟩) ([a0, a1, a2, a3, a4, a5, a6, a7].map v32)) := by show At _ _ _; rw [← hs8]; exact HV.out
  clear hr0 hs8 HV
  go_loopw [8, 9] (fun v i wr => RRound (wordsOf zs) r0 w3 v i wr) (fun _ i _ => 64 - (intOf i).toNat)
  case atStart => exact ⟨0, gv, cv, _, _, _, _, _, _, _, _, by omega, rfl, rfl, HV8, Hr0, Below.refl _ _⟩
  case round =>
    clear HV8 Hr0
    obtain ⟨k, g, cc, a, b, c, d, e, f, gg, h, hk, rfl, rfl, HV, HR, HB⟩ := hrel
    by_cases hlt : k < 64
    · obtain ⟨c0, c1, c2, c3, c4, c5, c6, c7⟩ := at_eight HV.out
      have ck := at_cell32 (HK3.out.below HB.out) k (by rw [kList_length]; exact hlt)
      have cw' := at_cell32 (HW3.out.below HB.out) k (by rw [wordsOf_length]; exact hlt)
      have HRS := Lib.hid (Sha.rounds_succ kList (wordsOf zs) r0 k a b c d e f gg h _ _ HR.out rfl rfl)
      generalize kList.getD k 0 = kx at *
      generalize (wordsOf zs).getD k 0 = wx at *
      clear HV
      go_wp2_with fail
      go_quiet ((refine Calls.quiet_of_same (rturned_still _ _ _ (by omega))))
      have c0 : (wr.drewN nq).cell? ⟨g, 0, none⟩ = some (v32 a) := c0
      have c1 : (wr.drewN nq).cell? ⟨g, 1, none⟩ = some (v32 b) := c1
      have c2 : (wr.drewN nq).cell? ⟨g, 2, none⟩ = some (v32 c) := c2
      have c3 : (wr.drewN nq).cell? ⟨g, 3, none⟩ = some (v32 d) := c3
      have c4 : (wr.drewN nq).cell? ⟨g, 4, none⟩ = some (v32 e) := c4
      have c5 : (wr.drewN nq).cell? ⟨g, 5, none⟩ = some (v32 f) := c5
      have c6 : (wr.drewN nq).cell? ⟨g, 6, none⟩ = some (v32 gg) := c6
      have c7 : (wr.drewN nq).cell? ⟨g, 7, none⟩ = some (v32 h) := c7
      have ck : (wr.drewN nq).cell? ⟨gk, k, none⟩ = some (v32 kx) := ck
      have cw' : (wr.drewN nq).cell? ⟨gw, k, none⟩ = some (v32 wx) := cw'
      have HB : Hid (Below w3.heap.size w3 (wr.drewN nq)) := below_drewN HB.out nq
      generalize wr.drewN nq = wa at *
      go_wp2_with fail
      go_quiet (fail)
      have c0 : (wa.drewN nq).cell? ⟨g, 0, none⟩ = some (v32 a) := c0
      have c1 : (wa.drewN nq).cell? ⟨g, 1, none⟩ = some (v32 b) := c1
      have c2 : (wa.drewN nq).cell? ⟨g, 2, none⟩ = some (v32 c) := c2
      have c3 : (wa.drewN nq).cell? ⟨g, 3, none⟩ = some (v32 d) := c3
      have c4 : (wa.drewN nq).cell? ⟨g, 4, none⟩ = some (v32 e) := c4
      have c5 : (wa.drewN nq).cell? ⟨g, 5, none⟩ = some (v32 f) := c5
      have c6 : (wa.drewN nq).cell? ⟨g, 6, none⟩ = some (v32 gg) := c6
      have c7 : (wa.drewN nq).cell? ⟨g, 7, none⟩ = some (v32 h) := c7
      have ck : (wa.drewN nq).cell? ⟨gk, k, none⟩ = some (v32 kx) := ck
      have cw' : (wa.drewN nq).cell? ⟨gw, k, none⟩ = some (v32 wx) := cw'
      have HB : Hid (Below w3.heap.size w3 (wa.drewN nq)) := below_drewN HB.out nq
      generalize wa.drewN nq = wb at *
      go_wp2_with fail
      go_quiet (fail)
      have c0 : (wb.drewN nq).cell? ⟨g, 0, none⟩ = some (v32 a) := c0
      have c1 : (wb.drewN nq).cell? ⟨g, 1, none⟩ = some (v32 b) := c1
      have c2 : (wb.drewN nq).cell? ⟨g, 2, none⟩ = some (v32 c) := c2
      have c3 : (wb.drewN nq).cell? ⟨g, 3, none⟩ = some (v32 d) := c3
      have c4 : (wb.drewN nq).cell? ⟨g, 4, none⟩ = some (v32 e) := c4
      have c5 : (wb.drewN nq).cell? ⟨g, 5, none⟩ = some (v32 f) := c5
      have c6 : (wb.drewN nq).cell? ⟨g, 6, none⟩ = some (v32 gg) := c6
      have c7 : (wb.drewN nq).cell? ⟨g, 7, none⟩ = some (v32 h) := c7
      have ck : (wb.drewN nq).cell? ⟨gk, k, none⟩ = some (v32 kx) := ck
      have cw' : (wb.drewN nq).cell? ⟨gw, k, none⟩ = some (v32 wx) := cw'
      have HB : Hid (Below w3.heap.size w3 (wb.drewN nq)) := below_drewN HB.out nq
      generalize wb.drewN nq = wc at *
      go_wp2_with fail
      go_quiet ((refine Calls.quiet_of_same (rturned_still _ _ _ (by omega))))
      have c0 : (wc.drewN nq).cell? ⟨g, 0, none⟩ = some (v32 a) := c0
      have c1 : (wc.drewN nq).cell? ⟨g, 1, none⟩ = some (v32 b) := c1
      have c2 : (wc.drewN nq).cell? ⟨g, 2, none⟩ = some (v32 c) := c2
      have c3 : (wc.drewN nq).cell? ⟨g, 3, none⟩ = some (v32 d) := c3
      have c4 : (wc.drewN nq).cell? ⟨g, 4, none⟩ = some (v32 e) := c4
      have c5 : (wc.drewN nq).cell? ⟨g, 5, none⟩ = some (v32 f) := c5
      have c6 : (wc.drewN nq).cell? ⟨g, 6, none⟩ = some (v32 gg) := c6
      have c7 : (wc.drewN nq).cell? ⟨g, 7, none⟩ = some (v32 h) := c7
      have ck : (wc.drewN nq).cell? ⟨gk, k, none⟩ = some (v32 kx) := ck
      have cw' : (wc.drewN nq).cell? ⟨gw, k, none⟩ = some (v32 wx) := cw'
      have HB : Hid (Below w3.heap.size w3 (wc.drewN nq)) := below_drewN HB.out nq
      generalize wc.drewN nq = wd at *
      go_wp2_with fail
      go_quiet (fail)
      have c0 : (wd.drewN nq).cell? ⟨g, 0, none⟩ = some (v32 a) := c0
      have c1 : (wd.drewN nq).cell? ⟨g, 1, none⟩ = some (v32 b) := c1
      have c2 : (wd.drewN nq).cell? ⟨g, 2, none⟩ = some (v32 c) := c2
      have c3 : (wd.drewN nq).cell? ⟨g, 3, none⟩ = some (v32 d) := c3
      have c4 : (wd.drewN nq).cell? ⟨g, 4, none⟩ = some (v32 e) := c4
      have c5 : (wd.drewN nq).cell? ⟨g, 5, none⟩ = some (v32 f) := c5
      have c6 : (wd.drewN nq).cell? ⟨g, 6, none⟩ = some (v32 gg) := c6
      have c7 : (wd.drewN nq).cell? ⟨g, 7, none⟩ = some (v32 h) := c7
      have ck : (wd.drewN nq).cell? ⟨gk, k, none⟩ = some (v32 kx) := ck
      have cw' : (wd.drewN nq).cell? ⟨gw, k, none⟩ = some (v32 wx) := cw'
      have HB : Hid (Below w3.heap.size w3 (wd.drewN nq)) := below_drewN HB.out nq
      generalize wd.drewN nq = we at *
      go_wp2_with fail
      refine region_tail 28 (by kernel_rfl) (by kernel_rfl) ?_
      simp only [List.take_succ_cons, List.take_zero, List.drop_succ_cons, List.drop_zero]
      repeat (go_big_quiet_step (fail))
      refine wpQuiet_nil ?_
      go_wp2_with fail
      go_roundw
      case rel =>
        refine ⟨k + 1, _, _, _, _, _, _, _, _, _, _, by omega, by go_num, rfl, ?_, HRS.out, (HB.out.drew).alloc HB.out.size _⟩
        refine at_lit ?_
        simp only [List.map_cons, List.map_nil, U_add, BitVec.add_assoc]
      case measure => simp [intOf]; omega
    · obtain rfl : k = 64 := by omega
      have HAt : Hid (At wr (some ⟨g, 0, none⟩) ([a, b, c, d, e, f, gg, h].map v32)) := HV
      have HS4 := Lib.hid (HS3.out.below HB.out)
      have HB4 := Lib.hid (HB3.out.trans (HB.out.mono HB3.out.size))
      have hfin : behindOf s kList zs = addUpto s [a, b, c, d, e, f, gg, h] 8 := by
        rw [behindOf_eq, ← HR0.out, HR.out]; rfl
      obtain ⟨out, hout⟩ : ∃ l, l = behindOf s kList zs := ⟨_, rfl⟩
      rw [← hout] at hfin
      have HOUT := Lib.hid hout
      have hget : ∀ j, j < 8 → out.getD j 0 = s.getD j 0 + ([a, b, c, d, e, f, gg, h] : List W).getD j 0 := fun j hj => by rw [hfin]; exact add_get _ _ j hj Hs.out
      have hlen : out.length = 8 := by rw [hfin, addUpto_length, Hs.out]
      obtain ⟨V, hV⟩ : ∃ V, V = ([a, b, c, d, e, f, gg, h] : List W) := ⟨_, rfl⟩
      have hVl : V.length = 8 := by rw [hV]; rfl
      rw [← hV] at HAt hget
      have HG := Lib.hid hget
      have HL := Lib.hid hlen
      have HVl := Lib.hid hVl
      clear hfin hout hget hlen hV hVl HV HR
      rw [show ((64 : Nat) : Int) = (64 : Int) from rfl]
      go_wp2_with fail
      have zz := HB4.out.size
      obtain ⟨wo, rfl⟩ : ∃ wo : World, wo = wr := ⟨_, rfl⟩
      go_loopw [15, 16] (fun v i wq => ∃ (k : Nat) (v0 : Value), k ≤ 8 ∧ i = .int .i64 k ∧ v0 = v ∧ wq.ownsRow wo.heap.size 42 1 v0 k ((out.take k).map v32) ∧ Below wo.heap.size wo wq ∧ wo.heap.size ≤ wq.heap.size) (fun _ i _ => 8 - (intOf i).toNat)
      case atStart => exact ⟨0, _, by omega, rfl, rfl, by rw [List.take_zero]; exact World.ownsRow_nil _ _ _ _, Below.refl _ _, Nat.le_refl _⟩
      case round =>
        obtain ⟨k, v0, hk, rfl, rfl, hown, hb, hs⟩ := hrel
        have HO := Lib.hid hown
        clear hown
        by_cases hlt : k < 8
        · have c0 := at_cell32 (HS4.out.below hb) k (by rw [Hs.out]; exact hlt)
          have c1 := at_cell32 (HAt.out.below hb) k (by rw [HVl.out]; exact hlt)
          have HT := Lib.hid (take_next out k 0 _ (by rw [HL.out]; omega) (HG.out k hlt).symm)
          generalize s.getD k 0 = x0 at *
          generalize V.getD k 0 = x1 at *
          obtain ⟨i0, hi0, hz0, hz1, hz2⟩ := info_parts word_info
          have hB := Lib.hid (And.intro hk (And.intro hs hlt))
          have q0 : (k : Int) < (8 : Int) := by omega
          have q1 : (0 : Int) ≤ (k : Int) := by omega
          go_wp2_with fail
          go_region_law ((refine step_append_lies _ (by rfl) _ _ _ (by rfl) wo.heap.size 42 i0 _ 1 4 Try.underlying49 hi0 hz0 hz1 hz2 rfl (by omega) v0 k _ (by rfl) ((HO.out.alloc _).drew) ⟨wr.heap.size, 0, none⟩ 1 1 [_] (by rfl) (by rfl) (World.news_of_block (cs := #[_]) (t := 42) (fr := (0, 0)) (heap_alloc_new wr _)) (by simp [Value.oneCell']) (by omega) (by unfold maxLen; omega) (by omega) (by simp; omega) (wr.heap.size + 1) (by simp) ?_; intro ga cap w5 hown1 hgrow hat hlt5))
          all_goals
            go_wp2_with fail
            go_roundw
            case rel =>
              refine ⟨k + 1, _, by omega, by go_num, rfl, ?_, (((hb.alloc hs _).drew).grown hgrow (by simp; omega) (fun j hj => (HO.out.lt j hj).1)), by have := hgrow.size; simp at this; omega⟩
              rw [HT.out, List.map_append, List.map_cons, List.map_nil]
              refine own_cast hown1 ?_
              unfold v32
              simp only [u32_wrap, BitVec.ofInt_add, ofInt_U]
            case measure => simp [intOf]; omega
        · obtain rfl : k = 8 := by omega
          obtain ⟨ga, ca, rfl, _, hca, _, _⟩ := own_form HO.out (by omega)
          have HZ : Hid (out.take 8 = out) := List.take_of_length_le (by rw [HL.out]; omega)
          go_wp2_with fail
          go_ret
          refine ⟨ga, ca, rfl, hca, ?_, HB4.out.trans (hb.mono zz)⟩
          have := own_at_g32 HO.out
          rwa [HZ.out, HOUT.out] at this
end Go.Proofs.Ytpbdajgbahnbjaa
