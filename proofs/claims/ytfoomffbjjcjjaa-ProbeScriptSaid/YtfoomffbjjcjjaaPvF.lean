/-
  The program's Remove.
-/
import Derived.Test.YtfoomffbjjcjjaaPvQ
import Derived.Test.YtfoomffbjjcjjaaDelI
namespace Go.Proofs.Ytfoomffbjjcjjaa
set_option linter.unusedSimpArgs false
set_option linter.unusedVariables false
open Go.RowKit Sha Lot
theorem PRaw.grewT {w w' : World} {b t n : Nat} {fp : List Nat} {L Q : List Int} {v v' : Value} (h : PRaw w b fp L t v) (hg : w.grownBy w' v.ownBlock) (O : w'.ownsRow 0 it 1 v' n (Q.map v64)) (hn : Q.length = n) (hb : ∀ g, v'.ownBlock = some g → v.ownBlock = some g ∨ w.heap.size ≤ g) :
    PRaw (w'.setCell ⟨b, 1, none⟩ v') b (b :: v'.ownBlock.toList) Q t v' ∧ Touch fp w (w'.setCell ⟨b, 1, none⟩ v') ∧ From fp (b :: v'.ownBlock.toList) w := by
  have ht : Touch fp w w' := ⟨hg.os, hg.tape, hg.output, hg.size, fun k hk hn => hg.block k hk fun e => hn (by rw [h.fps, ← e]; simp)⟩
  refine ⟨h.grew hg O hn hb, ht.setIn h.mem v', fun k hk => ?_⟩
  rcases List.mem_cons.1 hk with rfl | hk
  · exact .inl h.mem
  · rcases hb k (by simpa using hk) with h1 | h1
    · exact .inl (by rw [h.fps, h1]; simp)
    · exact .inr h1
theorem PRaw.tellT {w0 w : World} {b t : Nat} {f0 fp : List Nat} {L : List Int} {v : Value} (h : PRaw w b fp L t v) (ht : Touch f0 w0 w) (hf : From f0 fp w0) (t' : Nat) : PRaw (w.setCell ⟨b, 2, none⟩ (v64 t')) b fp L t' v ∧ Touch f0 w0 (w.setCell ⟨b, 2, none⟩ (v64 t')) := by
  obtain ⟨h1, h2⟩ := h.told t'
  exact ⟨h1, ht.trans h2 hf⟩
section
attribute [local go_sem ↓] execOp_sliceI execOp_buildI
set_option maxRecDepth 100000 in
set_option maxHeartbeats 4000000 in
theorem prem_any (b : Nat) (fp : List Nat) (s : Rd.St) (x : Int) (w : World) (h : PRep w b fp s) :
    Calls Try.prog 22 #[optr b, v64 x] w (ODone PRep b fp (Rd.remS s x) (v64 (Rd.remE s x)) w) := by
  have hP := h
  obtain ⟨⟨v, hr⟩, hok⟩ := h
  have HOK := Lib.hid (Rd.rem_OK hok x)
  have hn64 := hok.len
  have htl := hok.told
  obtain ⟨q, c, rfl, hb, hA, l1, l2, _⟩ := hr.cells
  have HNO := Lib.hid (rnone_any b _ w hb)
  have c0 : w.cell? ⟨b, 1, none⟩ = some (.slice q s.L.length c) := hb.cell 1
  have HPL := Lib.hid (place_any s.L s.L.length q c x w rfl hA (by omega))
  by_cases hat : Rd.at_ s.L x < s.L.length
  · have hS : Rd.remS s x = ⟨s.L.eraseIdx (Rd.at_ s.L x), if Rd.at_ s.L x < s.t then s.t - 1 else s.t⟩ := if_pos hat
    have hE : Rd.remE s x = 0 := if_pos hat
    rw [hS] at HOK ⊢
    rw [hE]
    rw [show plcAt s.L x = Rd.at_ s.L x from if_pos hat, show plcIs s.L x = true from decide_eq_true hat] at HPL
    obtain ⟨L, t⟩ := s
    dsimp only at *
    generalize Rd.at_ L x = k at *
    obtain ⟨g, cap, rest, hv, _, h1, h2, hk, hl, hl2⟩ := own_whole hr.row (by omega)
    injection hv with hv1 hv2 hv3
    subst hv1 hv3
    clear hv2
    obtain ⟨n, hn⟩ : ∃ n, n = L.length := ⟨_, rfl⟩
    have hsp : L.map v64 ++ rest = (L.take k).map v64 ++ [v64 L[k]] ++ (L.drop (k + 1)).map v64 ++ rest := by
      rw [show (L.take k).map v64 ++ [v64 L[k]] ++ (L.drop (k + 1)).map v64 = (L.take k ++ L[k] :: L.drop (k + 1)).map v64 by rw [List.map_append, List.map_cons, List.append_assoc]; rfl, ← List.drop_eq_getElem_cons hat, List.take_append_drop]
    rw [hsp] at hk
    have HD := Lib.hid (delete_I w 0 g n (n - 1) c k (k + 1) ((L.take k).map v64) [v64 L[k]] ((L.drop (k + 1)).map v64) rest (by rw [List.length_map, List.length_take]; omega) (by simp) (by rw [List.length_map, List.length_drop]; omega) (by rw [List.length_append, List.length_map] at hl2; omega) (by omega) (by omega) (by omega) (by omega) (by omega) h2 (Nat.zero_le _) hk (by intro u hu; obtain ⟨y, _, rfl⟩ := List.mem_map.1 hu; rfl))
    have HER := Lib.hid (show (L.take k).map v64 ++ (L.drop (k + 1)).map v64 = (L.eraseIdx k).map v64 by rw [List.eraseIdx_eq_take_drop_succ, List.map_append])
    have HEL := Lib.hid (show (L.eraseIdx k).length = n - 1 by rw [List.length_eraseIdx, if_pos hat, hn])
    have HR := Lib.hid hr
    have i1 : IntKind.i64.wrap ((k : Int) + 1) = (k : Int) + 1 := IntWalk.i64_in _ (by omega)
    rw [← hn] at hn64 htl hat c0 HPL l1
    have HN := Lib.hid hn
    clear hS hE hP hr hok hb hA hsp hk hl hl2 h1 h2 hn
    by_cases hkt : k < t
    · have i2 : IntKind.i64.wrap ((t : Int) - 1) = ((t - 1 : Nat) : Int) := by rw [IntWalk.i64_in _ (by omega)]; omega
      have t1 : decide (k < t) = true := decide_eq_true hkt
      rw [if_pos hkt] at HOK ⊢
      clear hkt
      go_enter Try.func22, Try.ntmps22
      go_wp2_with fail
      refine HNO.out.mono ?_
      rintro e w' ⟨rfl, hw⟩
      obtain rfl := hw.symm
      clear hw HNO
      go_wp2_with fail
      refine HPL.out.mono ?_
      rintro e w' ⟨rfl, hw⟩
      obtain rfl := hw.symm
      clear hw HPL
      go_wp2_with fail
      refine HD.out.mono ?_
      rintro e w2 ⟨v2, rfl, ho, hg, hbk⟩
      rw [HER.out] at ho
      obtain ⟨hx1, hx2, hx3⟩ := HR.out.grewT (by exact hg) ho HEL.out (fun g' e => Or.inl (by rw [hbk] at e; cases e; rfl))
      have HX := Lib.hid hx1
      have HT := Lib.hid hx2
      have HF := Lib.hid hx3
      have c2 : w2.cell? ⟨b, 1, none⟩ = some (.slice (some ⟨g, 0, none⟩) n c) := by
        have h3 := (hg.block b HR.out.blk.lt (fun e => HR.out.ne (show some g = some b from e.symm))).trans HR.out.blk
        have h4 : Blk w2 b [optr b, .slice (some ⟨g, 0, none⟩) L.length c, v64 t] prt := h3
        rw [HN.out]; exact h4.cell 1
      have f2 : w2.frozen? ⟨b, 1, none⟩ = false := by
        have h3 := (hg.block b HR.out.blk.lt (fun e => HR.out.ne (show some g = some b from e.symm))).trans HR.out.blk
        have h4 : Blk w2 b [optr b, .slice (some ⟨g, 0, none⟩) L.length c, v64 t] prt := h3
        exact h4.free 1
      obtain ⟨p2, k2, hv2, _⟩ := own_at_s ho
      subst hv2
      obtain ⟨w3, e3⟩ : ∃ y, w2.setCell ⟨b, 1, none⟩ (.slice p2 (n - 1) k2) = y := ⟨_, rfl⟩
      rw [e3] at HX HT
      have c3 : w3.cell? ⟨b, 2, none⟩ = some (v64 t) := HX.out.blk.cell 2
      have f3 : w3.frozen? ⟨b, 2, none⟩ = false := HX.out.blk.free 2
      have HY := Lib.hid (HX.out.tellT HT.out HF.out (t - 1))
      clear ho hg hx1 hx2 hx3 HD
      go_wp2_with fail
      go_ret
      exact ⟨rfl, _, ⟨⟨_, HY.out.1⟩, HOK.out⟩, HY.out.2, HF.out⟩
    · have t1 : decide (k < t) = false := decide_eq_false hkt
      rw [if_neg hkt] at HOK ⊢
      clear hkt
      go_enter Try.func22, Try.ntmps22
      go_wp2_with fail
      refine HNO.out.mono ?_
      rintro e w' ⟨rfl, hw⟩
      obtain rfl := hw.symm
      clear hw HNO
      go_wp2_with fail
      refine HPL.out.mono ?_
      rintro e w' ⟨rfl, hw⟩
      obtain rfl := hw.symm
      clear hw HPL
      go_wp2_with fail
      refine HD.out.mono ?_
      rintro e w2 ⟨v2, rfl, ho, hg, hbk⟩
      rw [HER.out] at ho
      obtain ⟨hx1, hx2, hx3⟩ := HR.out.grewT (by exact hg) ho HEL.out (fun g' e => Or.inl (by rw [hbk] at e; cases e; rfl))
      have HX := Lib.hid hx1
      have HT := Lib.hid hx2
      have HF := Lib.hid hx3
      have c2 : w2.cell? ⟨b, 1, none⟩ = some (.slice (some ⟨g, 0, none⟩) n c) := by
        have h3 := (hg.block b HR.out.blk.lt (fun e => HR.out.ne (show some g = some b from e.symm))).trans HR.out.blk
        have h4 : Blk w2 b [optr b, .slice (some ⟨g, 0, none⟩) L.length c, v64 t] prt := h3
        rw [HN.out]; exact h4.cell 1
      have f2 : w2.frozen? ⟨b, 1, none⟩ = false := by
        have h3 := (hg.block b HR.out.blk.lt (fun e => HR.out.ne (show some g = some b from e.symm))).trans HR.out.blk
        have h4 : Blk w2 b [optr b, .slice (some ⟨g, 0, none⟩) L.length c, v64 t] prt := h3
        exact h4.free 1
      obtain ⟨p2, k2, hv2, _⟩ := own_at_s ho
      subst hv2
      obtain ⟨w3, e3⟩ : ∃ y, w2.setCell ⟨b, 1, none⟩ (.slice p2 (n - 1) k2) = y := ⟨_, rfl⟩
      rw [e3] at HX HT
      have c3 : w3.cell? ⟨b, 2, none⟩ = some (v64 t) := HX.out.blk.cell 2
      clear ho hg hx1 hx2 hx3 HD
      go_wp2_with fail
      go_ret
      exact ⟨rfl, _, ⟨⟨_, HX.out⟩, HOK.out⟩, HT.out, HF.out⟩
  · have hS : Rd.remS s x = s := if_neg hat
    have hE : Rd.remE s x = 6 := if_neg hat
    rw [hS, hE]
    rw [show plcIs s.L x = false from decide_eq_false hat] at HPL
    have HD := Lib.hid (ODone.same prHeld hP (v := v64 6) (Below.refl _ _))
    clear hS hE hr hok hb hA hat hP
    go_enter Try.func22, Try.ntmps22
    go_wp2_with fail
    refine HNO.out.mono ?_
    rintro e w' ⟨rfl, hw⟩
    obtain rfl := hw.symm
    clear hw HNO
    go_wp2_with fail
    refine HPL.out.mono ?_
    rintro e w' ⟨rfl, hw⟩
    obtain rfl := hw.symm
    clear hw HPL
    go_wp2_with fail
    go_ret
    exact HD.out
end
end Go.Proofs.Ytfoomffbjjcjjaa
