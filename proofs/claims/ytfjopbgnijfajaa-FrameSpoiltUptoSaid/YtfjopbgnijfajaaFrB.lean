/-
  The reference of frames: four, number, Size, Put, Join.
-/
import Derived.Test.YtfjopbgnijfajaaFrm
import Derived.Test.YtfjopbgnijfajaaRecs
import Derived.Test.YtfjopbgnijfajaaCrcR
import Derived.WalkSpells
import Derived.IntWalk
import Derived.WalkLawsBesides
namespace Go.Proofs.Ytfjopbgnijfajaa
set_option linter.unusedSimpArgs false
set_option linter.unusedVariables false
open Go.RowKit Sha
theorem own_full (w : World) (cs : Array Value) (n : Nat) (e : TypeId) (hm : n ≤ maxLen) (hs : cs.size = n) : (w.alloc (.cells cs e)).ownsRow w.heap.size e 1 (.slice (some ⟨w.heap.size, 0, none⟩) n n) n cs.toList :=
  ⟨by simp [hs], .inr ⟨w.heap.size, n, cs, rfl, Nat.le_refl _, heap_alloc_new w _, Nat.le_refl _, hm, by simp [hs], by rw [Nat.mul_one, List.take_of_length_le (by simp [hs])]⟩⟩
theorem own_belowS {w w' : World} {B n size : Nat} {e : TypeId} {v : Value} {xs : List Value} (h : w.ownsRow B e size v n xs) (hb : Below w.heap.size w w') : w'.ownsRow B e size v n xs := by
  refine ⟨h.1, ?_⟩
  rcases h.2 with h' | ⟨g, cap, cur, hv, hg, hh, h4⟩
  · exact Or.inl h'
  · exact Or.inr ⟨g, cap, cur, hv, hg, by rw [hb.block g (h.lt g (by rw [hv]; rfl)).2]; exact hh, h4⟩
set_option maxRecDepth 100000 in
set_option maxHeartbeats 400000 in
theorem four_any (n : Nat) (hn : n < 4294967296) (w : World) :
    Calls Try.prog 31 #[.int .u32 n] w fun e w' => ∃ v, e = .returned v ∧ w'.ownsRow w.heap.size 5 1 v 4 ((Frm.le4 n).map v8) ∧ Below w.heap.size w w' := by
  go_enter Try.func31, Try.ntmps31
  go_wp2_with fail
  go_ret
  refine ⟨_, rfl, ?_, (Below.refl _ _).alloc (Nat.le_refl _) _⟩
  have e : ((n : Int) / 16777216) = ((n / 16777216 % 256 : Nat) : Int) := by omega
  rw [e]
  exact own_full w #[Value.int IntKind.u8 ((n : Int) % 256), Value.int IntKind.u8 ((n : Int) / 256 % 256), Value.int IntKind.u8 ((n : Int) / 65536 % 256), Value.int IntKind.u8 ((n / 16777216 % 256 : Nat) : Int)] 4 5 (by decide) rfl
set_option maxRecDepth 100000 in
set_option maxHeartbeats 400000 in
theorem number_any (zs : List Int) (a b c d : Int) (rest : List Int) (hz : zs = a :: b :: c :: d :: rest) (hb : ∀ n ∈ zs, 0 ≤ n ∧ n ≤ 255) (p : Option Addr) (n cap : Nat) (w : World) (hn : zs.length = n) (hA : At w p (zs.map v8)) (hc : n ≤ cap) (hm : cap ≤ 9223372036854775807) :
    Calls Try.prog 43 #[.slice p n cap] w fun e w' => e = .returned (.int .u32 (Crc.leN (zs.take 4) : Nat)) ∧ ∃ m, w' = w.drewN m := by
  have h4 : 4 ≤ n := by rw [← hn, hz]; simp
  obtain ⟨bb, off, rfl, hcell⟩ := hA.addr (by rw [List.length_map]; omega)
  have ba := hb a (by rw [hz]; simp)
  have bb' := hb b (by rw [hz]; simp)
  have bc := hb c (by rw [hz]; simp)
  have bd := hb d (by rw [hz]; simp)
  have c0 : w.cell? ⟨bb, off + 0, none⟩ = some (v8 a) := hcell 0 _ (by rw [hz]; rfl)
  rw [Nat.add_zero] at c0
  have c1 : w.cell? ⟨bb, off + 1, none⟩ = some (v8 b) := hcell 1 _ (by rw [hz]; rfl)
  have c2 : w.cell? ⟨bb, off + 2, none⟩ = some (v8 c) := hcell 2 _ (by rw [hz]; rfl)
  have c3 : w.cell? ⟨bb, off + 3, none⟩ = some (v8 d) := hcell 3 _ (by rw [hz]; rfl)
  have i0 : (0 : Int) < (n : Int) := by omega
  have i1 : (1 : Int) < (n : Int) := by omega
  have i2 : (2 : Int) < (n : Int) := by omega
  have i3 : (3 : Int) < (n : Int) := by omega
  have hr : a + b * 256 + c * 65536 + d * 16777216 = ((Crc.leN (zs.take 4) : Nat) : Int) := by rw [hz]; simp only [List.take_succ_cons, List.take_zero, Crc.leN]; omega
  have HR := Lib.hid hr
  clear hcell hz hb hA hn hr
  go_enter Try.func43, Try.ntmps43
  go_wp2_with fail
  go_quiet (fail)
  go_wp2_with fail
  go_ret
  exact ⟨ret_int HR.out, _, rfl⟩
theorem four_heads {zs : List Int} (h : 4 ≤ zs.length) : ∃ a b c d rest, zs = a :: b :: c :: d :: rest := by
  rcases zs with _ | ⟨a, _ | ⟨b, _ | ⟨c, _ | ⟨d, r⟩⟩⟩⟩
  · simp at h
  · simp at h
  · simp at h
  · simp at h
  · exact ⟨a, b, c, d, r, rfl⟩
theorem fnumber_any (zs : List Int) (h4 : 4 ≤ zs.length) (hb : ∀ n ∈ zs, 0 ≤ n ∧ n ≤ 255) (p : Option Addr) (n cap : Nat) (w : World) (hn : zs.length = n) (hA : At w p (zs.map v8)) (hc : n ≤ cap) (hm : cap ≤ 9223372036854775807) :
    Calls Try.prog 43 #[.slice p n cap] w fun e w' => e = .returned (.int .u32 (Crc.leN (zs.take 4) : Nat)) ∧ ∃ m, w' = w.drewN m := by
  obtain ⟨a, b, c, d, rest, hz⟩ := four_heads h4
  exact number_any zs a b c d rest hz hb p n cap w hn hA hc hm
/-- How long a record's frame is. -/
def fsize (n : Int) : Int := if n < 1 ∨ 4000 < n then 0 else 8 + n
set_option maxHeartbeats 400000 in
theorem rsize_any (n : Int) (w : World) (h : -9223372036854775808 ≤ n ∧ n ≤ 9223372036854775807) :
    Calls Try.prog 16 #[.int .i64 n] w fun e w' => e = .returned (.int .i64 (fsize n)) ∧ w = w' := by
  obtain ⟨h0, h9⟩ := h
  have HS := Lib.hid (show fsize n = if n < 1 ∨ 4000 < n then 0 else 8 + n from rfl)
  by_cases h1 : n < 1
  all_goals by_cases h2 : 4000 < n
  all_goals try omega
  all_goals
    go_enter Try.func16, Try.ntmps16
    go_wp2_with fail
    go_ret
    exact ⟨ret_int (by rw [HS.out]; first | (simp [h1, h2]; done) | rw [if_neg (by omega)]), rfl⟩
/-- What Put and Join leave: bytes of the call's own, and an error. -/
def FDone (w0 : World) (r : List Int × Int) (e : Ending) (w : World) : Prop :=
  ∃ v, e = .returned (.tuple #[v, .int .i64 r.2]) ∧ w.ownsRow w0.heap.size 5 1 v r.1.length (r.1.map v8) ∧ Below w0.heap.size w0 w
theorem fput_no {b : List Int} (h : Frm.bad b ≠ 0) : Frm.put b = ([], Frm.bad b) := by unfold Frm.put; rw [if_neg h]
theorem fput_yes {b : List Int} (h : Frm.bad b = 0) : Frm.put b = (Frm.fr b, 0) := by unfold Frm.put; rw [if_pos h]
theorem fbad_nil {b : List Int} (h : b.length = 0) : Frm.bad b = 2 := by unfold Frm.bad; rw [if_pos h]
theorem fbad_long {b : List Int} (h : 4000 < b.length) : Frm.bad b = 3 := by unfold Frm.bad; rw [if_neg (by omega), if_pos h]
theorem fbad_ok {b : List Int} (h1 : b.length ≠ 0) (h2 : b.length ≤ 4000) : Frm.bad b = 0 := by unfold Frm.bad; rw [if_neg h1, if_neg (by omega)]
set_option maxRecDepth 100000 in
set_option maxHeartbeats 1000000 in
theorem rframe_any (zs : List Int) (n : Nat) (p : Option Addr) (cap : Nat) (w : World) (hn : zs.length = n) (h : GoodS w (zs, p, cap)) :
    Calls Try.prog 19 #[.slice p n cap] w (FDone w (Frm.put zs)) := by
  have G := Lib.hid h
  have HN := Lib.hid hn
  have hm := h.max
  have hc : n ≤ cap := by rw [← hn]; exact h.le
  simp only at hm
  clear h
  by_cases h0 : n = 0
  · have HP := Lib.hid (fput_no (b := zs) (by rw [fbad_nil (by rw [hn]; exact h0)]; omega))
    rw [fbad_nil (by rw [hn]; exact h0)] at HP
    subst h0
    clear hn
    go_enter Try.func19, Try.ntmps19
    go_wp2_with fail
    go_ret2
    exact ⟨.slice none 0 0, by rw [HP.out]; rfl, by rw [HP.out]; exact World.ownsRow_nil _ _ _ _, Below.refl _ _⟩
  · by_cases h4 : 4000 < n
    · have HP := Lib.hid (fput_no (b := zs) (by rw [fbad_long (by rw [hn]; exact h4)]; omega))
      rw [fbad_long (by rw [hn]; exact h4)] at HP
      have h0' : ((n : Int) == 0) = false := by rw [beq_eq_false_iff_ne]; omega
      clear hn h0
      go_enter Try.func19, Try.ntmps19
      go_wp2_with fail
      go_ret2
      exact ⟨.slice none 0 0, by rw [HP.out]; rfl, by rw [HP.out]; exact World.ownsRow_nil _ _ _ _, Below.refl _ _⟩
    · have HP := Lib.hid (fput_yes (b := zs) (fbad_ok (by rw [hn]; exact h0) (by omega)))
      have h0' : ((n : Int) == 0) = false := by rw [beq_eq_false_iff_ne]; omega
      have HSL := Lib.hid (Frm.sumN_lt zs)
      obtain ⟨sn, hsn⟩ : ∃ s, s = Frm.sumN zs := ⟨_, rfl⟩
      have HSN := Lib.hid (show v32 (Crc.sum zs) = .int .u32 sn by rw [hsn]; rfl)
      rw [← hsn] at HSL
      have HFR := Lib.hid (show Frm.fr zs = Frm.le4 n ++ Frm.le4 sn ++ zs by unfold Frm.fr; rw [hsn, hn])
      clear hn h0 hsn
      go_enter Try.func19, Try.ntmps19
      go_wp2_with (first
        | (have _t := tk2; at_builtin; clear tk2 _t; refine wpList_app rfl (.tmp 19) (.tmp 20) 26 rfl w.heap.size 5 Try.underlying26 kbyte_info rfl _ 8 _ rfl O4.out p n cap (zs.map v8) rfl (G.out.at_.below B4.out) (by rw [List.length_map]; exact HN.out) G.out.nil hc (kone8 _) (by omega) (by unfold maxLen; omega) B4.out.size ?_; intro v5 w5 hown5 _ hb5 hs5 _; have O5 := Lib.hid hown5; have B5 := Lib.hid (B4.out.trans hb5); clear hown5 hb5)
        | (have _t := tk1; at_builtin; clear tk1 _t; refine wpList_app rfl (.tmp 14) (.tmp 17) 26 rfl w.heap.size 5 Try.underlying26 kbyte_info rfl _ 4 _ rfl O3.out q3 4 c3 ((Frm.le4 sn).map v8) rfl A3.out rfl N3.out hc3 (kone8 _) (by omega) (by unfold maxLen; omega) B3.out.size ?_; intro v4 w4 hown4 _ hb4 hs4 _; have O4 := Lib.hid hown4; have B4 := Lib.hid (B3.out.trans hb4); clear hown4 hb4; have tk2 : True := trivial)
        | (have _t := tk0; go_at_call 31; clear tk0 _t; refine (four_any sn HSL.out _).mono ?_; rintro e w3 ⟨v3, rfl, ho3, hb3⟩; obtain ⟨q3, c3, rfl, hc3, _, hA3, _, hn3⟩ := own_at ho3; have O3 := Lib.hid (own_belowS O2.out hb3); have B3 := Lib.hid (B2.out.trans (hb3.mono B2.out.size)); have A3 := Lib.hid hA3; have N3 := Lib.hid hn3; clear ho3 hb3 hA3 hn3; have tk1 : True := trivial)
        | (go_at_call 31; refine (four_any n (by omega) w).mono ?_; rintro e w2 ⟨v2, rfl, ho2, hb2⟩; have O2 := Lib.hid ho2; have B2 := Lib.hid hb2; clear ho2 hb2; have tk0 : True := trivial)
        | (go_at_call 32; refine (rsum_any zs n p cap w2 HN.out.symm G.out.bytes (G.out.at_.below B2.out) hc hm).mono ?_; rw [HSN.out]; rintro e w9 ⟨rfl, rfl⟩))
      go_ret2
      refine ⟨_, by rw [HP.out]; rfl, ?_, B5.out⟩
      rw [HP.out]
      have h5 := O5.out
      simp only
      rw [HFR.out]
      have e1 : (Frm.le4 n ++ Frm.le4 sn ++ zs).length = 8 + n := by simp [Frm.le4_length, HN.out]; omega
      rw [e1, List.map_append, List.map_append]
      exact h5
theorem fjoin_bad {l : List (List Int)} {k : Nat} (hk : k < l.length) (h : Frm.joinE (l.take k) = 0) (hb : Frm.bad l[k] ≠ 0) : Frm.join l = ([], Frm.bad l[k]) := by
  have e : Frm.joinE l = Frm.bad l[k] := by
    conv => lhs; rw [← List.take_append_drop k l, List.drop_eq_getElem_cons hk]
    exact Frm.joinE_prefix _ _ _ h hb
  unfold Frm.join
  rw [e, if_neg hb]
theorem fjoin_next {l : List (List Int)} {k : Nat} (hk : k < l.length) (h : Frm.joinE (l.take k) = 0) (hb : Frm.bad l[k] = 0) : Frm.joinE (l.take (k + 1)) = 0 ∧ Frm.frs (l.take (k + 1)) = Frm.frs (l.take k) ++ Frm.fr l[k] := by
  rw [List.take_succ_eq_append_getElem hk]
  refine ⟨by rw [Frm.joinE_append _ _ h]; exact hb, ?_⟩
  rw [Frm.frs_append, Frm.frs_cons, Frm.frs_nil, List.append_nil]
theorem fjoin_all {l : List (List Int)} (h : Frm.joinE l = 0) : Frm.join l = (Frm.frs l, 0) := by unfold Frm.join; rw [if_pos h]
set_option maxRecDepth 100000 in
set_option maxHeartbeats 1000000 in
theorem rjoins_any (l : List (List Int)) (p : Option Addr) (n c : Nat) (w : World) (h : Recs w p n c l) (hn : n ≤ 1000) (hB : ∀ x ∈ l, x.length ≤ 100000) :
    Calls Try.prog 13 #[.slice p n c] w (FDone w (Frm.join l)) := by
  have HX := Lib.hid h
  have HBB := Lib.hid hB
  have m1 := h.max
  have m2 := h.le
  clear h hB
  go_enter Try.func13, Try.ntmps13
  go_wp2_with fail
  go_loopw [4, 5, 6, 7] (fun vv i _ _ wr => ∃ (k : Nat) (v : Value) (out : List Int), i = .int .i64 k ∧ v = vv ∧ k ≤ n ∧ Hid (out = Frm.frs (l.take k)) ∧ Hid (Frm.joinE (l.take k) = 0) ∧ out.length ≤ 100008 * k ∧ Hid (wr.ownsRow w.heap.size 5 1 v out.length (out.map v8)) ∧ Hid (Below w.heap.size w wr)) (fun _ i _ _ _ => n - (intOf i).toNat)
  case atStart => exact ⟨0, _, [], rfl, rfl, by omega, Lib.hid rfl, Lib.hid rfl, by simp, Lib.hid (World.ownsRow_nil _ _ _ _), Lib.hid (Below.refl _ _)⟩
  case round =>
    obtain ⟨k, v, out, rfl, rfl, hk, HOU, HJ, hol, HO, HB⟩ := hrel
    by_cases hlt : k < n
    · have hkx : k < l.length := by rw [← HX.out.len]; exact hlt
      obtain ⟨b, off, q, d, rfl, a1, hg⟩ := (HX.out.below HB.out).get k hkx
      have hxl := HBB.out _ (List.getElem_mem hkx)
      have HBAD := Lib.hid (fjoin_bad hkx HJ.out)
      have HNEX := Lib.hid (fjoin_next hkx HJ.out)
      obtain ⟨x, hx⟩ : ∃ x, x = l[k] := ⟨_, rfl⟩
      rw [← hx] at a1 hg hxl HBAD HNEX
      have HF := Lib.hid (rframe_any x x.length q d wr rfl hg)
      obtain ⟨m, hm⟩ : ∃ m, m = x.length := ⟨_, rfl⟩
      rw [← hm] at a1 HF hxl
      by_cases hbad : Frm.bad x = 0
      · rw [fput_yes hbad] at HF
        have HN2 := Lib.hid (HNEX.out hbad)
        have HFL := Lib.hid (show (Frm.fr x).length = 8 + m by rw [Frm.fr_length, hm])
        clear HNEX HBAD hbad hx hkx hg hm
        go_wp2_with (first
          | (go_at_call 19; refine HF.out.mono ?_; rintro e w2 ⟨v2, rfl, ho2, hb2⟩; dsimp only at ho2 ⊢; obtain ⟨q2, c2, rfl, hc2, _, hA2, _, hn2⟩ := own_at ho2; rw [HFL.out] at hc2 ⊢; have O2 := Lib.hid (own_belowS HO.out hb2); have B2 := Lib.hid (HB.out.trans (hb2.mono HB.out.size)); have A2 := Lib.hid hA2; have N2 := Lib.hid hn2; clear ho2 hb2 hA2 hn2; have tk1 : True := trivial)
          | (have _t := tk1; at_builtin; clear tk1 _t; refine wpList_app rfl (.tmp 25) (.tmp 26) 26 rfl w.heap.size 5 Try.underlying26 kbyte_info rfl v _ _ rfl O2.out q2 (8 + m) c2 ((Frm.fr x).map v8) rfl A2.out (by rw [List.length_map]; exact HFL.out) N2.out hc2 (kone8 _) (by omega) (by unfold maxLen; omega) B2.out.size ?_; intro v4 w4 hown4 _ hb4 hs4 _; have O4 := Lib.hid hown4; have B4 := Lib.hid (B2.out.trans hb4); clear hown4 hb4))
        go_roundw
        case rel => exact ⟨k + 1, _, out ++ Frm.fr x, by go_num, rfl, by omega, Lib.hid (by rw [HN2.out.2, HOU.out]), Lib.hid HN2.out.1, by rw [List.length_append, HFL.out]; omega, Lib.hid (by have := O4.out; rw [List.length_append, HFL.out, List.map_append]; exact this), B4⟩
        case measure => simp [intOf]; omega
      · rw [fput_no hbad] at HF
        have HP := Lib.hid (HBAD.out hbad)
        obtain ⟨er, her⟩ : ∃ e, e = Frm.bad x := ⟨_, rfl⟩
        rw [← her] at HF HP hbad
        have hne : (er == 0) = false := by rw [beq_eq_false_iff_ne]; exact hbad
        clear HNEX HBAD hbad hx hkx hg hm her
        go_wp2_with (first
          | (go_at_call 19; refine HF.out.mono ?_; rintro e w2 ⟨v2, rfl, ho2, hb2⟩; dsimp only at ho2 ⊢; obtain ⟨q2, c2, rfl, hc2, _, hA2, _, hn2⟩ := own_at ho2; have B2 := Lib.hid (HB.out.trans (hb2.mono HB.out.size)); clear ho2 hb2 hA2 hn2))
        go_ret2
        exact ⟨.slice none 0 0, by rw [HP.out]; rfl, by rw [HP.out]; exact World.ownsRow_nil _ _ _ _, B2.out⟩
    · obtain rfl : k = n := by omega
      have hj := HJ.out
      rw [List.take_of_length_le (by rw [← HX.out.len]; exact Nat.le_refl _)] at hj
      have HP := Lib.hid (fjoin_all hj)
      have HOU2 := Lib.hid (show out = Frm.frs l by rw [HOU.out, List.take_of_length_le (by rw [← HX.out.len]; exact Nat.le_refl _)])
      clear hj
      go_wp2_with fail
      go_ret2
      exact ⟨v, by rw [HP.out]; rfl, by rw [HP.out]; simp only; rw [← HOU2.out]; exact HO.out, HB.out⟩
end Go.Proofs.Ytfjopbgnijfajaa
