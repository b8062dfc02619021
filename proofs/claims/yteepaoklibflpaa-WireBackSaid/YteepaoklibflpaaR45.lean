/-
  A group's letters, and a shape's, handed on to the reader's method.
  What Get answers.
-/
import Derived.Test.YteepaoklibflpaaR26
import Derived.Test.YteepaoklibflpaaR44
import Derived.ChangeAlike
namespace Go.Proofs.Yteepaoklibflpaa
section
set_option linter.unusedSimpArgs false
set_option linter.unusedVariables false
open Go.RowKit Sha
set_option maxRecDepth 100000 in
set_option maxHeartbeats 2000000 in
theorem repeat_r {σ : Type} {ga B : Nat} {f : Int → σ → σ × Int × Int} {R : σ → World → Prop} (D : Doer Try.prog 35 ga B f R) (g : ByteArray) (gl : List Int) (hgl : gl = nums g) (hg : ∀ c ∈ gl, Fld.isC c) (times : Int) (ht : times ≤ 9223372036854775807) (st : σ) (w : World) (hR : R st w) (hs : g.size ≤ 40) :
    Calls Try.prog 47 #[.string g, .int .i64 times, .func (.func 35) #[.pointer (some ⟨ga, 0, none⟩)] #[]] w (RDone R (Fld.rep f gl times.toNat st) w) := by
  have HR := Lib.hid hR
  have HD := Lib.hid D
  have HG := Lib.hid hg
  have HL := Lib.hid hgl
  have H128 := Lib.hid (show ∀ c ∈ nums g, c < 128 from fun c hc => isC_lt (hg c (by rw [hgl]; exact hc)))
  clear hR D hg hgl
  obtain ⟨T, hT⟩ : ∃ T, T = times.toNat := ⟨_, rfl⟩
  rw [← hT]
  have hT1 : T = times.toNat := hT
  have HT := Lib.hid hT
  clear hT hT1
  go_enter Try.func47, Try.ntmps47
  go_wp2_with fail
  go_loopg [12] T (fun gh i wr => ∃ (k : Nat) (sk : σ), i = .int .i64 k ∧ gh = T - k ∧ k ≤ T ∧ Hid (Fld.rep f gl T st = Fld.rep f gl (T - k) sk) ∧ Hid (R sk wr) ∧ Hid (ItersKept w wr))
  case atStart => exact ⟨0, st, rfl, rfl, by omega, rfl, HR, ItersKept.refl _⟩
  case round =>
    obtain ⟨k, sk, rfl, rfl, hk, HE, HK, HO⟩ := hrel
    clear HR
    by_cases hlt : (k : Int) < times
    · have hkT : k + 1 ≤ T := by have := HT.out; omega
      have HE1 := Lib.hid (show Fld.rep f gl T st = Fld.rep f gl ((T - (k + 1)) + 1) sk by rw [show T - (k + 1) + 1 = T - k by omega]; exact HE.out)
      clear HE
      go_wp2_with fail
      have HI0 := Lib.hid (World.iter_heap wr g 0)
      have HK0 := Lib.hid (HD.out.keepA _ _ (.stringIter g 0) HK.out)
      have HO0 := Lib.hid (ItersBut.new HO.out (.stringIter g 0))
      have HS := Lib.hid (show (wr.iter g 0) = wr.alloc (.stringIter g 0) from rfl)
      rw [← HS.out] at HK0 HO0
      clear HS
      have hgb := HD.out.base _ _ HK.out
      generalize wr.iter g 0 = wz at *
      generalize wr.heap.size = gi at *
      go_loopg [8] g.size (fun gh2 c wi => ∃ (j : Nat) (sj : σ), j ≤ g.size ∧ gh2 = g.size - j ∧ Hid (wi.heap[gi]? = some (.stringIter g j)) ∧ Hid (Fld.once f gl sk = Fld.once f ((nums g).drop j) sj) ∧ Hid (R sj wi) ∧ Hid (ItersBut gi w wi))
      case atStart => exact ⟨0, sk, by omega, rfl, HI0, Lib.hid (by rw [List.drop_zero, HL.out]), HK0, HO0⟩
      case round =>
        obtain ⟨j, sj, hj, rfl, HI, HF, HJ, HP⟩ := hrel
        clear HI0 HK0 HO0 HK HO
        by_cases hp : j < g.size
        · obtain ⟨c, hn, hd⟩ := next_isL Try.prog g j hp H128.out
          have hnx := fun ty => hn.run wr gi ty HI.out
          have HC := Lib.hid (HG.out c (by rw [HL.out]; exact List.mem_of_mem_drop (by rw [hd]; exact List.mem_cons_self ..)))
          have HI2 := Lib.hid (Lib.iterAt_heap _ _ _ _ (j + 1) HI.out)
          have HJ2 := Lib.hid (HD.out.keepI _ _ _ _ _ (j + 1) HJ.out hgb HI.out)
          have HP2 := Lib.hid (HP.out.move g (j + 1))
          have HF2 := Lib.hid (HF.out.trans (congrArg (fun l => Fld.once f l sj) hd))
          clear hd hn
          by_cases h0 : (f c sj).2.2 = 0
          · have h0' : ((f c sj).2.2 == 0) = true := by simpa using h0
            have HN := Lib.hid (HF2.out.trans (once_ok h0))
            have H0 := Lib.hid h0
            clear h0
            go_wp2_with fail
            refine (HD.out.step c sj _ HC.out HJ2.out).mono ?_
            rintro e w2 ⟨rfl, hr2, hi2⟩
            have HR2 := Lib.hid hr2
            have HI3 := Lib.hid (hi2 _ _ _ HI2.out)
            have HP3 := Lib.hid (HP2.out.on hi2)
            clear hr2 hi2
            go_wp2_with fail
            go_roundg (g.size - (j + 1))
            case measure => omega
            case rel => exact ⟨j + 1, _, by omega, rfl, HI3, HN, HR2, HP3⟩
          · have h0' : ((f c sj).2.2 == 0) = false := by simpa using h0
            have HN := Lib.hid (HE1.out.trans (rep_err (HF2.out.trans (once_err h0)) h0))
            clear h0
            go_wp2_with fail
            refine (HD.out.step c sj _ HC.out HJ2.out).mono ?_
            rintro e w2 ⟨rfl, hr2, hi2⟩
            have HR2 := Lib.hid hr2
            have HP3 := Lib.hid (HP2.out.on hi2)
            clear hr2 hi2
            go_wp2_with fail
            try rw [Exit.noGoto_ret]
            go_ret
            exact ⟨by rw [HN.out]; rfl, by rw [HN.out]; exact HR2.out, HP3.out.kept⟩
        · obtain rfl : j = g.size := by omega
          have hnx := fun ty => Lib.run_next_end_at (P := Try.prog) wr gi g g.size ty HI.out (by omega)
          have HN := Lib.hid (HE1.out.trans (rep_ok (HF.out.trans (by rw [← nums_length, List.drop_length]; rfl))))
          go_wp2_with fail
          go_roundg (T - (k + 1))
          case measure => omega
          case rel => exact ⟨k + 1, sj, by go_num, rfl, by omega, HN, HJ, HP.out.kept⟩
    · have HZ := Lib.hid (show Fld.rep f gl T st = (sk, 0) by rw [HE.out, show T - k = 0 by have := HT.out; omega]; rfl)
      go_wp2_with fail
      go_ret
      exact ⟨by rw [HZ.out]; rfl, by rw [HZ.out]; exact HK.out, HO.out⟩
set_option maxRecDepth 100000 in
set_option maxHeartbeats 2000000 in
theorem walk_r {σ : Type} {ga B : Nat} {f : Int → σ → σ × Int × Int} {R : σ → World → Prop} (D : Doer Try.prog 35 ga B f R) (s : ByteArray) (hs : s.size ≤ 40) (hc : Fld.chkL (nums s) false false = true) (st : σ) (w : World) (hR : R st w) :
    Calls Try.prog 34 #[.string s, .func (.func 35) #[.pointer (some ⟨ga, 0, none⟩)] #[]] w (RDone R (Fld.walkL f none 0 (nums s) st) w) := by
  have H128 := Lib.hid (chkL_lt _ _ _ hc)
  have HW0 := Lib.hid (show WRel f (nums s) st 0 0 0 none false st from ⟨Or.inl ⟨rfl, rfl⟩, by simp, by rw [List.drop_zero]; exact hc, by rw [List.drop_zero]⟩)
  have HD := Lib.hid D
  have HR := Lib.hid hR
  clear hc D hR
  obtain ⟨l, hl⟩ : ∃ l, l = nums s := ⟨_, rfl⟩
  rw [← hl] at HW0 H128 ⊢
  have HL := Lib.hid hl
  have HS := Lib.hid (show l.length = s.size by rw [hl, nums_length])
  clear hl
  go_enter Try.func34, Try.ntmps34
  go_wp2_with fail
  go_step3
  go_wp2_with fail
  go_step3
  go_wp2_with fail
  have HI0 := Lib.hid (World.iter_heap w s 0)
  have HK0 := Lib.hid (HD.out.keepA _ _ (.stringIter s 0) HR.out)
  have HO0 := Lib.hid (ItersBut.new (ItersKept.refl w) (.stringIter s 0))
  have HZ := Lib.hid (show (w.iter s 0) = w.alloc (.stringIter s 0) from rfl)
  rw [← HZ.out] at HK0 HO0
  have hgb := HD.out.base _ _ HR.out
  clear HZ HR
  generalize w.iter s 0 = wz at *
  obtain ⟨gi, hgi⟩ : ∃ gi, gi = w.heap.size := ⟨_, rfl⟩
  rw [← hgi] at HI0 HO0 hgb ⊢
  clear hgi
  go_loopg [5, 6] s.size (fun gh b t wr => ∃ (k bg : Nat) (tt : Int) (gO : Option (List Int)) (kk : Bool) (sk : σ), k ≤ s.size ∧ gh = s.size - k ∧ b = .int .i64 bg ∧ t = .int .i64 tt ∧ tt ≤ 9223372036854775807 ∧ Hid (wr.heap[gi]? = some (.stringIter s k)) ∧ Hid (WRel f l st k bg tt gO kk sk) ∧ Hid (R sk wr) ∧ Hid (ItersBut gi w wr))
  case atStart => exact ⟨0, 0, 0, none, false, st, by omega, rfl, rfl, rfl, by omega, HI0, HW0, HK0, HO0⟩
  case round =>
    obtain ⟨k, bg, tt, gO, kk, sk, hk, rfl, rfl, rfl, htt, HI, HW, HJ, HP⟩ := hrel
    clear HI0 HK0 HO0 HW0
    by_cases hp : k < s.size
    · obtain ⟨c, hn, hd⟩ := next_isL Try.prog s k hp (by rw [← HL.out]; exact H128.out)
      rw [← HL.out] at hd
      have hnx := fun ty => hn.run wr gi ty HI.out
      have HI2 := Lib.hid (Lib.iterAt_heap _ _ _ _ (k + 1) HI.out)
      have HJ2 := Lib.hid (HD.out.keepI _ _ _ _ _ (k + 1) HJ.out hgb HI.out)
      have HP2 := Lib.hid (HP.out.move s (k + 1))
      have HDR := Lib.hid hd
      clear hd hn
      cases gO with
      | none =>
        have hbg : bg = 0 := by
          rcases HW.out.grp with h | ⟨cs, h, _⟩
          · exact h.2
          · cases h
        subst hbg
        have hck := HW.out.chk
        rw [HDR.out] at hck
        by_cases h0 : (f c sk).2.2 = 0
        · have h0' : ((f c sk).2.2 == 0) = true := by simpa using h0
          have hlim := (HD.out.lim c sk _ HJ.out).1
          rcases chkL_none hck with ⟨hC, h40, _⟩ | ⟨h40, _⟩
          · have HN := Lib.hid (HW.out.one HDR.out h40 h0)
            have HC := Lib.hid hC
            have t40 : (c == 40) = false := by simpa using h40
            have t41 : (c == 41) = false := by rw [beq_eq_false_iff_ne]; unfold Fld.isC at hC; omega
            clear h0 hck h40 hC
            go_wp2_with fail
            refine (HD.out.step c sk _ HC.out HJ2.out).mono ?_
            rintro e w2 ⟨rfl, hr2, hi2⟩
            have HR2 := Lib.hid hr2
            have HI3 := Lib.hid (hi2 _ _ _ HI2.out)
            have HP3 := Lib.hid (HP2.out.on hi2)
            clear hr2 hi2
            go_wp2_with fail
            go_roundg (s.size - (k + 1))
            case measure => omega
            case rel => exact ⟨k + 1, 0, _, none, true, _, by omega, rfl, rfl, rfl, hlim, HI3, HN, HR2, HP3⟩
          · subst h40
            have HN := Lib.hid (HW.out.open_ HDR.out rfl h0)
            have HC := Lib.hid (show Fld.isC 40 from Or.inr (Or.inr (Or.inr rfl)))
            clear h0 hck
            go_wp2_with fail
            refine (HD.out.step 40 sk _ HC.out HJ2.out).mono ?_
            rintro e w2 ⟨rfl, hr2, hi2⟩
            have HR2 := Lib.hid hr2
            have HI3 := Lib.hid (hi2 _ _ _ HI2.out)
            have HP3 := Lib.hid (HP2.out.on hi2)
            clear hr2 hi2
            go_wp2_with fail
            go_roundg (s.size - (k + 1))
            case measure => omega
            case rel => exact ⟨k + 1, k + 1, _, some [], false, _, by omega, rfl, by go_num, rfl, hlim, HI3, HN, HR2, HP3⟩
        · have h0' : ((f c sk).2.2 == 0) = false := by simpa using h0
          have HN := Lib.hid (HW.out.walk.trans ((congrArg (fun x => Fld.walkL f none tt x sk) HDR.out).trans (walk_err h0)))
          rcases chkL_none hck with ⟨hC, h40, _⟩ | ⟨h40, _⟩
          · have HC := Lib.hid hC
            have t40 : (c == 40) = false := by simpa using h40
            have t41 : (c == 41) = false := by rw [beq_eq_false_iff_ne]; unfold Fld.isC at hC; omega
            clear h0 hck h40 hC
            go_wp2_with fail
            refine (HD.out.step c sk _ HC.out HJ2.out).mono ?_
            rintro e w2 ⟨rfl, hr2, hi2⟩
            have HR2 := Lib.hid hr2
            have HP3 := Lib.hid (HP2.out.on hi2)
            clear hr2 hi2
            go_wp2_with fail
            try rw [Exit.noGoto_ret]
            go_ret
            exact ⟨by rw [HN.out]; rfl, by rw [HN.out]; exact HR2.out, HP3.out.kept⟩
          · subst h40
            have HC := Lib.hid (show Fld.isC 40 from Or.inr (Or.inr (Or.inr rfl)))
            clear h0 hck
            go_wp2_with fail
            refine (HD.out.step 40 sk _ HC.out HJ2.out).mono ?_
            rintro e w2 ⟨rfl, hr2, hi2⟩
            have HR2 := Lib.hid hr2
            have HP3 := Lib.hid (HP2.out.on hi2)
            clear hr2 hi2
            go_wp2_with fail
            try rw [Exit.noGoto_ret]
            go_ret
            exact ⟨by rw [HN.out]; rfl, by rw [HN.out]; exact HR2.out, HP3.out.kept⟩
      | some cs =>
        obtain ⟨hb0, hbk, hcs⟩ : 0 < bg ∧ bg ≤ k ∧ cs = (l.take k).drop bg := by
          rcases HW.out.grp with h | ⟨cs', h, h1, h2, h3⟩
          · cases h.1
          · cases h; exact ⟨h1, h2, h3⟩
        by_cases h41 : c = 41
        · subst h41
          have HX := Lib.hid (show cs = nums (s.extract bg k) by rw [nums_extract, ← HL.out]; exact hcs)
          have HXL := Lib.hid (show (s.extract bg k).size ≤ 40 by rw [ByteArray.size_extract]; omega)
          clear hcs
          obtain ⟨r, hr⟩ : ∃ r, r = Fld.rep f cs tt.toNat sk := ⟨_, rfl⟩
          obtain ⟨sk', er⟩ := r
          have HRP := Lib.hid hr
          clear hr
          by_cases h0 : er = 0
          · have HN := Lib.hid (HW.out.shut HDR.out (by rw [← HRP.out, h0]))
            have h0' : (er == 0) = true := by simpa using h0
            clear h0
            go_wp2_with fail
            refine (repeat_r HD.out _ cs HX.out (HW.out.ok cs rfl) tt htt sk _ HJ2.out HXL.out).mono ?_
            rw [← HRP.out]
            rintro e w2 ⟨rfl, hr2, hi2⟩
            have HR2 := Lib.hid hr2
            have HI3 := Lib.hid (hi2 _ _ _ HI2.out)
            have HP3 := Lib.hid (HP2.out.on hi2)
            clear hr2 hi2
            go_wp2_with fail
            try rw [Exit.noGoto_ret]
            go_roundg (s.size - (k + 1))
            case measure => omega
            case rel => exact ⟨k + 1, 0, tt, none, kk, sk', by omega, rfl, rfl, rfl, htt, HI3, HN, HR2, HP3⟩
          · have HN := Lib.hid (HW.out.walk.trans ((congrArg (fun x => Fld.walkL f (some cs) tt x sk) HDR.out).trans (walk_bad HRP.out.symm h0)))
            have h0' : (er == 0) = false := by simpa using h0
            clear h0
            go_wp2_with fail
            refine (repeat_r HD.out _ cs HX.out (HW.out.ok cs rfl) tt htt sk _ HJ2.out HXL.out).mono ?_
            rw [← HRP.out]
            rintro e w2 ⟨rfl, hr2, hi2⟩
            have HR2 := Lib.hid hr2
            have HP3 := Lib.hid (HP2.out.on hi2)
            clear hr2 hi2
            go_wp2_with fail
            try rw [Exit.noGoto_ret]
            go_ret
            exact ⟨by rw [HN.out]; rfl, by rw [HN.out]; exact HR2.out, HP3.out.kept⟩
        · have HN := Lib.hid (HW.out.in_ HDR.out h41)
          have t41 : (c == 41) = false := by simpa using h41
          clear h41 hcs
          go_wp2_with fail
          try rw [Exit.noGoto_ret]
          go_roundg (s.size - (k + 1))
          case measure => omega
          case rel => exact ⟨k + 1, bg, tt, _, true, sk, by omega, rfl, rfl, rfl, htt, HI2, HN, HJ2, HP2⟩
    · obtain rfl : k = s.size := by omega
      have hnx := fun ty => Lib.run_next_end_at (P := Try.prog) wr gi s s.size ty HI.out (by omega)
      have HN := Lib.hid (HW.out.walk.trans ((congrArg (fun x => Fld.walkL f gO tt x sk) (show l.drop s.size = [] by rw [← HS.out, List.drop_length])).trans walk_end))
      go_wp2_with fail
      go_ret
      exact ⟨by rw [HN.out]; rfl, by rw [HN.out]; exact HJ.out, HP.out.kept⟩
end
section
set_option linter.unusedSimpArgs false
set_option linter.unusedVariables false
open Go.RowKit Sha
open Fld (Itm)
theorem get_one (w0 : World) (ga : Nat) (bs : List Int) (p : Option Addr) (n c : Nat) (hin : RIn w0 ga bs p n c) (hn : n ≤ 1000000) (l : Int) (hl : Fld.isC l) (st : Nat × List Itm) (w : World) (h : RAt w0 ga bs p n c st w) :
    Calls Try.prog 35 #[.pointer (some ⟨ga, 0, none⟩), .int .i32 l] w (GDone w0 ga bs p n c l st w) := by
  obtain ⟨at_, xs⟩ := st
  rcases hl with rfl | rfl | rfl | rfl
  · exact get_n w0 ga bs p n c hin hn at_ xs w h
  · exact get_b w0 ga bs p n c hin hn at_ xs w h
  · exact get_d w0 ga bs p n c hin hn at_ xs w h
  · exact get_o w0 ga bs p n c hin hn at_ xs w h
theorem RSt.keepA {w0 w : World} {ga : Nat} {bs : List Int} {p : Option Addr} {n c : Nat} {st : Nat × List Itm} {v : Value} {ys : List Hdr} (h : RSt w0 ga bs p n c st v ys w) (o : Obj) : RSt w0 ga bs p n c st v ys (w.alloc o) :=
  ⟨h.blk.old o, h.own.alloc o, h.items, fun y hy => (h.good y hy).carry fun _ _ hb => hb.old o, h.at_, h.few, h.below.alloc h.below.size o⟩
theorem RSt.keepI {w0 w : World} {ga : Nat} {bs : List Int} {p : Option Addr} {n c : Nat} {st : Nat × List Itm} {v : Value} {ys : List Hdr} (h : RSt w0 ga bs p n c st v ys w) {gi : Nat} {s : ByteArray} {k : Nat} (hg : w0.heap.size ≤ gi) (hi : w.heap[gi]? = some (.stringIter s k)) (k' : Nat) : RSt w0 ga bs p n c st v ys (w.iterAt gi s k') := by
  have hc := cells_iterAt hi k'
  exact ⟨hc.2 _ _ _ _ h.blk, own_carry h.own fun k c fz _ hh => hc.2 _ _ _ _ hh, h.items, fun y hy => (h.good y hy).carry fun _ _ hb => hc.2 _ _ _ _ hb, h.at_, h.few, Lib.below_iterAt h.below hg s k'⟩
theorem rd_lim (bs : List Int) (hb : ∀ n ∈ bs, 0 ≤ n ∧ n ≤ 255) : 0 ≤ (Fld.rd 0 0 bs).2.1 ∧ (Fld.rd 0 0 bs).2.1 ≤ 9223372036854775807 := by
  rcases Fld.rd_err bs 0 0 with h | ⟨_, h⟩
  · obtain ⟨m, h1, h2, _⟩ := Fld.rd_back0 bs (Fld.rd 0 0 bs).2.1 (Fld.rd 0 0 bs).2.2 hb (by rw [← h])
    omega
  · omega
theorem getS_lim (bs : List Int) (hb : ∀ n ∈ bs, 0 ≤ n ∧ n ≤ 255) (c : Int) (st : Nat × List Itm) : (Fld.getS bs c st).2.1 ≤ 9223372036854775807 ∧ -9223372036854775808 ≤ (Fld.getS bs c st).2.1 := by
  have h1 := rd_lim (bs.drop st.1) (fun n hn => hb n (List.mem_of_mem_drop hn))
  have h2 : 0 ≤ (Fld.rdTop (bs.drop st.1)).2.1 ∧ (Fld.rdTop (bs.drop st.1)).2.1 ≤ 9223372036854775807 := by
    unfold Fld.rdTop; split
    · simp
    · exact h1
  unfold Fld.getS
  dsimp only
  repeat' split
  all_goals (dsimp only; omega)
theorem doer_r (w0 : World) (ga : Nat) (bs : List Int) (p : Option Addr) (n c : Nat) (hin : RIn w0 ga bs p n c) (hn : n ≤ 1000000) : Doer Try.prog 35 ga w0.heap.size (Fld.getS bs) (RAt w0 ga bs p n c) where
  step l st w hl hR := get_one w0 ga bs p n c hin hn l hl st w hR
  keepA st w o h := by obtain ⟨v, ys, h⟩ := h; exact ⟨v, ys, h.keepA o⟩
  keepI st w gi s q q' h hg hi := by obtain ⟨v, ys, h⟩ := h; exact ⟨v, ys, h.keepI hg hi q'⟩
  base st w h := by obtain ⟨v, ys, h⟩ := h; exact h.below.size
  lim l st w _ := getS_lim bs hin.bd l st
theorem told_of {w : World} {B B0 : Nat} {v : Value} {ys : List Hdr} {l : List Itm} (ho : w.ownsRow B 98 34 v l.length (ys.flatMap cellsI)) (hi : ys.map (·.1) = l) (hg : ∀ y ∈ ys, GoodR B0 w y.1 y.2.1 y.2.2) : ∃ q c', v = .slice q l.length c' ∧ Told w q l.length c' l := by
  have hi : ∀ q, At w q (ys.flatMap cellsI) → ItemsAt w q l := fun q hA => ⟨ys, hi, hA, fun y hy => (hg y hy).good⟩
  rcases ho.2 with ⟨hv, h0⟩ | ⟨g, cap, cur, hv, hg, hh, h1, h2, h3, h4⟩
  · refine ⟨none, 0, by rw [hv, h0], rfl, by omega, by omega, fun _ => rfl, hi none (Or.inl ?_)⟩
    have := ho.1
    rw [h0] at this
    exact List.eq_nil_of_length_eq_zero (by simpa using this)
  · refine ⟨_, cap, hv, rfl, h1, by unfold maxLen at h2; omega, (fun h => by cases h), hi _ (Or.inr ⟨g, 0, rfl, fun i u hu => ?_⟩)⟩
    have := ho.cells (g := g) (by rw [hv]; rfl) i u hu
    rwa [Addr.add_mid] at this
theorem RSt.told {w0 w : World} {ga : Nat} {bs : List Int} {p : Option Addr} {n c : Nat} {st : Nat × List Itm} {v : Value} {ys : List Hdr} (h : RSt w0 ga bs p n c st v ys w) : ∃ q c', v = .slice q st.2.length c' ∧ Told w q st.2.length c' st.2 :=
  told_of h.own h.items h.good
/-- Items whose bytes lie in blocks of bytes of their own. -/
structure ToldR (B0 : Nat) (w : World) (p : Option Addr) (n c : Nat) (l : List Itm) : Prop where
  told : Told w p n c l
  rows : ∃ ys : List Hdr, ys.map (·.1) = l ∧ At w p (ys.flatMap cellsI) ∧ ∀ y ∈ ys, GoodR B0 w y.1 y.2.1 y.2.2
theorem ToldR.none_ (B0 : Nat) (w : World) : ToldR B0 w none 0 0 [] := ⟨Told.none_ w, [], rfl, At.nil _ _, by simp⟩
theorem ToldR.mono {B0 B1 : Nat} {w : World} {p : Option Addr} {n c : Nat} {l : List Itm} (h : ToldR B0 w p n c l) (hb : B1 ≤ B0) : ToldR B1 w p n c l := ⟨h.told, by obtain ⟨ys, h1, h2, h3⟩ := h.rows; exact ⟨ys, h1, h2, fun y hy => (h3 y hy).mono hb⟩⟩
theorem told_ofR {w : World} {B B0 : Nat} {v : Value} {ys : List Hdr} {l : List Itm} (ho : w.ownsRow B 98 34 v l.length (ys.flatMap cellsI)) (hi : ys.map (·.1) = l) (hg : ∀ y ∈ ys, GoodR B0 w y.1 y.2.1 y.2.2) : ∃ q c', v = .slice q l.length c' ∧ ToldR B0 w q l.length c' l := by
  obtain ⟨q, c', hv, ht⟩ := told_of ho hi hg
  refine ⟨q, c', hv, ht, ys, hi, ?_, hg⟩
  rcases ho.2 with ⟨hv2, h0⟩ | ⟨g, cap, cur, hv2, hgg, hh, h1, h2, h3, h4⟩
  · left
    have := ho.1
    rw [h0] at this
    exact List.eq_nil_of_length_eq_zero (by simpa using this)
  · rw [hv] at hv2
    simp only [Value.slice.injEq] at hv2
    refine Or.inr ⟨g, 0, hv2.1, fun i u hu => ?_⟩
    have := ho.cells (g := g) (by rw [hv, hv2.1]; rfl) i u hu
    rwa [Addr.add_mid] at this
theorem if_ne : (98 : TypeId) ≠ 57 := by decide
theorem uf_ne : (5 : TypeId) ≠ 57 := by decide
theorem RSt.toldF {w0 w : World} {ga gf : Nat} {bs : List Int} {p : Option Addr} {n c : Nat} {at_ : Nat} {l : List Itm} {q : Option Addr} {c' : Nat} {ys : List Hdr} {cs : List Value} (h : RSt w0 ga bs p n c (at_, l) (.slice q l.length c') ys w) (hk : Blk w gf cs 57) (u0 u1 : Value) :
    Told ((w.setCell ⟨gf, 0, none⟩ u0).setCell ⟨gf, 1, none⟩ u1) q l.length c' l := by
  obtain ⟨q2, c2, hv, ht⟩ := told_of (own_set (own_set h.own hk if_ne 0 u0) (hk.set 0 u0) if_ne 1 u1) h.items (fun y hy => (h.good y hy).carry fun g cs hb => (hb.setOther _ _ (blk_ne hb hk uf_ne)).setOther _ _ (blk_ne hb hk uf_ne))
  simp only [Value.slice.injEq] at hv
  obtain ⟨rfl, _, rfl⟩ := hv
  exact ht
theorem RSt.toldFR {w0 w : World} {ga gf : Nat} {bs : List Int} {p : Option Addr} {n c : Nat} {at_ : Nat} {l : List Itm} {q : Option Addr} {c' : Nat} {ys : List Hdr} {cs : List Value} (h : RSt w0 ga bs p n c (at_, l) (.slice q l.length c') ys w) (hk : Blk w gf cs 57) (u0 u1 : Value) :
    ToldR w0.heap.size ((w.setCell ⟨gf, 0, none⟩ u0).setCell ⟨gf, 1, none⟩ u1) q l.length c' l := by
  obtain ⟨q2, c2, hv, ht⟩ := told_ofR (own_set (own_set h.own hk if_ne 0 u0) (hk.set 0 u0) if_ne 1 u1) h.items (fun y hy => (h.good y hy).carry fun g cs hb => (hb.setOther _ _ (blk_ne hb hk uf_ne)).setOther _ _ (blk_ne hb hk uf_ne))
  simp only [Value.slice.injEq] at hv
  obtain ⟨rfl, _, rfl⟩ := hv
  exact ht
def GetDoneR (w0 : World) (r : List Itm × Int × Nat) (e : Ending) (w : World) : Prop :=
  ∃ q n c, e = .returned (.tuple #[.slice q n c, .agg #[.int .i64 r.2.1, .int .i64 (r.2.2 : Int)]]) ∧ ToldR w0.heap.size w q n c r.1 ∧ Below w0.heap.size w0 w
/-- What Get leaves: items, an error and its place. -/
def GetDone (w0 : World) (r : List Itm × Int × Nat) (e : Ending) (w : World) : Prop :=
  ∃ q n c, e = .returned (.tuple #[.slice q n c, .agg #[.int .i64 r.2.1, .int .i64 (r.2.2 : Int)]]) ∧ Told w q n c r.1 ∧ Below w0.heap.size w0 w
theorem get_bad {s b : List Int} (h : Fld.chk s = false) : Fld.get s b = ([], 2, 0) := by simp [Fld.get, h]
theorem get_walked {s b : List Int} (h : Fld.chk s = true) {st : Nat × List Itm} {e : Int} (hw : Fld.walkL (Fld.getS b) none 0 s (0, []) = (st, e)) :
    Fld.get s b = if e = 0 then (if st.1 < b.length then ([], 4, st.1) else (st.2, 0, 0)) else ([], e, st.1) := by simp [Fld.get, h, hw]
set_option maxRecDepth 100000 in
set_option maxHeartbeats 2000000 in
theorem getF_bad (s : ByteArray) (hs : s.size ≤ maxLen) (b : List Int) (p : Option Addr) (n c : Nat) (w : World) (hc : Fld.chk (nums s) = false) :
    Calls Try.prog 19 #[.string s, .slice p n c] w (GetDoneR w (Fld.get (nums s) b)) := by
  have HP := Lib.hid (get_bad (b := b) hc)
  have HE := Lib.hid (Fld.chkE_no hc)
  clear hc
  go_enter Try.func19, Try.ntmps19
  go_wp2_with (go_at_call 33; refine (check_any s _ hs).mono ?_; rw [HE.out]; rintro e w1 ⟨rfl, hb1⟩; have kf := Blk.new w #[Value.int IntKind.i64 0, Value.int IntKind.i64 0] 57; have hbw := ((Below.refl w.heap.size w).alloc (Nat.le_refl _) (Obj.cells #[Value.int IntKind.i64 0, Value.int IntKind.i64 0] 57)).trans (hb1.mono (by simp)); have kf1 := kf.below hb1 kf.lt; clear kf hb1; generalize hgfe : w.heap.size = gf at *; have HGF := Lib.hid hgfe.symm; clear hgfe; have c0 : w1.cell? ⟨gf, 0, none⟩ = some (.int .i64 0) := kf1.cell 0; have c1 : w1.cell? ⟨gf, 1, none⟩ = some (.int .i64 0) := kf1.cell 1; have f0 := kf1.free 0; have f1 := kf1.free 1; have KF1 := Lib.hid kf1; have HBW := Lib.hid (show Below w.heap.size w w1 by rw [← HGF.out]; exact hbw); clear kf1 hbw)
  refine bodyPost_ret (v := .tuple #[.slice none 0 0, .agg #[.int .i64 2, .int .i64 0]]) (by simp [results, Try.results19, go_sem, c0, c1]) rfl ⟨none, 0, 0, by rw [HP.out]; rfl, by rw [HP.out]; exact ToldR.none_ _ _, (HBW.out.setCell ?_ _).setCell ?_ _⟩
  · exact Nat.le_of_eq HGF.out.symm
  · exact Nat.le_of_eq HGF.out.symm
set_option maxRecDepth 100000 in
set_option maxHeartbeats 2000000 in
theorem getF_anyR (s : ByteArray) (hs : s.size ≤ maxLen) (b : List Int) (p : Option Addr) (n c : Nat) (w : World) (hn : b.length = n) (hb : ∀ x ∈ b, 0 ≤ x ∧ x ≤ 255) (hA : At w p (b.map v8)) (hle : n ≤ c) (hm : c ≤ 9223372036854775807) (hp : p = none → c = 0) (hsm : n ≤ 1000000) :
    Calls Try.prog 19 #[.string s, .slice p n c] w (GetDoneR w (Fld.get (nums s) b)) := by
  by_cases hc : Fld.chk (nums s) = true
  · have HE := Lib.hid (Fld.chkE_ok hc)
    have HC := Lib.hid (chk_len hc)
    have hsl : s.size ≤ 40 := by have := HC.out.1; rwa [nums_length] at this
    obtain ⟨⟨st, er⟩, hr⟩ : ∃ r, r = Fld.walkL (Fld.getS b) none 0 (nums s) (0, []) := ⟨_, rfl⟩
    have HP := Lib.hid (get_walked hc hr.symm)
    have HR := Lib.hid hr
    have HA := Lib.hid hA
    have HN := Lib.hid hn
    have HB := Lib.hid hb
    have HPN := Lib.hid hp
    clear hc hr hA hn hb hp
    go_enter Try.func19, Try.ntmps19
    go_wp2_with (go_at_call 33; refine (check_any s _ hs).mono ?_; rw [HE.out]; rintro e w1 ⟨rfl, hb1⟩; have kf := Blk.new w #[Value.int IntKind.i64 0, Value.int IntKind.i64 0] 57; have hbw := ((Below.refl w.heap.size w).alloc (Nat.le_refl _) (Obj.cells #[Value.int IntKind.i64 0, Value.int IntKind.i64 0] 57)).trans (hb1.mono (by simp)); have kf1 := kf.below hb1 kf.lt; clear kf hb1; generalize hgfe : w.heap.size = gf at *; have HGF := Lib.hid hgfe.symm; clear hgfe; have c0 : w1.cell? ⟨gf, 0, none⟩ = some (.int .i64 0) := kf1.cell 0; have c1 : w1.cell? ⟨gf, 1, none⟩ = some (.int .i64 0) := kf1.cell 1; have f0 := kf1.free 0; have f1 := kf1.free 1; have KF1 := Lib.hid kf1; have HBW := Lib.hid (show Below w.heap.size w w1 by rw [← HGF.out]; exact hbw); clear kf1 hbw)
    have hin : RIn w1 w1.heap.size b p n c := ⟨HN.out, HB.out, HA.out.below HBW.out, Nat.le_refl _, hle, hm, HPN.out⟩
    have hst : RAt w1 w1.heap.size b p n c (0, []) (w1.alloc (Obj.cells #[Value.slice p n c, Value.int IntKind.i64 0, Value.slice none 0 0] 77)) :=
      ⟨.slice none 0 0, [], by simpa using Blk.new w1 #[Value.slice p n c, Value.int IntKind.i64 0, Value.slice none 0 0] 77, World.ownsRow_nil _ _ _ _, rfl, by simp, by simp, by simp, (Below.refl _ _).alloc (Nat.le_refl _) _⟩
    refine (walk_r (doer_r w1 w1.heap.size b p n c hin hsm) s hsl HC.out.2 (0, []) _ hst).mono ?_
    rw [← HR.out]
    rintro e w2 ⟨rfl, hs2, _⟩
    clear hst hin
    have hgf : gf < w1.heap.size := KF1.out.lt
    generalize hgae : w1.heap.size = ga at *
    have HGA := Lib.hid hgae
    clear hgae
    obtain ⟨at_, l2⟩ := st
    obtain ⟨v2, ys, hs2⟩ := hs2
    have a1 : w2.cell? ⟨ga, 1, none⟩ = some (.int .i64 at_) := hs2.blk.cell 1
    have a2 : w2.cell? ⟨ga, 2, none⟩ = some v2 := hs2.blk.cell 2
    have hbb := hs2.below
    have k2 := KF1.out.below hbb (by rw [HGA.out]; exact hgf)
    have c0' : w2.cell? ⟨gf, 0, none⟩ = some (.int .i64 0) := k2.cell 0
    have c1' : w2.cell? ⟨gf, 1, none⟩ = some (.int .i64 0) := k2.cell 1
    have f0' := k2.free 0
    have f1' := k2.free 1
    have HS2 := Lib.hid hs2
    have HK2 := Lib.hid k2
    have hgf2 : w.heap.size ≤ gf := Nat.le_of_eq HGF.out.symm
    have HBB := Lib.hid (HBW.out.trans (hbb.mono (show w.heap.size ≤ w1.heap.size by rw [HGA.out, ← HGF.out]; omega)))
    have han := HS2.out.at_
    obtain ⟨q2, c2, rfl, htold⟩ := hs2.told
    have HT := Lib.hid htold
    clear hs2 hbb k2 htold c0 c1 f0 f1
    simp only at han a2 ⊢
    by_cases he : er = 0
    · subst he
      by_cases hlt : at_ < n
      · have HP2 := Lib.hid (HP.out.trans (by simp [HN.out, hlt] : _ = (([] : List Itm), (4 : Int), at_)))
        go_wp2_with fail
        go_region
        all_goals
          go_wp2_with fail
          refine bodyPost_ret (v := .tuple #[.slice none 0 0, .agg #[.int .i64 4, .int .i64 (at_ : Int)]]) (by simp [results, Try.results19, go_sem, c0', c1']) rfl ⟨none, 0, 0, by rw [HP2.out], by rw [HP2.out]; exact ToldR.none_ _ _, ?_⟩
          first
            | exact (HBB.out.drew.setCell (p := ⟨gf, 0, none⟩) hgf2 _).setCell (p := ⟨gf, 1, none⟩) hgf2 _
            | exact ((HBB.out.setCell (p := ⟨gf, 0, none⟩) hgf2 _).setCell (p := ⟨gf, 1, none⟩) hgf2 _).drew
      · have HP2 := Lib.hid (HP.out.trans (by simp [HN.out, hlt] : _ = (l2, (0 : Int), 0)))
        go_wp2_with fail
        refine bodyPost_ret (v := .tuple #[.slice q2 l2.length c2, .agg #[.int .i64 0, .int .i64 0]]) (by simp [results, Try.results19, go_sem, c0', c1']) rfl ⟨q2, l2.length, c2, by rw [HP2.out]; rfl, by rw [HP2.out]; exact (HS2.out.toldFR HK2.out _ _).mono (by rw [HGA.out]; omega), ?_⟩
        exact (HBB.out.setCell (p := ⟨gf, 0, none⟩) hgf2 _).setCell (p := ⟨gf, 1, none⟩) hgf2 _
    · have he' : (er == 0) = false := by simpa using he
      have HP2 := Lib.hid (HP.out.trans (by simp [he] : _ = (([] : List Itm), er, at_)))
      clear he
      go_wp2_with fail
      go_region
      all_goals
        go_wp2_with fail
        refine bodyPost_ret (v := .tuple #[.slice none 0 0, .agg #[.int .i64 er, .int .i64 (at_ : Int)]]) (by simp [results, Try.results19, go_sem, c0', c1']) rfl ⟨none, 0, 0, by rw [HP2.out], by rw [HP2.out]; exact ToldR.none_ _ _, ?_⟩
        first
          | exact (HBB.out.drew.setCell (p := ⟨gf, 0, none⟩) hgf2 _).setCell (p := ⟨gf, 1, none⟩) hgf2 _
          | exact ((HBB.out.setCell (p := ⟨gf, 0, none⟩) hgf2 _).setCell (p := ⟨gf, 1, none⟩) hgf2 _).drew
  · exact getF_bad s hs b p n c w (by simpa using hc)
theorem getF_any (s : ByteArray) (hs : s.size ≤ maxLen) (b : List Int) (p : Option Addr) (n c : Nat) (w : World) (hn : b.length = n) (hb : ∀ x ∈ b, 0 ≤ x ∧ x ≤ 255) (hA : At w p (b.map v8)) (hle : n ≤ c) (hm : c ≤ 9223372036854775807) (hp : p = none → c = 0) (hsm : n ≤ 1000000) :
    Calls Try.prog 19 #[.string s, .slice p n c] w (GetDone w (Fld.get (nums s) b)) :=
  (getF_anyR s hs b p n c w hn hb hA hle hm hp hsm).mono fun e w' ⟨q, n', c', he, ht, hb'⟩ => ⟨q, n', c', he, ht.told, hb'⟩
end
end Go.Proofs.Yteepaoklibflpaa
