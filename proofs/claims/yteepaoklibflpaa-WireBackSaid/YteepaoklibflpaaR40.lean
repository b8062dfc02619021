/-
  A group's letters, and a shape's, handed on to the writer's method.
  What Put answers.
-/
import Derived.Test.YteepaoklibflpaaR26
import Derived.Test.YteepaoklibflpaaR39
namespace Go.Proofs.Yteepaoklibflpaa
section
set_option linter.unusedSimpArgs false
set_option linter.unusedVariables false
open Go.RowKit Sha
set_option maxRecDepth 100000 in
set_option maxHeartbeats 2000000 in
theorem repeat_w {σ : Type} {ga B : Nat} {f : Int → σ → σ × Int × Int} {R : σ → World → Prop} (D : Doer Try.prog 68 ga B f R) (g : ByteArray) (gl : List Int) (hgl : gl = nums g) (hg : ∀ c ∈ gl, Fld.isC c) (times : Int) (ht : times ≤ 9223372036854775807) (st : σ) (w : World) (hR : R st w) (hs : g.size ≤ 40) :
    Calls Try.prog 47 #[.string g, .int .i64 times, .func (.func 68) #[.pointer (some ⟨ga, 0, none⟩)] #[]] w (RDone R (Fld.rep f gl times.toNat st) w) := by
  have HR := Lib.hid hR
  have HD := Lib.hid D
  have HG := Lib.hid hg
  have HL := Lib.hid hgl
  have H128 := Lib.hid (show ∀ c ∈ nums g, c < 128 from fun c hc => isC_lt (hg c (by rw [hgl]; exact hc)))
  clear hR D hg hgl
  obtain ⟨T, hT⟩ : ∃ T, T = times.toNat := ⟨_, rfl⟩
  rw [← hT]
  have hT1 : T = times.toNat := hT
  have HT := Lib.hid hT
  clear hT hT1
  go_enter Try.func47, Try.ntmps47
  go_wp2_with fail
  go_loopg [12] T (fun gh i wr => ∃ (k : Nat) (sk : σ), i = .int .i64 k ∧ gh = T - k ∧ k ≤ T ∧ Hid (Fld.rep f gl T st = Fld.rep f gl (T - k) sk) ∧ Hid (R sk wr) ∧ Hid (ItersKept w wr))
  case atStart => exact ⟨0, st, rfl, rfl, by omega, rfl, HR, ItersKept.refl _⟩
  case round =>
    obtain ⟨k, sk, rfl, rfl, hk, HE, HK, HO⟩ := hrel
    clear HR
    by_cases hlt : (k : Int) < times
    · have hkT : k + 1 ≤ T := by have := HT.out; omega
      have HE1 := Lib.hid (show Fld.rep f gl T st = Fld.rep f gl ((T - (k + 1)) + 1) sk by rw [show T - (k + 1) + 1 = T - k by omega]; exact HE.out)
      clear HE
      go_wp2_with fail
      have HI0 := Lib.hid (World.iter_heap wr g 0)
      have HK0 := Lib.hid (HD.out.keepA _ _ (.stringIter g 0) HK.out)
      have HO0 := Lib.hid (ItersBut.new HO.out (.stringIter g 0))
      have HS := Lib.hid (show (wr.iter g 0) = wr.alloc (.stringIter g 0) from rfl)
      rw [← HS.out] at HK0 HO0
      clear HS
      have hgb := HD.out.base _ _ HK.out
      generalize wr.iter g 0 = wz at *
      generalize wr.heap.size = gi at *
      go_loopg [8] g.size (fun gh2 c wi => ∃ (j : Nat) (sj : σ), j ≤ g.size ∧ gh2 = g.size - j ∧ Hid (wi.heap[gi]? = some (.stringIter g j)) ∧ Hid (Fld.once f gl sk = Fld.once f ((nums g).drop j) sj) ∧ Hid (R sj wi) ∧ Hid (ItersBut gi w wi))
      case atStart => exact ⟨0, sk, by omega, rfl, HI0, Lib.hid (by rw [List.drop_zero, HL.out]), HK0, HO0⟩
      case round =>
        obtain ⟨j, sj, hj, rfl, HI, HF, HJ, HP⟩ := hrel
        clear HI0 HK0 HO0 HK HO
        by_cases hp : j < g.size
        · obtain ⟨c, hn, hd⟩ := next_isL Try.prog g j hp H128.out
          have hnx := fun ty => hn.run wr gi ty HI.out
          have HC := Lib.hid (HG.out c (by rw [HL.out]; exact List.mem_of_mem_drop (by rw [hd]; exact List.mem_cons_self ..)))
          have HI2 := Lib.hid (Lib.iterAt_heap _ _ _ _ (j + 1) HI.out)
          have HJ2 := Lib.hid (HD.out.keepI _ _ _ _ _ (j + 1) HJ.out hgb HI.out)
          have HP2 := Lib.hid (HP.out.move g (j + 1))
          have HF2 := Lib.hid (HF.out.trans (congrArg (fun l => Fld.once f l sj) hd))
          clear hd hn
          by_cases h0 : (f c sj).2.2 = 0
          · have h0' : ((f c sj).2.2 == 0) = true := by simpa using h0
            have HN := Lib.hid (HF2.out.trans (once_ok h0))
            have H0 := Lib.hid h0
            clear h0
            go_wp2_with fail
            refine (HD.out.step c sj _ HC.out HJ2.out).mono ?_
            rintro e w2 ⟨rfl, hr2, hi2⟩
            have HR2 := Lib.hid hr2
            have HI3 := Lib.hid (hi2 _ _ _ HI2.out)
            have HP3 := Lib.hid (HP2.out.on hi2)
            clear hr2 hi2
            go_wp2_with fail
            go_roundg (g.size - (j + 1))
            case measure => omega
            case rel => exact ⟨j + 1, _, by omega, rfl, HI3, HN, HR2, HP3⟩
          · have h0' : ((f c sj).2.2 == 0) = false := by simpa using h0
            have HN := Lib.hid (HE1.out.trans (rep_err (HF2.out.trans (once_err h0)) h0))
            clear h0
            go_wp2_with fail
            refine (HD.out.step c sj _ HC.out HJ2.out).mono ?_
            rintro e w2 ⟨rfl, hr2, hi2⟩
            have HR2 := Lib.hid hr2
            have HP3 := Lib.hid (HP2.out.on hi2)
            clear hr2 hi2
            go_wp2_with fail
            try rw [Exit.noGoto_ret]
            go_ret
            exact ⟨by rw [HN.out]; rfl, by rw [HN.out]; exact HR2.out, HP3.out.kept⟩
        · obtain rfl : j = g.size := by omega
          have hnx := fun ty => Lib.run_next_end_at (P := Try.prog) wr gi g g.size ty HI.out (by omega)
          have HN := Lib.hid (HE1.out.trans (rep_ok (HF.out.trans (by rw [← nums_length, List.drop_length]; rfl))))
          go_wp2_with fail
          go_roundg (T - (k + 1))
          case measure => omega
          case rel => exact ⟨k + 1, sj, by go_num, rfl, by omega, HN, HJ, HP.out.kept⟩
    · have HZ := Lib.hid (show Fld.rep f gl T st = (sk, 0) by rw [HE.out, show T - k = 0 by have := HT.out; omega]; rfl)
      go_wp2_with fail
      go_ret
      exact ⟨by rw [HZ.out]; rfl, by rw [HZ.out]; exact HK.out, HO.out⟩
set_option maxRecDepth 100000 in
set_option maxHeartbeats 2000000 in
theorem walk_w {σ : Type} {ga B : Nat} {f : Int → σ → σ × Int × Int} {R : σ → World → Prop} (D : Doer Try.prog 68 ga B f R) (s : ByteArray) (hs : s.size ≤ 40) (hc : Fld.chkL (nums s) false false = true) (st : σ) (w : World) (hR : R st w) :
    Calls Try.prog 34 #[.string s, .func (.func 68) #[.pointer (some ⟨ga, 0, none⟩)] #[]] w (RDone R (Fld.walkL f none 0 (nums s) st) w) := by
  have H128 := Lib.hid (chkL_lt _ _ _ hc)
  have HW0 := Lib.hid (show WRel f (nums s) st 0 0 0 none false st from ⟨Or.inl ⟨rfl, rfl⟩, by simp, by rw [List.drop_zero]; exact hc, by rw [List.drop_zero]⟩)
  have HD := Lib.hid D
  have HR := Lib.hid hR
  clear hc D hR
  obtain ⟨l, hl⟩ : ∃ l, l = nums s := ⟨_, rfl⟩
  rw [← hl] at HW0 H128 ⊢
  have HL := Lib.hid hl
  have HS := Lib.hid (show l.length = s.size by rw [hl, nums_length])
  clear hl
  go_enter Try.func34, Try.ntmps34
  go_wp2_with fail
  go_step3
  go_wp2_with fail
  go_step3
  go_wp2_with fail
  have HI0 := Lib.hid (World.iter_heap w s 0)
  have HK0 := Lib.hid (HD.out.keepA _ _ (.stringIter s 0) HR.out)
  have HO0 := Lib.hid (ItersBut.new (ItersKept.refl w) (.stringIter s 0))
  have HZ := Lib.hid (show (w.iter s 0) = w.alloc (.stringIter s 0) from rfl)
  rw [← HZ.out] at HK0 HO0
  have hgb := HD.out.base _ _ HR.out
  clear HZ HR
  generalize w.iter s 0 = wz at *
  obtain ⟨gi, hgi⟩ : ∃ gi, gi = w.heap.size := ⟨_, rfl⟩
  rw [← hgi] at HI0 HO0 hgb ⊢
  clear hgi
  go_loopg [5, 6] s.size (fun gh b t wr => ∃ (k bg : Nat) (tt : Int) (gO : Option (List Int)) (kk : Bool) (sk : σ), k ≤ s.size ∧ gh = s.size - k ∧ b = .int .i64 bg ∧ t = .int .i64 tt ∧ tt ≤ 9223372036854775807 ∧ Hid (wr.heap[gi]? = some (.stringIter s k)) ∧ Hid (WRel f l st k bg tt gO kk sk) ∧ Hid (R sk wr) ∧ Hid (ItersBut gi w wr))
  case atStart => exact ⟨0, 0, 0, none, false, st, by omega, rfl, rfl, rfl, by omega, HI0, HW0, HK0, HO0⟩
  case round =>
    obtain ⟨k, bg, tt, gO, kk, sk, hk, rfl, rfl, rfl, htt, HI, HW, HJ, HP⟩ := hrel
    clear HI0 HK0 HO0 HW0
    by_cases hp : k < s.size
    · obtain ⟨c, hn, hd⟩ := next_isL Try.prog s k hp (by rw [← HL.out]; exact H128.out)
      rw [← HL.out] at hd
      have hnx := fun ty => hn.run wr gi ty HI.out
      have HI2 := Lib.hid (Lib.iterAt_heap _ _ _ _ (k + 1) HI.out)
      have HJ2 := Lib.hid (HD.out.keepI _ _ _ _ _ (k + 1) HJ.out hgb HI.out)
      have HP2 := Lib.hid (HP.out.move s (k + 1))
      have HDR := Lib.hid hd
      clear hd hn
      cases gO with
      | none =>
        have hbg : bg = 0 := by
          rcases HW.out.grp with h | ⟨cs, h, _⟩
          · exact h.2
          · cases h
        subst hbg
        have hck := HW.out.chk
        rw [HDR.out] at hck
        by_cases h0 : (f c sk).2.2 = 0
        · have h0' : ((f c sk).2.2 == 0) = true := by simpa using h0
          have hlim := (HD.out.lim c sk _ HJ.out).1
          rcases chkL_none hck with ⟨hC, h40, _⟩ | ⟨h40, _⟩
          · have HN := Lib.hid (HW.out.one HDR.out h40 h0)
            have HC := Lib.hid hC
            have t40 : (c == 40) = false := by simpa using h40
            have t41 : (c == 41) = false := by rw [beq_eq_false_iff_ne]; unfold Fld.isC at hC; omega
            clear h0 hck h40 hC
            go_wp2_with fail
            refine (HD.out.step c sk _ HC.out HJ2.out).mono ?_
            rintro e w2 ⟨rfl, hr2, hi2⟩
            have HR2 := Lib.hid hr2
            have HI3 := Lib.hid (hi2 _ _ _ HI2.out)
            have HP3 := Lib.hid (HP2.out.on hi2)
            clear hr2 hi2
            go_wp2_with fail
            go_roundg (s.size - (k + 1))
            case measure => omega
            case rel => exact ⟨k + 1, 0, _, none, true, _, by omega, rfl, rfl, rfl, hlim, HI3, HN, HR2, HP3⟩
          · subst h40
            have HN := Lib.hid (HW.out.open_ HDR.out rfl h0)
            have HC := Lib.hid (show Fld.isC 40 from Or.inr (Or.inr (Or.inr rfl)))
            clear h0 hck
            go_wp2_with fail
            refine (HD.out.step 40 sk _ HC.out HJ2.out).mono ?_
            rintro e w2 ⟨rfl, hr2, hi2⟩
            have HR2 := Lib.hid hr2
            have HI3 := Lib.hid (hi2 _ _ _ HI2.out)
            have HP3 := Lib.hid (HP2.out.on hi2)
            clear hr2 hi2
            go_wp2_with fail
            go_roundg (s.size - (k + 1))
            case measure => omega
            case rel => exact ⟨k + 1, k + 1, _, some [], false, _, by omega, rfl, by go_num, rfl, hlim, HI3, HN, HR2, HP3⟩
        · have h0' : ((f c sk).2.2 == 0) = false := by simpa using h0
          have HN := Lib.hid (HW.out.walk.trans ((congrArg (fun x => Fld.walkL f none tt x sk) HDR.out).trans (walk_err h0)))
          rcases chkL_none hck with ⟨hC, h40, _⟩ | ⟨h40, _⟩
          · have HC := Lib.hid hC
            have t40 : (c == 40) = false := by simpa using h40
            have t41 : (c == 41) = false := by rw [beq_eq_false_iff_ne]; unfold Fld.isC at hC; omega
            clear h0 hck h40 hC
            go_wp2_with fail
            refine (HD.out.step c sk _ HC.out HJ2.out).mono ?_
            rintro e w2 ⟨rfl, hr2, hi2⟩
            have HR2 := Lib.hid hr2
            have HP3 := Lib.hid (HP2.out.on hi2)
            clear hr2 hi2
            go_wp2_with fail
            try rw [Exit.noGoto_ret]
            go_ret
            exact ⟨by rw [HN.out]; rfl, by rw [HN.out]; exact HR2.out, HP3.out.kept⟩
          · subst h40
            have HC := Lib.hid (show Fld.isC 40 from Or.inr (Or.inr (Or.inr rfl)))
            clear h0 hck
            go_wp2_with fail
            refine (HD.out.step 40 sk _ HC.out HJ2.out).mono ?_
            rintro e w2 ⟨rfl, hr2, hi2⟩
            have HR2 := Lib.hid hr2
            have HP3 := Lib.hid (HP2.out.on hi2)
            clear hr2 hi2
            go_wp2_with fail
            try rw [Exit.noGoto_ret]
            go_ret
            exact ⟨by rw [HN.out]; rfl, by rw [HN.out]; exact HR2.out, HP3.out.kept⟩
      | some cs =>
        obtain ⟨hb0, hbk, hcs⟩ : 0 < bg ∧ bg ≤ k ∧ cs = (l.take k).drop bg := by
          rcases HW.out.grp with h | ⟨cs', h, h1, h2, h3⟩
          · cases h.1
          · cases h; exact ⟨h1, h2, h3⟩
        by_cases h41 : c = 41
        · subst h41
          have HX := Lib.hid (show cs = nums (s.extract bg k) by rw [nums_extract, ← HL.out]; exact hcs)
          have HXL := Lib.hid (show (s.extract bg k).size ≤ 40 by rw [ByteArray.size_extract]; omega)
          clear hcs
          obtain ⟨r, hr⟩ : ∃ r, r = Fld.rep f cs tt.toNat sk := ⟨_, rfl⟩
          obtain ⟨sk', er⟩ := r
          have HRP := Lib.hid hr
          clear hr
          by_cases h0 : er = 0
          · have HN := Lib.hid (HW.out.shut HDR.out (by rw [← HRP.out, h0]))
            have h0' : (er == 0) = true := by simpa using h0
            clear h0
            go_wp2_with fail
            refine (repeat_w HD.out _ cs HX.out (HW.out.ok cs rfl) tt htt sk _ HJ2.out HXL.out).mono ?_
            rw [← HRP.out]
            rintro e w2 ⟨rfl, hr2, hi2⟩
            have HR2 := Lib.hid hr2
            have HI3 := Lib.hid (hi2 _ _ _ HI2.out)
            have HP3 := Lib.hid (HP2.out.on hi2)
            clear hr2 hi2
            go_wp2_with fail
            try rw [Exit.noGoto_ret]
            go_roundg (s.size - (k + 1))
            case measure => omega
            case rel => exact ⟨k + 1, 0, tt, none, kk, sk', by omega, rfl, rfl, rfl, htt, HI3, HN, HR2, HP3⟩
          · have HN := Lib.hid (HW.out.walk.trans ((congrArg (fun x => Fld.walkL f (some cs) tt x sk) HDR.out).trans (walk_bad HRP.out.symm h0)))
            have h0' : (er == 0) = false := by simpa using h0
            clear h0
            go_wp2_with fail
            refine (repeat_w HD.out _ cs HX.out (HW.out.ok cs rfl) tt htt sk _ HJ2.out HXL.out).mono ?_
            rw [← HRP.out]
            rintro e w2 ⟨rfl, hr2, hi2⟩
            have HR2 := Lib.hid hr2
            have HP3 := Lib.hid (HP2.out.on hi2)
            clear hr2 hi2
            go_wp2_with fail
            try rw [Exit.noGoto_ret]
            go_ret
            exact ⟨by rw [HN.out]; rfl, by rw [HN.out]; exact HR2.out, HP3.out.kept⟩
        · have HN := Lib.hid (HW.out.in_ HDR.out h41)
          have t41 : (c == 41) = false := by simpa using h41
          clear h41 hcs
          go_wp2_with fail
          try rw [Exit.noGoto_ret]
          go_roundg (s.size - (k + 1))
          case measure => omega
          case rel => exact ⟨k + 1, bg, tt, _, true, sk, by omega, rfl, rfl, rfl, htt, HI2, HN, HJ2, HP2⟩
    · obtain rfl : k = s.size := by omega
      have hnx := fun ty => Lib.run_next_end_at (P := Try.prog) wr gi s s.size ty HI.out (by omega)
      have HN := Lib.hid (HW.out.walk.trans ((congrArg (fun x => Fld.walkL f gO tt x sk) (show l.drop s.size = [] by rw [← HS.out, List.drop_length])).trans walk_end))
      go_wp2_with fail
      go_ret
      exact ⟨by rw [HN.out]; rfl, by rw [HN.out]; exact HJ.out, HP.out.kept⟩
end
section
set_option linter.unusedSimpArgs false
set_option linter.unusedVariables false
open Go.RowKit Sha
open Fld (Itm)
theorem wmem_below {B ga : Nat} {L v : Value} {out : List Int} {w w' : World} (h : WMem B ga L v out w) (hc : CellsKept w w') : WMem B ga L v out w' := h.carry hc
theorem WSt.keepA {w0 w : World} {ga : Nat} {st : List Int × List Itm} {p : Option Addr} {c : Nat} {v : Value} (h : WSt w0 ga st p c v w) (o : Obj) : WSt w0 ga st p c v (w.alloc o) :=
  ⟨h.mem.carry (cells_alloc w o), h.items, h.le, h.max, h.nil, h.below.alloc h.mem.size o, h.small⟩
theorem WSt.keepI {w0 w : World} {ga : Nat} {st : List Int × List Itm} {p : Option Addr} {c : Nat} {v : Value} (h : WSt w0 ga st p c v w) {gi : Nat} {s : ByteArray} {k : Nat} (hg : w0.heap.size ≤ gi) (hi : w.heap[gi]? = some (.stringIter s k)) (k' : Nat) : WSt w0 ga st p c v (w.iterAt gi s k') :=
  ⟨h.mem.carry (cells_iterAt hi k'), h.items, h.le, h.max, h.nil, Lib.below_iterAt h.below hg s k', h.small⟩
theorem putS_lim (c : Int) (st : List Int × List Itm) (h : ∀ x ∈ st.2, x.ok) : (Fld.putS c st).2.1 ≤ 9223372036854775807 ∧ -9223372036854775808 ≤ (Fld.putS c st).2.1 := by
  obtain ⟨out, l⟩ := st
  cases l with
  | nil => simp [Fld.putS]
  | cons x l =>
    have hx := h x (List.mem_cons_self ..)
    have := hx.N0
    have := hx.N1
    unfold Fld.putS
    simp only
    repeat' split
    all_goals simp only []
    all_goals omega
theorem doer_w (w0 : World) (ga : Nat) : Doer Try.prog 68 ga w0.heap.size Fld.putS (WAt w0 ga) where
  step c st w hc hR := (put_any w0 ga c hc st w hR).mono fun e w' ⟨he, hr, ho⟩ => ⟨he, hr, iters_of ho (by obtain ⟨p, c, v, h⟩ := hR; exact ⟨_, _, h.mem.blk⟩)⟩
  keepA st w o h := by obtain ⟨p, c, v, h⟩ := h; exact ⟨p, c, v, h.keepA o⟩
  keepI st w gi s p p' h hg hi := by obtain ⟨q, c, v, h⟩ := h; exact ⟨q, c, v, h.keepI hg hi p'⟩
  base st w h := by obtain ⟨p, c, v, h⟩ := h; exact h.mem.size
  lim c st w h := by obtain ⟨p, cc, v, h⟩ := h; exact putS_lim c st h.items.ok
/-- What Put leaves: bytes of its own, and an error. -/
def PutDone (w0 : World) (r : List Int × Int) (e : Ending) (w : World) : Prop :=
  ∃ v, e = .returned (.tuple #[v, .int .i64 r.2]) ∧ Own8 w w0.heap.size 5 v r.1.length (r.1.map v8) ∧ Below w0.heap.size w0 w
theorem put_bad {s : List Int} {l : List Itm} (h : Fld.chk s = false) : Fld.put s l = ([], 2) := by simp [Fld.put, h]
theorem put_walked {s : List Int} {l : List Itm} (h : Fld.chk s = true) {st : List Int × List Itm} {e : Int} (hw : Fld.walkL Fld.putS none 0 s ([], l) = (st, e)) :
    Fld.put s l = if e = 0 then (if st.2 = [] then (st.1, 0) else ([], 2)) else ([], e) := by simp [Fld.put, h, hw]
theorem writer_zero : Try.prog.built 110 [(0, .slice none 0 0)] = some #[.slice none 0 0, .slice none 0 0] := by kernel_rfl
set_option maxRecDepth 100000 in
set_option maxHeartbeats 2000000 in
theorem putF_bad (s : ByteArray) (hs : s.size ≤ maxLen) (p : Option Addr) (n c : Nat) (w : World) (l : List Itm) (hc : Fld.chk (nums s) = false) :
    Calls Try.prog 41 #[.string s, .slice p n c] w (PutDone w (Fld.put (nums s) l)) := by
  have HP := Lib.hid (put_bad (l := l) hc)
  have HE := Lib.hid (Fld.chkE_no hc)
  clear hc
  go_enter Try.func41, Try.ntmps41
  go_wp2_with (go_at_call 33; refine (check_any s w hs).mono ?_; rw [HE.out]; rintro e w1 ⟨rfl, hb1⟩)
  go_ret2
  exact ⟨.slice none 0 0, by rw [HP.out]; rfl, by rw [HP.out]; exact Own8.nil _ _ _, hb1⟩
set_option maxRecDepth 100000 in
set_option maxHeartbeats 2000000 in
theorem putF_any (s : ByteArray) (hs : s.size ≤ maxLen) (l : List Itm) (p : Option Addr) (n c : Nat) (w : World) (hn : n = l.length) (hi : ItemsAt w p l) (hle : n ≤ c) (hm : c ≤ 9223372036854775807) (hp : p = none → c = 0) (hsm : n ≤ 100000) :
    Calls Try.prog 41 #[.string s, .slice p n c] w (PutDone w (Fld.put (nums s) l)) := by
  subst hn
  by_cases hc : Fld.chk (nums s) = true
  · have HE := Lib.hid (Fld.chkE_ok hc)
    have HC := Lib.hid (chk_len hc)
    have hsl : s.size ≤ 40 := by have := HC.out.1; rwa [nums_length] at this
    obtain ⟨⟨st, er⟩, hr⟩ : ∃ r, r = Fld.walkL Fld.putS none 0 (nums s) ([], l) := ⟨_, rfl⟩
    have HP := Lib.hid (put_walked hc hr.symm)
    have HR := Lib.hid hr
    have HI := Lib.hid hi
    have HPN := Lib.hid hp
    clear hc hr hi hp
    go_enter Try.func41, Try.ntmps41
    go_wp2_with (first
      | (go_at_call 33; refine (check_any s w hs).mono ?_; rw [HE.out]; rintro e w1 ⟨rfl, hb1⟩))
    have hst : WAt w w1.heap.size ([], l) (w1.alloc (Obj.cells #[Value.slice p l.length c, Value.slice none 0 0] 110)) :=
      ⟨p, c, .slice none 0 0, ⟨by simpa using Blk.new w1 #[Value.slice p l.length c, Value.slice none 0 0] 110, Own8.nil _ _ _, hb1.size, by simp; have := hb1.size; omega⟩, HI.out, hle, hm, HPN.out, hb1.alloc hb1.size _, by simp; omega⟩
    refine (walk_w (doer_w w w1.heap.size) s hsl HC.out.2 ([], l) _ hst).mono ?_
    rw [← HR.out]
    rintro e w2 ⟨rfl, hs2, _⟩
    clear hst hb1
    generalize w1.heap.size = ga at *
    obtain ⟨out, l2⟩ := st
    obtain ⟨p2, c2, v2, hs2⟩ := hs2
    have a0 : w2.cell? ⟨ga, 0, none⟩ = some (.slice p2 l2.length c2) := hs2.mem.blk.cell 0
    have a1 : w2.cell? ⟨ga, 1, none⟩ = some v2 := hs2.mem.blk.cell 1
    have HS2 := Lib.hid hs2
    clear hs2
    by_cases he : er = 0
    · subst he
      by_cases h2 : l2 = []
      · subst h2
        have HP2 := Lib.hid (HP.out.trans (by simp : _ = (out, (0 : Int))))
        go_wp2_with fail
        go_ret2
        exact ⟨v2, by rw [HP2.out]; rfl, by rw [HP2.out]; exact HS2.out.mem.own, HS2.out.below⟩
      · have h3 : 0 < l2.length := List.length_pos_iff.2 h2
        have HP2 := Lib.hid (HP.out.trans (by simp [h2] : _ = (([] : List Int), (2 : Int))))
        clear h2
        go_wp2_with fail
        go_ret2
        exact ⟨.slice none 0 0, by rw [HP2.out]; rfl, by rw [HP2.out]; exact Own8.nil _ _ _, HS2.out.below⟩
    · have he' : (er == 0) = false := by simpa using he
      have HP2 := Lib.hid (HP.out.trans (by simp [he] : _ = (([] : List Int), er)))
      clear he
      go_wp2_with fail
      go_ret2
      exact ⟨.slice none 0 0, by rw [HP2.out]; rfl, by rw [HP2.out]; exact Own8.nil _ _ _, HS2.out.below⟩
  · exact putF_bad s hs p _ c w l (by simpa using hc)
end
end Go.Proofs.Yteepaoklibflpaa
