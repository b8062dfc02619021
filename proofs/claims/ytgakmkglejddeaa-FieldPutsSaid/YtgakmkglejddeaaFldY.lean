/-
  What Get answers.
-/
import Derived.Test.YtgakmkglejddeaaFldXo
import Derived.Test.YtgakmkglejddeaaFldXd
import Derived.Test.YtgakmkglejddeaaFldXb
import Derived.Test.YtgakmkglejddeaaFldWb
import Derived.ChangeAlike
namespace Go.Proofs.Ytgakmkglejddeaa
set_option linter.unusedSimpArgs false
set_option linter.unusedVariables false
open Go.RowKit Sha
open Fld (Itm)
theorem get_one (w0 : World) (ga : Nat) (bs : List Int) (p : Option Addr) (n c : Nat) (hin : RIn w0 ga bs p n c) (hn : n ≤ 1000000) (l : Int) (hl : Fld.isC l) (st : Nat × List Itm) (w : World) (h : RAt w0 ga bs p n c st w) :
    Calls Try.prog 33 #[.pointer (some ⟨ga, 0, none⟩), .int .i32 l] w (GDone w0 ga bs p n c l st w) := by
  obtain ⟨at_, xs⟩ := st
  rcases hl with rfl | rfl | rfl | rfl
  · exact get_n w0 ga bs p n c hin hn at_ xs w h
  · exact get_b w0 ga bs p n c hin hn at_ xs w h
  · exact get_d w0 ga bs p n c hin hn at_ xs w h
  · exact get_o w0 ga bs p n c hin hn at_ xs w h
theorem RSt.keepA {w0 w : World} {ga : Nat} {bs : List Int} {p : Option Addr} {n c : Nat} {st : Nat × List Itm} {v : Value} {ys : List Hdr} (h : RSt w0 ga bs p n c st v ys w) (o : Obj) : RSt w0 ga bs p n c st v ys (w.alloc o) :=
  ⟨h.blk.old o, h.own.alloc o, h.items, fun y hy => (h.good y hy).carry fun _ _ hb => hb.old o, h.at_, h.few, h.below.alloc h.below.size o⟩
theorem RSt.keepI {w0 w : World} {ga : Nat} {bs : List Int} {p : Option Addr} {n c : Nat} {st : Nat × List Itm} {v : Value} {ys : List Hdr} (h : RSt w0 ga bs p n c st v ys w) {gi : Nat} {s : ByteArray} {k : Nat} (hg : w0.heap.size ≤ gi) (hi : w.heap[gi]? = some (.stringIter s k)) (k' : Nat) : RSt w0 ga bs p n c st v ys (w.iterAt gi s k') := by
  have hc := cells_iterAt hi k'
  exact ⟨hc.2 _ _ _ _ h.blk, own_carry h.own fun k c fz _ hh => hc.2 _ _ _ _ hh, h.items, fun y hy => (h.good y hy).carry fun _ _ hb => hc.2 _ _ _ _ hb, h.at_, h.few, Lib.below_iterAt h.below hg s k'⟩
theorem rd_lim (bs : List Int) (hb : ∀ n ∈ bs, 0 ≤ n ∧ n ≤ 255) : 0 ≤ (Fld.rd 0 0 bs).2.1 ∧ (Fld.rd 0 0 bs).2.1 ≤ 9223372036854775807 := by
  rcases Fld.rd_err bs 0 0 with h | ⟨_, h⟩
  · obtain ⟨m, h1, h2, _⟩ := Fld.rd_back0 bs (Fld.rd 0 0 bs).2.1 (Fld.rd 0 0 bs).2.2 hb (by rw [← h])
    omega
  · omega
theorem getS_lim (bs : List Int) (hb : ∀ n ∈ bs, 0 ≤ n ∧ n ≤ 255) (c : Int) (st : Nat × List Itm) : (Fld.getS bs c st).2.1 ≤ 9223372036854775807 ∧ -9223372036854775808 ≤ (Fld.getS bs c st).2.1 := by
  have h1 := rd_lim (bs.drop st.1) (fun n hn => hb n (List.mem_of_mem_drop hn))
  have h2 : 0 ≤ (Fld.rdTop (bs.drop st.1)).2.1 ∧ (Fld.rdTop (bs.drop st.1)).2.1 ≤ 9223372036854775807 := by
    unfold Fld.rdTop; split
    · simp
    · exact h1
  unfold Fld.getS
  dsimp only
  repeat' split
  all_goals (dsimp only; omega)
theorem doer_r (w0 : World) (ga : Nat) (bs : List Int) (p : Option Addr) (n c : Nat) (hin : RIn w0 ga bs p n c) (hn : n ≤ 1000000) : Doer Try.prog 33 ga w0.heap.size (Fld.getS bs) (RAt w0 ga bs p n c) where
  step l st w hl hR := get_one w0 ga bs p n c hin hn l hl st w hR
  keepA st w o h := by obtain ⟨v, ys, h⟩ := h; exact ⟨v, ys, h.keepA o⟩
  keepI st w gi s q q' h hg hi := by obtain ⟨v, ys, h⟩ := h; exact ⟨v, ys, h.keepI hg hi q'⟩
  base st w h := by obtain ⟨v, ys, h⟩ := h; exact h.below.size
  lim l st w _ := getS_lim bs hin.bd l st
theorem told_of {w : World} {B : Nat} {v : Value} {ys : List Hdr} {l : List Itm} (ho : w.ownsRow B 40 34 v l.length (ys.flatMap cellsI)) (hi : ys.map (·.1) = l) (hg : ∀ y ∈ ys, GoodR w y.1 y.2.1 y.2.2) : ∃ q c', v = .slice q l.length c' ∧ Told w q l.length c' l := by
  have hi : ∀ q, At w q (ys.flatMap cellsI) → ItemsAt w q l := fun q hA => ⟨ys, hi, hA, fun y hy => (hg y hy).good⟩
  rcases ho.2 with ⟨hv, h0⟩ | ⟨g, cap, cur, hv, hg, hh, h1, h2, h3, h4⟩
  · refine ⟨none, 0, by rw [hv, h0], rfl, by omega, by omega, fun _ => rfl, hi none (Or.inl ?_)⟩
    have := ho.1
    rw [h0] at this
    exact List.eq_nil_of_length_eq_zero (by simpa using this)
  · refine ⟨_, cap, hv, rfl, h1, by unfold maxLen at h2; omega, (fun h => by cases h), hi _ (Or.inr ⟨g, 0, rfl, fun i u hu => ?_⟩)⟩
    have := ho.cells (g := g) (by rw [hv]; rfl) i u hu
    rwa [Addr.add_mid] at this
theorem RSt.told {w0 w : World} {ga : Nat} {bs : List Int} {p : Option Addr} {n c : Nat} {st : Nat × List Itm} {v : Value} {ys : List Hdr} (h : RSt w0 ga bs p n c st v ys w) : ∃ q c', v = .slice q st.2.length c' ∧ Told w q st.2.length c' st.2 :=
  told_of h.own h.items h.good
theorem if_ne : (40 : TypeId) ≠ 43 := by decide
theorem uf_ne : (5 : TypeId) ≠ 43 := by decide
theorem RSt.toldF {w0 w : World} {ga gf : Nat} {bs : List Int} {p : Option Addr} {n c : Nat} {at_ : Nat} {l : List Itm} {q : Option Addr} {c' : Nat} {ys : List Hdr} {cs : List Value} (h : RSt w0 ga bs p n c (at_, l) (.slice q l.length c') ys w) (hk : Blk w gf cs 43) (u0 u1 : Value) :
    Told ((w.setCell ⟨gf, 0, none⟩ u0).setCell ⟨gf, 1, none⟩ u1) q l.length c' l := by
  obtain ⟨q2, c2, hv, ht⟩ := told_of (own_set (own_set h.own hk if_ne 0 u0) (hk.set 0 u0) if_ne 1 u1) h.items (fun y hy => (h.good y hy).carry fun g cs hb => (hb.setOther _ _ (blk_ne hb hk uf_ne)).setOther _ _ (blk_ne hb hk uf_ne))
  simp only [Value.slice.injEq] at hv
  obtain ⟨rfl, _, rfl⟩ := hv
  exact ht
/-- What Get leaves: items, an error and its place. -/
def GetDone (w0 : World) (r : List Itm × Int × Nat) (e : Ending) (w : World) : Prop :=
  ∃ q n c, e = .returned (.tuple #[.slice q n c, .agg #[.int .i64 r.2.1, .int .i64 (r.2.2 : Int)]]) ∧ Told w q n c r.1 ∧ Below w0.heap.size w0 w
theorem get_bad {s b : List Int} (h : Fld.chk s = false) : Fld.get s b = ([], 2, 0) := by simp [Fld.get, h]
theorem get_walked {s b : List Int} (h : Fld.chk s = true) {st : Nat × List Itm} {e : Int} (hw : Fld.walkL (Fld.getS b) none 0 s (0, []) = (st, e)) :
    Fld.get s b = if e = 0 then (if st.1 < b.length then ([], 4, st.1) else (st.2, 0, 0)) else ([], e, st.1) := by simp [Fld.get, h, hw]
set_option maxRecDepth 100000 in
set_option maxHeartbeats 2000000 in
theorem getF_bad (s : ByteArray) (hs : s.size ≤ maxLen) (b : List Int) (p : Option Addr) (n c : Nat) (w : World) (hc : Fld.chk (nums s) = false) :
    Calls Try.prog 21 #[.string s, .slice p n c] w (GetDone w (Fld.get (nums s) b)) := by
  have HP := Lib.hid (get_bad (b := b) hc)
  have HE := Lib.hid (Fld.chkE_no hc)
  clear hc
  go_enter Try.func21, Try.ntmps21
  go_wp2_with (go_at_call 14; refine (check_any s _ hs).mono ?_; rw [HE.out]; rintro e w1 ⟨rfl, hb1⟩; have kf := Blk.new w #[Value.int IntKind.i64 0, Value.int IntKind.i64 0] 43; have hbw := ((Below.refl w.heap.size w).alloc (Nat.le_refl _) (Obj.cells #[Value.int IntKind.i64 0, Value.int IntKind.i64 0] 43)).trans (hb1.mono (by simp)); have kf1 := kf.below hb1 kf.lt; clear kf hb1; generalize hgfe : w.heap.size = gf at *; have HGF := Lib.hid hgfe.symm; clear hgfe; have c0 : w1.cell? ⟨gf, 0, none⟩ = some (.int .i64 0) := kf1.cell 0; have c1 : w1.cell? ⟨gf, 1, none⟩ = some (.int .i64 0) := kf1.cell 1; have f0 := kf1.free 0; have f1 := kf1.free 1; have KF1 := Lib.hid kf1; have HBW := Lib.hid (show Below w.heap.size w w1 by rw [← HGF.out]; exact hbw); clear kf1 hbw)
  refine bodyPost_ret (v := .tuple #[.slice none 0 0, .agg #[.int .i64 2, .int .i64 0]]) (by simp [results, Try.results21, go_sem, c0, c1]) rfl ⟨none, 0, 0, by rw [HP.out]; rfl, by rw [HP.out]; exact Told.none_ _, (HBW.out.setCell ?_ _).setCell ?_ _⟩
  · exact Nat.le_of_eq HGF.out.symm
  · exact Nat.le_of_eq HGF.out.symm
set_option maxRecDepth 100000 in
set_option maxHeartbeats 2000000 in
theorem getF_any (s : ByteArray) (hs : s.size ≤ maxLen) (b : List Int) (p : Option Addr) (n c : Nat) (w : World) (hn : b.length = n) (hb : ∀ x ∈ b, 0 ≤ x ∧ x ≤ 255) (hA : At w p (b.map v8)) (hle : n ≤ c) (hm : c ≤ 9223372036854775807) (hp : p = none → c = 0) (hsm : n ≤ 1000000) :
    Calls Try.prog 21 #[.string s, .slice p n c] w (GetDone w (Fld.get (nums s) b)) := by
  by_cases hc : Fld.chk (nums s) = true
  · have HE := Lib.hid (Fld.chkE_ok hc)
    have HC := Lib.hid (chk_len hc)
    have hsl : s.size ≤ 40 := by have := HC.out.1; rwa [nums_length] at this
    obtain ⟨⟨st, er⟩, hr⟩ : ∃ r, r = Fld.walkL (Fld.getS b) none 0 (nums s) (0, []) := ⟨_, rfl⟩
    have HP := Lib.hid (get_walked hc hr.symm)
    have HR := Lib.hid hr
    have HA := Lib.hid hA
    have HN := Lib.hid hn
    have HB := Lib.hid hb
    have HPN := Lib.hid hp
    clear hc hr hA hn hb hp
    go_enter Try.func21, Try.ntmps21
    go_wp2_with (go_at_call 14; refine (check_any s _ hs).mono ?_; rw [HE.out]; rintro e w1 ⟨rfl, hb1⟩; have kf := Blk.new w #[Value.int IntKind.i64 0, Value.int IntKind.i64 0] 43; have hbw := ((Below.refl w.heap.size w).alloc (Nat.le_refl _) (Obj.cells #[Value.int IntKind.i64 0, Value.int IntKind.i64 0] 43)).trans (hb1.mono (by simp)); have kf1 := kf.below hb1 kf.lt; clear kf hb1; generalize hgfe : w.heap.size = gf at *; have HGF := Lib.hid hgfe.symm; clear hgfe; have c0 : w1.cell? ⟨gf, 0, none⟩ = some (.int .i64 0) := kf1.cell 0; have c1 : w1.cell? ⟨gf, 1, none⟩ = some (.int .i64 0) := kf1.cell 1; have f0 := kf1.free 0; have f1 := kf1.free 1; have KF1 := Lib.hid kf1; have HBW := Lib.hid (show Below w.heap.size w w1 by rw [← HGF.out]; exact hbw); clear kf1 hbw)
    have hin : RIn w1 w1.heap.size b p n c := ⟨HN.out, HB.out, HA.out.below HBW.out, Nat.le_refl _, hle, hm, HPN.out⟩
    have hst : RAt w1 w1.heap.size b p n c (0, []) (w1.alloc (Obj.cells #[Value.slice p n c, Value.int IntKind.i64 0, Value.slice none 0 0] 65)) :=
      ⟨.slice none 0 0, [], by simpa using Blk.new w1 #[Value.slice p n c, Value.int IntKind.i64 0, Value.slice none 0 0] 65, World.ownsRow_nil _ _ _ _, rfl, by simp, by simp, by simp, (Below.refl _ _).alloc (Nat.le_refl _) _⟩
    refine (walk_r (doer_r w1 w1.heap.size b p n c hin hsm) s hsl HC.out.2 (0, []) _ hst).mono ?_
    rw [← HR.out]
    rintro e w2 ⟨rfl, hs2, _⟩
    clear hst hin
    have hgf : gf < w1.heap.size := KF1.out.lt
    generalize hgae : w1.heap.size = ga at *
    have HGA := Lib.hid hgae
    clear hgae
    obtain ⟨at_, l2⟩ := st
    obtain ⟨v2, ys, hs2⟩ := hs2
    have a1 : w2.cell? ⟨ga, 1, none⟩ = some (.int .i64 at_) := hs2.blk.cell 1
    have a2 : w2.cell? ⟨ga, 2, none⟩ = some v2 := hs2.blk.cell 2
    have hbb := hs2.below
    have k2 := KF1.out.below hbb (by rw [HGA.out]; exact hgf)
    have c0' : w2.cell? ⟨gf, 0, none⟩ = some (.int .i64 0) := k2.cell 0
    have c1' : w2.cell? ⟨gf, 1, none⟩ = some (.int .i64 0) := k2.cell 1
    have f0' := k2.free 0
    have f1' := k2.free 1
    have HS2 := Lib.hid hs2
    have HK2 := Lib.hid k2
    have hgf2 : w.heap.size ≤ gf := Nat.le_of_eq HGF.out.symm
    have HBB := Lib.hid (HBW.out.trans (hbb.mono (show w.heap.size ≤ w1.heap.size by rw [HGA.out, ← HGF.out]; omega)))
    have han := HS2.out.at_
    obtain ⟨q2, c2, rfl, htold⟩ := hs2.told
    have HT := Lib.hid htold
    clear hs2 hbb k2 htold c0 c1 f0 f1
    simp only at han a2 ⊢
    by_cases he : er = 0
    · subst he
      by_cases hlt : at_ < n
      · have HP2 := Lib.hid (HP.out.trans (by simp [HN.out, hlt] : _ = (([] : List Itm), (4 : Int), at_)))
        go_wp2_with fail
        go_region
        all_goals
          go_wp2_with fail
          refine bodyPost_ret (v := .tuple #[.slice none 0 0, .agg #[.int .i64 4, .int .i64 (at_ : Int)]]) (by simp [results, Try.results21, go_sem, c0', c1']) rfl ⟨none, 0, 0, by rw [HP2.out], by rw [HP2.out]; exact Told.none_ _, ?_⟩
          first
            | exact (HBB.out.drew.setCell (p := ⟨gf, 0, none⟩) hgf2 _).setCell (p := ⟨gf, 1, none⟩) hgf2 _
            | exact ((HBB.out.setCell (p := ⟨gf, 0, none⟩) hgf2 _).setCell (p := ⟨gf, 1, none⟩) hgf2 _).drew
      · have HP2 := Lib.hid (HP.out.trans (by simp [HN.out, hlt] : _ = (l2, (0 : Int), 0)))
        go_wp2_with fail
        refine bodyPost_ret (v := .tuple #[.slice q2 l2.length c2, .agg #[.int .i64 0, .int .i64 0]]) (by simp [results, Try.results21, go_sem, c0', c1']) rfl ⟨q2, l2.length, c2, by rw [HP2.out]; rfl, by rw [HP2.out]; exact HS2.out.toldF HK2.out _ _, ?_⟩
        exact (HBB.out.setCell (p := ⟨gf, 0, none⟩) hgf2 _).setCell (p := ⟨gf, 1, none⟩) hgf2 _
    · have he' : (er == 0) = false := by simpa using he
      have HP2 := Lib.hid (HP.out.trans (by simp [he] : _ = (([] : List Itm), er, at_)))
      clear he
      go_wp2_with fail
      go_region
      all_goals
        go_wp2_with fail
        refine bodyPost_ret (v := .tuple #[.slice none 0 0, .agg #[.int .i64 er, .int .i64 (at_ : Int)]]) (by simp [results, Try.results21, go_sem, c0', c1']) rfl ⟨none, 0, 0, by rw [HP2.out], by rw [HP2.out]; exact Told.none_ _, ?_⟩
        first
          | exact (HBB.out.drew.setCell (p := ⟨gf, 0, none⟩) hgf2 _).setCell (p := ⟨gf, 1, none⟩) hgf2 _
          | exact ((HBB.out.setCell (p := ⟨gf, 0, none⟩) hgf2 _).setCell (p := ⟨gf, 1, none⟩) hgf2 _).drew
  · exact getF_bad s hs b p n c w (by simpa using hc)
end Go.Proofs.Ytgakmkglejddeaa
