/-
  What Get answers.
  The reference's Put.
  The program's items, bounded, fact: loops over a kind's letters.
  The program's bounded: are all items within the bounds of their letters?
-/
import Derived.Test.YtokpabkcaofahaaGreatPb23
import Derived.Test.YtokpabkcaofahaaGreatPb24
import Derived.ChangeAlike
import Derived.Test.YtokpabkcaofahaaGreatPb19
import Derived.Test.YtokpabkcaofahaaGreatPb7
import Derived.Test.YtokpabkcaofahaaGreatPb21
import Derived.Test.YtokpabkcaofahaaGreatPb2
import Derived.Test.YtokpabkcaofahaaGreatPb9
import Derived.Deep.RegionLaw
import Derived.WalkSpells
import Derived.IntWalk
import Derived.WalkLawsBesides
import Derived.Test.YtokpabkcaofahaaGreatPb1
import Derived.Laws.StructEq
import Derived.Test.YtokpabkcaofahaaGreatPb3
import Derived.Test.YtokpabkcaofahaaGreatPb8
import Derived.Test.YtokpabkcaofahaaGreatPb18
import Derived.Laws.MakeOwn
namespace Go.Proofs.YtokpabkcaofahaaGreat
section
set_option linter.unusedSimpArgs false
set_option linter.unusedVariables false
open Go.RowKit Sha
open Fld (Itm)
theorem get_one (w0 : World) (ga : Nat) (bs : List Int) (p : Option Addr) (n c : Nat) (hin : RIn w0 ga bs p n c) (hn : n ≤ 1000000) (l : Int) (hl : Fld.isC l) (st : Nat × List Itm) (w : World) (h : RAt w0 ga bs p n c st w) :
    Calls Tryz.prog 113 #[.pointer (some ⟨ga, 0, none⟩), .int .i32 l] w (GDone w0 ga bs p n c l st w) := by
  obtain ⟨at_, xs⟩ := st
  rcases hl with rfl | rfl | rfl | rfl
  · exact get_n w0 ga bs p n c hin hn at_ xs w h
  · exact get_b w0 ga bs p n c hin hn at_ xs w h
  · exact get_d w0 ga bs p n c hin hn at_ xs w h
  · exact get_o w0 ga bs p n c hin hn at_ xs w h
theorem RSt.keepA {w0 w : World} {ga : Nat} {bs : List Int} {p : Option Addr} {n c : Nat} {st : Nat × List Itm} {v : Value} {ys : List Hdr} (h : RSt w0 ga bs p n c st v ys w) (o : Obj) : RSt w0 ga bs p n c st v ys (w.alloc o) :=
  ⟨h.blk.old o, h.own.alloc o, h.items, fun y hy => (h.good y hy).carry fun _ _ hb => hb.old o, h.at_, h.few, h.below.alloc h.below.size o⟩
theorem RSt.keepI {w0 w : World} {ga : Nat} {bs : List Int} {p : Option Addr} {n c : Nat} {st : Nat × List Itm} {v : Value} {ys : List Hdr} (h : RSt w0 ga bs p n c st v ys w) {gi : Nat} {s : ByteArray} {k : Nat} (hg : w0.heap.size ≤ gi) (hi : w.heap[gi]? = some (.stringIter s k)) (k' : Nat) : RSt w0 ga bs p n c st v ys (w.iterAt gi s k') := by
  have hc := cells_iterAt hi k'
  exact ⟨hc.2 _ _ _ _ h.blk, own_carry h.own fun k c fz _ hh => hc.2 _ _ _ _ hh, h.items, fun y hy => (h.good y hy).carry fun _ _ hb => hc.2 _ _ _ _ hb, h.at_, h.few, Lib.below_iterAt h.below hg s k'⟩
theorem rd_lim (bs : List Int) (hb : ∀ n ∈ bs, 0 ≤ n ∧ n ≤ 255) : 0 ≤ (Fld.rd 0 0 bs).2.1 ∧ (Fld.rd 0 0 bs).2.1 ≤ 9223372036854775807 := by
  rcases Fld.rd_err bs 0 0 with h | ⟨_, h⟩
  · obtain ⟨m, h1, h2, _⟩ := Fld.rd_back0 bs (Fld.rd 0 0 bs).2.1 (Fld.rd 0 0 bs).2.2 hb (by rw [← h])
    omega
  · omega
theorem getS_lim (bs : List Int) (hb : ∀ n ∈ bs, 0 ≤ n ∧ n ≤ 255) (c : Int) (st : Nat × List Itm) : (Fld.getS bs c st).2.1 ≤ 9223372036854775807 ∧ -9223372036854775808 ≤ (Fld.getS bs c st).2.1 := by
  have h1 := rd_lim (bs.drop st.1) (fun n hn => hb n (List.mem_of_mem_drop hn))
  have h2 : 0 ≤ (Fld.rdTop (bs.drop st.1)).2.1 ∧ (Fld.rdTop (bs.drop st.1)).2.1 ≤ 9223372036854775807 := by
    unfold Fld.rdTop; split
    · simp
    · exact h1
  unfold Fld.getS
  dsimp only
  repeat' split
  all_goals (dsimp only; omega)
theorem doer_r (w0 : World) (ga : Nat) (bs : List Int) (p : Option Addr) (n c : Nat) (hin : RIn w0 ga bs p n c) (hn : n ≤ 1000000) : Doer Tryz.prog 113 ga w0.heap.size (Fld.getS bs) (RAt w0 ga bs p n c) where
  step l st w hl hR := get_one w0 ga bs p n c hin hn l hl st w hR
  keepA st w o h := by obtain ⟨v, ys, h⟩ := h; exact ⟨v, ys, h.keepA o⟩
  keepI st w gi s q q' h hg hi := by obtain ⟨v, ys, h⟩ := h; exact ⟨v, ys, h.keepI hg hi q'⟩
  base st w h := by obtain ⟨v, ys, h⟩ := h; exact h.below.size
  lim l st w _ := getS_lim bs hin.bd l st
theorem told_of {w : World} {B : Nat} {v : Value} {ys : List Hdr} {l : List Itm} (ho : w.ownsRow B 83 34 v l.length (ys.flatMap cellsI)) (hi : ys.map (·.1) = l) (hg : ∀ y ∈ ys, GoodR w y.1 y.2.1 y.2.2) : ∃ q c', v = .slice q l.length c' ∧ Told w q l.length c' l := by
  have hi : ∀ q, At w q (ys.flatMap cellsI) → ItemsAt w q l := fun q hA => ⟨ys, hi, hA, fun y hy => (hg y hy).good⟩
  rcases ho.2 with ⟨hv, h0⟩ | ⟨g, cap, cur, hv, hg, hh, h1, h2, h3, h4⟩
  · refine ⟨none, 0, by rw [hv, h0], rfl, by omega, by omega, fun _ => rfl, hi none (Or.inl ?_)⟩
    have := ho.1
    rw [h0] at this
    exact List.eq_nil_of_length_eq_zero (by simpa using this)
  · refine ⟨_, cap, hv, rfl, h1, by unfold maxLen at h2; omega, (fun h => by cases h), hi _ (Or.inr ⟨g, 0, rfl, fun i u hu => ?_⟩)⟩
    have := ho.cells (g := g) (by rw [hv]; rfl) i u hu
    rwa [Addr.add_mid] at this
theorem RSt.told {w0 w : World} {ga : Nat} {bs : List Int} {p : Option Addr} {n c : Nat} {st : Nat × List Itm} {v : Value} {ys : List Hdr} (h : RSt w0 ga bs p n c st v ys w) : ∃ q c', v = .slice q st.2.length c' ∧ Told w q st.2.length c' st.2 :=
  told_of h.own h.items h.good
/-- Items whose bytes lie in blocks of bytes of their own. -/
structure ToldR (w : World) (p : Option Addr) (n c : Nat) (l : List Itm) : Prop where
  told : Told w p n c l
  rows : ∃ ys : List Hdr, ys.map (·.1) = l ∧ At w p (ys.flatMap cellsI) ∧ ∀ y ∈ ys, GoodR w y.1 y.2.1 y.2.2
theorem ToldR.none_ (w : World) : ToldR w none 0 0 [] := ⟨Told.none_ w, [], rfl, At.nil _ _, by simp⟩
theorem told_ofR {w : World} {B : Nat} {v : Value} {ys : List Hdr} {l : List Itm} (ho : w.ownsRow B 83 34 v l.length (ys.flatMap cellsI)) (hi : ys.map (·.1) = l) (hg : ∀ y ∈ ys, GoodR w y.1 y.2.1 y.2.2) : ∃ q c', v = .slice q l.length c' ∧ ToldR w q l.length c' l := by
  obtain ⟨q, c', hv, ht⟩ := told_of ho hi hg
  refine ⟨q, c', hv, ht, ys, hi, ?_, hg⟩
  rcases ho.2 with ⟨hv2, h0⟩ | ⟨g, cap, cur, hv2, hgg, hh, h1, h2, h3, h4⟩
  · left
    have := ho.1
    rw [h0] at this
    exact List.eq_nil_of_length_eq_zero (by simpa using this)
  · rw [hv] at hv2
    simp only [Value.slice.injEq] at hv2
    refine Or.inr ⟨g, 0, hv2.1, fun i u hu => ?_⟩
    have := ho.cells (g := g) (by rw [hv, hv2.1]; rfl) i u hu
    rwa [Addr.add_mid] at this
theorem if_ne : (83 : TypeId) ≠ 64 := by decide
theorem uf_ne : (5 : TypeId) ≠ 64 := by decide
theorem RSt.toldFR {w0 w : World} {ga gf : Nat} {bs : List Int} {p : Option Addr} {n c : Nat} {at_ : Nat} {l : List Itm} {q : Option Addr} {c' : Nat} {ys : List Hdr} {cs : List Value} (h : RSt w0 ga bs p n c (at_, l) (.slice q l.length c') ys w) (hk : Blk w gf cs 64) (u0 u1 : Value) :
    ToldR ((w.setCell ⟨gf, 0, none⟩ u0).setCell ⟨gf, 1, none⟩ u1) q l.length c' l := by
  obtain ⟨q2, c2, hv, ht⟩ := told_ofR (own_set (own_set h.own hk if_ne 0 u0) (hk.set 0 u0) if_ne 1 u1) h.items (fun y hy => (h.good y hy).carry fun g cs hb => (hb.setOther _ _ (blk_ne hb hk uf_ne)).setOther _ _ (blk_ne hb hk uf_ne))
  simp only [Value.slice.injEq] at hv
  obtain ⟨rfl, _, rfl⟩ := hv
  exact ht
def GetDoneR (w0 : World) (r : List Itm × Int × Nat) (e : Ending) (w : World) : Prop :=
  ∃ q n c, e = .returned (.tuple #[.slice q n c, .agg #[.int .i64 r.2.1, .int .i64 (r.2.2 : Int)]]) ∧ ToldR w q n c r.1 ∧ Below w0.heap.size w0 w
/-- What Get leaves: items, an error and its place. -/
def GetDone (w0 : World) (r : List Itm × Int × Nat) (e : Ending) (w : World) : Prop :=
  ∃ q n c, e = .returned (.tuple #[.slice q n c, .agg #[.int .i64 r.2.1, .int .i64 (r.2.2 : Int)]]) ∧ Told w q n c r.1 ∧ Below w0.heap.size w0 w
theorem get_bad {s b : List Int} (h : Fld.chk s = false) : Fld.get s b = ([], 2, 0) := by simp [Fld.get, h]
theorem get_walked {s b : List Int} (h : Fld.chk s = true) {st : Nat × List Itm} {e : Int} (hw : Fld.walkL (Fld.getS b) none 0 s (0, []) = (st, e)) :
    Fld.get s b = if e = 0 then (if st.1 < b.length then ([], 4, st.1) else (st.2, 0, 0)) else ([], e, st.1) := by simp [Fld.get, h, hw]
set_option maxRecDepth 100000 in
set_option maxHeartbeats 2000000 in
theorem getF_bad (s : ByteArray) (hs : s.size ≤ maxLen) (b : List Int) (p : Option Addr) (n c : Nat) (w : World) (hc : Fld.chk (nums s) = false) :
    Calls Tryz.prog 76 #[.string s, .slice p n c] w (GetDoneR w (Fld.get (nums s) b)) := by
  have HP := Lib.hid (get_bad (b := b) hc)
  have HE := Lib.hid (Fld.chkE_no hc)
  clear hc
  go_enter Tryz.func76, Tryz.ntmps76
  go_wp2_with (go_at_call 82; refine (check_any s _ hs).mono ?_; rw [HE.out]; rintro e w1 ⟨rfl, hb1⟩; have kf := Blk.new w #[Value.int IntKind.i64 0, Value.int IntKind.i64 0] 64; have hbw := ((Below.refl w.heap.size w).alloc (Nat.le_refl _) (Obj.cells #[Value.int IntKind.i64 0, Value.int IntKind.i64 0] 64)).trans (hb1.mono (by simp)); have kf1 := kf.below hb1 kf.lt; clear kf hb1; generalize hgfe : w.heap.size = gf at *; have HGF := Lib.hid hgfe.symm; clear hgfe; have c0 : w1.cell? ⟨gf, 0, none⟩ = some (.int .i64 0) := kf1.cell 0; have c1 : w1.cell? ⟨gf, 1, none⟩ = some (.int .i64 0) := kf1.cell 1; have f0 := kf1.free 0; have f1 := kf1.free 1; have KF1 := Lib.hid kf1; have HBW := Lib.hid (show Below w.heap.size w w1 by rw [← HGF.out]; exact hbw); clear kf1 hbw)
  refine bodyPost_ret (v := .tuple #[.slice none 0 0, .agg #[.int .i64 2, .int .i64 0]]) (by simp [results, Tryz.results76, go_sem, c0, c1]) rfl ⟨none, 0, 0, by rw [HP.out]; rfl, by rw [HP.out]; exact ToldR.none_ _, (HBW.out.setCell ?_ _).setCell ?_ _⟩
  · exact Nat.le_of_eq HGF.out.symm
  · exact Nat.le_of_eq HGF.out.symm
set_option maxRecDepth 100000 in
set_option maxHeartbeats 2000000 in
theorem getF_anyR (s : ByteArray) (hs : s.size ≤ maxLen) (b : List Int) (p : Option Addr) (n c : Nat) (w : World) (hn : b.length = n) (hb : ∀ x ∈ b, 0 ≤ x ∧ x ≤ 255) (hA : At w p (b.map v8)) (hle : n ≤ c) (hm : c ≤ 9223372036854775807) (hp : p = none → c = 0) (hsm : n ≤ 1000000) :
    Calls Tryz.prog 76 #[.string s, .slice p n c] w (GetDoneR w (Fld.get (nums s) b)) := by
  by_cases hc : Fld.chk (nums s) = true
  · have HE := Lib.hid (Fld.chkE_ok hc)
    have HC := Lib.hid (chk_len hc)
    have hsl : s.size ≤ 40 := by have := HC.out.1; rwa [nums_length] at this
    obtain ⟨⟨st, er⟩, hr⟩ : ∃ r, r = Fld.walkL (Fld.getS b) none 0 (nums s) (0, []) := ⟨_, rfl⟩
    have HP := Lib.hid (get_walked hc hr.symm)
    have HR := Lib.hid hr
    have HA := Lib.hid hA
    have HN := Lib.hid hn
    have HB := Lib.hid hb
    have HPN := Lib.hid hp
    clear hc hr hA hn hb hp
    go_enter Tryz.func76, Tryz.ntmps76
    go_wp2_with (go_at_call 82; refine (check_any s _ hs).mono ?_; rw [HE.out]; rintro e w1 ⟨rfl, hb1⟩; have kf := Blk.new w #[Value.int IntKind.i64 0, Value.int IntKind.i64 0] 64; have hbw := ((Below.refl w.heap.size w).alloc (Nat.le_refl _) (Obj.cells #[Value.int IntKind.i64 0, Value.int IntKind.i64 0] 64)).trans (hb1.mono (by simp)); have kf1 := kf.below hb1 kf.lt; clear kf hb1; generalize hgfe : w.heap.size = gf at *; have HGF := Lib.hid hgfe.symm; clear hgfe; have c0 : w1.cell? ⟨gf, 0, none⟩ = some (.int .i64 0) := kf1.cell 0; have c1 : w1.cell? ⟨gf, 1, none⟩ = some (.int .i64 0) := kf1.cell 1; have f0 := kf1.free 0; have f1 := kf1.free 1; have KF1 := Lib.hid kf1; have HBW := Lib.hid (show Below w.heap.size w w1 by rw [← HGF.out]; exact hbw); clear kf1 hbw)
    have hin : RIn w1 w1.heap.size b p n c := ⟨HN.out, HB.out, HA.out.below HBW.out, Nat.le_refl _, hle, hm, HPN.out⟩
    have hst : RAt w1 w1.heap.size b p n c (0, []) (w1.alloc (Obj.cells #[Value.slice p n c, Value.int IntKind.i64 0, Value.slice none 0 0] 160)) :=
      ⟨.slice none 0 0, [], by simpa using Blk.new w1 #[Value.slice p n c, Value.int IntKind.i64 0, Value.slice none 0 0] 160, World.ownsRow_nil _ _ _ _, rfl, by simp, by simp, by simp, (Below.refl _ _).alloc (Nat.le_refl _) _⟩
    refine (walk_r (doer_r w1 w1.heap.size b p n c hin hsm) s hsl HC.out.2 (0, []) _ hst).mono ?_
    rw [← HR.out]
    rintro e w2 ⟨rfl, hs2, _⟩
    clear hst hin
    have hgf : gf < w1.heap.size := KF1.out.lt
    generalize hgae : w1.heap.size = ga at *
    have HGA := Lib.hid hgae
    clear hgae
    obtain ⟨at_, l2⟩ := st
    obtain ⟨v2, ys, hs2⟩ := hs2
    have a1 : w2.cell? ⟨ga, 1, none⟩ = some (.int .i64 at_) := hs2.blk.cell 1
    have a2 : w2.cell? ⟨ga, 2, none⟩ = some v2 := hs2.blk.cell 2
    have hbb := hs2.below
    have k2 := KF1.out.below hbb (by rw [HGA.out]; exact hgf)
    have c0' : w2.cell? ⟨gf, 0, none⟩ = some (.int .i64 0) := k2.cell 0
    have c1' : w2.cell? ⟨gf, 1, none⟩ = some (.int .i64 0) := k2.cell 1
    have f0' := k2.free 0
    have f1' := k2.free 1
    have HS2 := Lib.hid hs2
    have HK2 := Lib.hid k2
    have hgf2 : w.heap.size ≤ gf := Nat.le_of_eq HGF.out.symm
    have HBB := Lib.hid (HBW.out.trans (hbb.mono (show w.heap.size ≤ w1.heap.size by rw [HGA.out, ← HGF.out]; omega)))
    have han := HS2.out.at_
    obtain ⟨q2, c2, rfl, htold⟩ := hs2.told
    have HT := Lib.hid htold
    clear hs2 hbb k2 htold c0 c1 f0 f1
    simp only at han a2 ⊢
    by_cases he : er = 0
    · subst he
      by_cases hlt : at_ < n
      · have HP2 := Lib.hid (HP.out.trans (by simp [HN.out, hlt] : _ = (([] : List Itm), (4 : Int), at_)))
        go_wp2_with fail
        go_region
        all_goals
          go_wp2_with fail
          refine bodyPost_ret (v := .tuple #[.slice none 0 0, .agg #[.int .i64 4, .int .i64 (at_ : Int)]]) (by simp [results, Tryz.results76, go_sem, c0', c1']) rfl ⟨none, 0, 0, by rw [HP2.out], by rw [HP2.out]; exact ToldR.none_ _, ?_⟩
          first
            | exact (HBB.out.drew.setCell (p := ⟨gf, 0, none⟩) hgf2 _).setCell (p := ⟨gf, 1, none⟩) hgf2 _
            | exact ((HBB.out.setCell (p := ⟨gf, 0, none⟩) hgf2 _).setCell (p := ⟨gf, 1, none⟩) hgf2 _).drew
      · have HP2 := Lib.hid (HP.out.trans (by simp [HN.out, hlt] : _ = (l2, (0 : Int), 0)))
        go_wp2_with fail
        refine bodyPost_ret (v := .tuple #[.slice q2 l2.length c2, .agg #[.int .i64 0, .int .i64 0]]) (by simp [results, Tryz.results76, go_sem, c0', c1']) rfl ⟨q2, l2.length, c2, by rw [HP2.out]; rfl, by rw [HP2.out]; exact HS2.out.toldFR HK2.out _ _, ?_⟩
        exact (HBB.out.setCell (p := ⟨gf, 0, none⟩) hgf2 _).setCell (p := ⟨gf, 1, none⟩) hgf2 _
    · have he' : (er == 0) = false := by simpa using he
      have HP2 := Lib.hid (HP.out.trans (by simp [he] : _ = (([] : List Itm), er, at_)))
      clear he
      go_wp2_with fail
      go_region
      all_goals
        go_wp2_with fail
        refine bodyPost_ret (v := .tuple #[.slice none 0 0, .agg #[.int .i64 er, .int .i64 (at_ : Int)]]) (by simp [results, Tryz.results76, go_sem, c0', c1']) rfl ⟨none, 0, 0, by rw [HP2.out], by rw [HP2.out]; exact ToldR.none_ _, ?_⟩
        first
          | exact (HBB.out.drew.setCell (p := ⟨gf, 0, none⟩) hgf2 _).setCell (p := ⟨gf, 1, none⟩) hgf2 _
          | exact ((HBB.out.setCell (p := ⟨gf, 0, none⟩) hgf2 _).setCell (p := ⟨gf, 1, none⟩) hgf2 _).drew
  · exact getF_bad s hs b p n c w (by simpa using hc)
theorem getF_any (s : ByteArray) (hs : s.size ≤ maxLen) (b : List Int) (p : Option Addr) (n c : Nat) (w : World) (hn : b.length = n) (hb : ∀ x ∈ b, 0 ≤ x ∧ x ≤ 255) (hA : At w p (b.map v8)) (hle : n ≤ c) (hm : c ≤ 9223372036854775807) (hp : p = none → c = 0) (hsm : n ≤ 1000000) :
    Calls Tryz.prog 76 #[.string s, .slice p n c] w (GetDone w (Fld.get (nums s) b)) :=
  (getF_anyR s hs b p n c w hn hb hA hle hm hp hsm).mono fun e w' ⟨q, n', c', he, ht, hb'⟩ => ⟨q, n', c', he, ht.told, hb'⟩
end
section
set_option linter.unusedSimpArgs false
set_option linter.unusedVariables false
open Go.RowKit Sha Fct
open Fld (Itm)
theorem itemsH_few (x : Fac) (q : Option Addr) (c : Nat) : (itemsH x q c).length ≤ 4 := by
  unfold itemsH
  (repeat' split) <;> simp
theorem row_weak9 {w : World} {B B' n size : Nat} {e : TypeId} {v : Value} {xs : List Value} (h : w.ownsRow B e size v n xs) (hb : B' ≤ B) : w.ownsRow B' e size v n xs := by
  refine ⟨h.1, ?_⟩
  rcases h.2 with h | ⟨g, cap, cur, hv, hg, hh⟩
  · exact Or.inl h
  · exact Or.inr ⟨g, cap, cur, hv, Nat.le_trans hb hg, hh⟩
theorem item_zsize : (Value.agg (icells ⟨0, [], Fld.zero32⟩ none 0).toArray).cells.size = 34 := by
  have h := icells_length (x := ⟨0, [], Fld.zero32⟩) ⟨by simp, by simp, by simp, z32_ok.1, z32_ok.2⟩ none 0
  simp [Value.cells, h]
theorem own_full_s (w : World) (cs : Array Value) (e : TypeId) (size B : Nat) (hB : B ≤ w.heap.size) (hs : cs.size = size) : (w.alloc (.cells cs e)).ownsRow B e size (.slice (some ⟨w.heap.size, 0, none⟩) 1 1) 1 cs.toList := by
  refine ⟨by simp [hs], .inr ⟨w.heap.size, 1, cs, rfl, hB, heap_alloc_new w _, Nat.le_refl _, by unfold maxLen; omega, by omega, ?_⟩⟩
  rw [List.take_of_length_le (by simp [hs])]
theorem row_below_s {w w' : World} {B n size : Nat} {e : TypeId} {v : Value} {xs : List Value} (h : w.ownsRow B e size v n xs) (hb : Below w.heap.size w w') : w'.ownsRow B e size v n xs :=
  row_carry h fun k c fz _ hh => (hb.block k (Array.getElem?_eq_some_iff.1 hh).1).trans hh
/-- An item, and others that were told: told together. -/
theorem told_cons {w : World} {B : Nat} {v : Value} {y : Hdr} {ys : List Hdr} {n : Nat} (h : w.ownsRow B 83 34 v (1 + n) (cellsI y ++ ys.flatMap cellsI)) (hn : n = ys.length) (hy : ∀ z ∈ y :: ys, GoodI w z.1 z.2.1 z.2.2) :
    ∃ p c, v = .slice p (1 + n) c ∧ Told w p (1 + n) c (y.1 :: ys.map (·.1)) := by
  obtain ⟨p, cap, rfl, h1, h2, hA, _, h3⟩ := own_at_s h
  unfold maxLen at h2
  exact ⟨p, cap, rfl, ⟨by simp [hn]; omega, h1, by omega, h3, ⟨y :: ys, rfl, by simpa using hA, hy⟩⟩⟩
@[irreducible] def catOp (x y : Operand) (u v : Value) : Sem Next := do pure (.value (← (do eqGuard .add 9 x y u v; binOp .add 9 u v)))
theorem execOp_cat (ρ : Operand → Value) (dst : Option Tmp) (x y : Operand) (r : TypeId) (ty : TypeId) (pos : String) (after : Array Edge) (guard : Option (Nat × Bool)) :
    execOp ρ { dst := dst, op := .binOp .add 9 x y r, type := ty, pos := pos, after := after, guard := guard } = catOp x y (ρ x) (ρ y) := by unfold catOp; rfl
theorem run_cat9 (x y : Operand) (s t : ByteArray) (hs : s.size + t.size ≤ 1000000) (w : World) : (catOp x y (.string s) (.string t)).run Tryz.prog w = .ok (.value (.string (s ++ t))) w := by
  have h : ¬ (((s.size + t.size : Nat) : Int) > IntKind.i64.max) := by have h1 : IntKind.i64.max = 9223372036854775807 := rfl; rw [h1]; omega
  unfold catOp
  simp only [binOp]
  simp only [eqGuard, Op.stringOp, run_underlying Tryz.underlying9, h]
  simp
theorem nums_cat (s t : ByteArray) : nums (s ++ t) = nums s ++ nums t := by
  unfold nums
  simp
attribute [local go_sem ↓] execOp_cat execOp_allocFact execOp_storeFact execOp_boxFact execOp_makeFact execOp_loadFact execOp_loadId execOp_loadItem execOp_buildItems execOp_makeItem execOp_loadBal
end
section
set_option linter.unusedSimpArgs false
set_option linter.unusedVariables false
open Go.RowKit Sha Fct
open Fld (Itm)
theorem execOp_boxForm (ρ : Operand → Value) (dst : Option Tmp) (x : Operand) (ty : TypeId) (pos : String) (after : Array Edge) (guard : Option (Nat × Bool)) :
    execOp ρ { dst := dst, op := .box 79 x, type := ty, pos := pos, after := after, guard := guard } = boxOp 79 (ρ x) := by unfold boxOp; rfl
/-- A letter's place: what is left of the letters. -/
theorem has_next (t : ByteArray) (l : List Int) (hl : nums t = l) (j : Nat) (hj : j < t.size) (h128 : ∀ c ∈ l, c < 128) : ∃ c, NextL Tryz.prog t j (j + 1) c ∧ l[j]? = some c := by
  obtain ⟨c, hn, hd⟩ := next_isL Tryz.prog t j hj (by rw [hl]; exact h128)
  refine ⟨c, hn, ?_⟩
  rw [hl] at hd
  rw [← List.head?_drop, hd]; rfl
theorem hasL_128 (k : Int) : ∀ c ∈ hasL k, c < 128 := fun c hc => by have := hasL_is k c hc; unfold isHas at this; omega
theorem rowOwn_told {w : World} {B : Nat} {v : Value} {ys : List Hdr} {n : Nat} (h : w.ownsRow B 83 34 v n (ys.flatMap cellsI)) (hn : n = ys.length) (hy : ∀ z ∈ ys, GoodI w z.1 z.2.1 z.2.2) :
    ∃ p c, v = .slice p n c ∧ At w p (ys.flatMap cellsI) ∧ Told w p n c (ys.map (·.1)) := by
  obtain ⟨p, cap, rfl, h1, h2, hA, _, h3⟩ := own_at_s h
  unfold maxLen at h2
  exact ⟨p, cap, rfl, hA, ⟨by simp [hn], h1, by omega, h3, ⟨ys, rfl, hA, hy⟩⟩⟩
def PItems (ys : List Hdr) (w : World) (e : Ending) (w' : World) : Prop :=
  ∃ p n cp, e = .returned (.slice p n cp) ∧ n = ys.length ∧ At w' p (ys.flatMap cellsI) ∧ Told w' p n cp (ys.map (·.1)) ∧ Below w.heap.size w w'
attribute [local go_sem ↓] execOp_boxFact execOp_boxForm execOp_loadFact execOp_buildItems
set_option maxRecDepth 100000 in
set_option maxHeartbeats 2000000 in
theorem pitems_any (k : Int) (x : Fac) (q : Option Addr) (c : Nat) (w : World) (h : sF.Good w x q c) :
    Calls Tryz.prog 44 #[form k, .agg (fcells x q c).toArray] w (PItems ((hasL k).map (hdrOf x q c)) w) := by
  have hsz := kHas_size k
  have hnm := kHas_nums k
  have HIS := Lib.hid (hasL_is k)
  have H128 := Lib.hid (hasL_128 k)
  show Calls Tryz.prog 44 #[.agg #[.string (kSh k), .string (kHas k)], .agg (fcells x q c).toArray] w _
  generalize kSh k = s at *
  generalize kHas k = t at *
  generalize hasL k = l at *
  have HL := Lib.hid (show l.length = t.size by rw [← hnm, nums_length])
  have HNM := Lib.hid hnm
  clear hnm
  have bx1 := run_boxOp (P := Tryz.prog) (t := 79) (cs := #[.string s, .string t]) w
  have hb1 := (Below.refl w.heap.size w).alloc (Nat.le_refl _) (.cells #[.string s, .string t] 79)
  have hk1 : Blk (w.alloc (.cells #[.string s, .string t] 79)) w.heap.size [.string s, .string t] 79 := Blk.new w #[.string s, .string t] 79
  obtain ⟨w1, hw1⟩ : ∃ v, v = w.alloc (.cells #[.string s, .string t] 79) := ⟨_, rfl⟩
  rw [← hw1] at bx1 hb1 hk1
  have bx2 := run_boxOp (P := Tryz.prog) (t := 28) (cs := (fcells x q c).toArray) w1
  have hb2 := hb1.alloc hb1.size (.cells (fcells x q c).toArray 28)
  have hk2 : Blk (w1.alloc (.cells (fcells x q c).toArray 28)) w1.heap.size (fcells x q c) 28 := Blk.new w1 (fcells x q c).toArray 28
  have hk12 := hk1.old (.cells (fcells x q c).toArray 28)
  obtain ⟨w2, hw2⟩ : ∃ v, v = w1.alloc (.cells (fcells x q c).toArray 28) := ⟨_, rfl⟩
  rw [← hw2] at bx2 hb2 hk2 hk12
  obtain ⟨i0, hi, hz0, hz1, hz2⟩ := info_parts item_all3
  obtain ⟨w3, hmk, hown, hgr⟩ := run_make_own (P := Tryz.prog) (w := w2) w.heap.size 81 83 i0 _ 34 Tryz.underlying81 hi hz0 hz1 .i64 .i64 t.size (by rw [hz2]; omega) (by unfold maxLen; omega) hb2.size
  have hb3 : Below w.heap.size w w3 := hb2.grown hgr hb2.size (fun k e => by cases e)
  have hb23 : Below w2.heap.size w2 w3 := (Below.refl _ _).grown hgr (Nat.le_refl _) (fun k e => by cases e)
  have c1 : w2.cell? ⟨w.heap.size, 1, none⟩ = some (.string t) := hk12.cell 1
  have c1' : w3.cell? ⟨w.heap.size, 1, none⟩ = some (.string t) := (hk12.below hb23 hk12.lt).cell 1
  have K3 := Lib.hid (hk2.below hb23 hk2.lt)
  have HO := Lib.hid hown
  have HB3 := Lib.hid hb3
  have HX := Lib.hid h
  obtain ⟨gf, hgf⟩ : ∃ gf, gf = w1.heap.size := ⟨_, rfl⟩
  rw [← hgf] at bx2 K3
  have HGF := Lib.hid (show w.heap.size ≤ gf ∧ gf < w3.heap.size from ⟨by rw [hgf]; exact hb1.size, K3.out.lt⟩)
  clear hb1 hk1 hw1 hb2 hk2 hk12 hw2 hi hz0 hz1 hz2 hown hgr hb3 hb23 h hgf
  go_enter Tryz.func44, Tryz.ntmps44
  go_wp2_with fail
  have HI0 := Lib.hid (World.iter_heap w3 t 0)
  have hal : (w3.iter t 0) = w3.alloc (.stringIter t 0) := rfl
  have K4 := Lib.hid (show Blk (w3.iter t 0) gf (fcells x q c) 28 from by rw [hal]; exact K3.out.old _)
  have HO4 := Lib.hid (show (w3.iter t 0).ownsRow w.heap.size 83 34 (.slice (some ⟨w2.heap.size, 0, none⟩) 0 t.size) 0 [] from by rw [hal]; exact HO.out.alloc _)
  have HB4 := Lib.hid (show Below w.heap.size w (w3.iter t 0) from by rw [hal]; exact HB3.out.alloc HB3.out.size _)
  obtain ⟨gi, hgi⟩ : ∃ gi, gi = w3.heap.size := ⟨_, rfl⟩
  rw [← hgi] at HI0 ⊢
  have HG := Lib.hid (show w.heap.size ≤ gi by rw [hgi]; exact HB3.out.size)
  clear hal hgi HB3 HO K3 HGF
  generalize w3.iter t 0 = w4 at *
  go_loopg [5] t.size (fun gh vv wr => ∃ (j : Nat) (v : Value), v = vv ∧ j ≤ t.size ∧ gh = t.size - j ∧ Hid (wr.heap[gi]? = some (.stringIter t j)) ∧ Hid (Blk wr gf (fcells x q c) 28) ∧ Hid (wr.ownsRow w.heap.size 83 34 v j (((l.take j).map (hdrOf x q c)).flatMap cellsI)) ∧ Hid (Below w.heap.size w wr))
  case atStart => exact ⟨0, _, rfl, by omega, rfl, HI0, K4, HO4, HB4⟩
  case round =>
    obtain ⟨j, v, rfl, hj, rfl, HI, K, HO, HB⟩ := hrel
    clear HI0 K4 HO4 HB4
    by_cases hp : j < t.size
    · obtain ⟨ch, hn, hch⟩ := has_next t l HNM.out j hp H128.out
      have hnx := fun ty => hn.run wr gi ty HI.out
      have hcm : ch ∈ l := List.mem_of_getElem? hch
      have HC := Lib.hid (HIS.out ch hcm)
      have HTK := Lib.hid (show (l.take (j + 1)).map (hdrOf x q c) = (l.take j).map (hdrOf x q c) ++ [hdrOf x q c ch] from by
        rw [List.take_add_one, hch]; simp)
      have HI2 := Lib.hid (Lib.iterAt_heap _ _ _ _ (j + 1) HI.out)
      have hck := cells_iterAt HI.out (j + 1)
      have K2 := Lib.hid (show Blk (wr.iterAt gi t (j + 1)) gf (fcells x q c) 28 from hck.2 _ _ _ _ K.out)
      have HO2 := Lib.hid (row_carry HO.out (fun k c fz _ hk => hck.2 _ _ _ _ hk))
      have HB2 := Lib.hid (show Below w.heap.size w (wr.iterAt gi t (j + 1)) from Lib.below_iterAt HB.out HG.out t (j + 1))
      clear hn hch hcm hck HI K HO HB
      obtain ⟨w5, hw5⟩ : ∃ w5, w5 = wr.iterAt gi t (j + 1) := ⟨_, rfl⟩
      rw [← hw5] at hnx HI2 K2 HO2 HB2
      clear hw5
      have lf := load_factB K2.out HX.out.ok.len
      have HX5 := Lib.hid (HX.out.below HB2.out)
      have IO := Lib.hid (itemOf_any x q c ch HC.out w5 HX5.out)
      have HY := Lib.hid (fun w' (hb : Below w5.heap.size w5 w') => hdrOf_good (HX5.out.below hb) ch)
      obtain ⟨y, hy⟩ : ∃ y, y = hdrOf x q c ch := ⟨_, rfl⟩
      rw [← hy] at IO HTK HY
      clear hy
      obtain ⟨yi, yq, yc⟩ := y
      have IO2 := Lib.hid (show Calls Tryz.prog 85 #[.agg (fcells x q c).toArray, .int .i32 ch] w5 (fun e w' => e = .returned (.agg (icells yi yq yc).toArray) ∧ Below w5.heap.size w5 w') from IO.out)
      clear IO
      go_wp2_with fail
      refine IO2.out.mono ?_
      rintro e w6 ⟨rfl, hb6⟩
      have HB6 := Lib.hid hb6
      have yok := (HY.out w6 hb6).ok
      have bi := build_item w6 (q := yq) (c := yc) yok
      have HYO := Lib.hid yok
      have K6 := Lib.hid ((K2.out.below hb6 K2.out.lt).old (.cells (icells yi yq yc).toArray 83))
      have HO6 := Lib.hid ((row_below_s HO2.out hb6).alloc (.cells (icells yi yq yc).toArray 83))
      have HB7 := Lib.hid ((HB2.out.trans (hb6.mono HB2.out.size)).alloc (HB2.out.trans (hb6.mono HB2.out.size)).size (.cells (icells yi yq yc).toArray 83))
      have HI6 := Lib.hid (show (w6.alloc (.cells (icells yi yq yc).toArray 83)).heap[gi]? = some (.stringIter t (j + 1)) from by
        have h1 : gi < w5.heap.size := (Array.getElem?_eq_some_iff.1 HI2.out).1
        rw [heap_alloc_old w6 _ (Nat.lt_of_lt_of_le h1 hb6.size), hb6.block gi h1]; exact HI2.out)
      have HA6 := Lib.hid (at_cells w6 (icells yi yq yc) 83 (0, 0))
      have HL6 := Lib.hid (icells_length yok yq yc)
      clear hb6 yok lf IO2 HI2 K2 HO2 HB2 HX5 HY
      go_wp2_with (at_builtin; refine wpList_app_s rfl (.tmp 18) (.tmp 22) 81 rfl w.heap.size 83 (size := 34) (by omega) Tryz.underlying81 item_all3 item_zsize v j _ rfl HO6.out (some ⟨w6.heap.size, 0, none⟩) 1 1 (icells yi yq yc) rfl HA6.out (by rw [HL6.out]) (fun h => by cases h) (Nat.le_refl _) (icells_one _ _ _) (by omega) (by unfold maxLen; omega) HB7.out.size ?_; intro v8' w8 hown8 hgr8 hat8)
      have HK8 := Lib.hid (show Blk w8 gf (fcells x q c) 28 from (hgr8.block gf K6.out.lt (fun e => by
        obtain ⟨cc, fz, hh⟩ := row_kind HO6.out gf e.symm
        have h2 := K6.out
        unfold Blk at h2
        rw [hh] at h2; cases h2)).trans K6.out)
      have HI8 := Lib.hid (show w8.heap[gi]? = some (.stringIter t (j + 1)) from (hgr8.block gi (Array.getElem?_eq_some_iff.1 HI6.out).1 (fun e => by
        obtain ⟨cc, fz, hh⟩ := row_kind HO6.out gi e.symm
        rw [HI6.out] at hh; cases hh)).trans HI6.out)
      have HB8 := Lib.hid (HB7.out.grown hgr8 HB7.out.size (fun k e => row_base HO6.out k e))
      have HO8 := Lib.hid (show w8.ownsRow w.heap.size 83 34 v8' (j + 1) (((l.take (j + 1)).map (hdrOf x q c)).flatMap cellsI) from by
        rw [HTK.out, List.flatMap_append, List.flatMap_singleton]; exact hown8)
      clear hown8 hgr8 hat8 K6 HI6 HB7 HO6 HA6 HL6 HTK
      go_wp2_with fail
      go_roundg (t.size - (j + 1))
      case measure => omega
      case rel => exact ⟨j + 1, _, rfl, by omega, rfl, HI8, HK8, HO8, HB8⟩
    · obtain rfl : j = t.size := by omega
      have hnx := fun ty => Lib.run_next_end_at (P := Tryz.prog) wr gi t t.size ty HI.out (by omega)
      have HTL := Lib.hid (show l.take t.size = l from List.take_of_length_le (by rw [HL.out]; exact Nat.le_refl _))
      obtain ⟨p, cp, rfl, hA, hT⟩ := rowOwn_told (ys := (l.take t.size).map (hdrOf x q c)) HO.out (by rw [List.length_map, HTL.out, HL.out]) (fun z hz => by
        obtain ⟨lt, _, rfl⟩ := List.mem_map.1 hz
        exact hdrOf_good (HX.out.below HB.out) lt)
      rw [HTL.out] at hA hT
      have HA := Lib.hid hA
      have HT := Lib.hid hT
      clear hA hT HO HI K
      go_wp2_with fail
      go_ret
      exact ⟨p, t.size, cp, rfl, by rw [List.length_map, HL.out], HA.out, HT.out, HB.out⟩
end
section
set_option linter.unusedSimpArgs false
set_option linter.unusedVariables false
open Go.RowKit Sha Fct
open Fld (Itm)
def bndL : List Int → List Itm → Bool
  | a :: s, y :: ys => inB a y && bndL s ys
  | _, _ => true
theorem bndL_at {l : List Int} {ys : List Itm} (j : Nat) (hj : j < l.length) (hy : j < ys.length) : bndL (l.drop j) (ys.drop j) = (inB l[j] ys[j] && bndL (l.drop (j + 1)) (ys.drop (j + 1))) := by
  rw [List.drop_eq_getElem_cons hj, List.drop_eq_getElem_cons hy]; rfl
attribute [local go_sem ↓] execOp_boxForm execOp_loadItem
set_option maxRecDepth 100000 in
set_option maxHeartbeats 2000000 in
theorem pbounded_any (k : Int) (ys : List Itm) (p : Option Addr) (n cp : Nat) (w : World) (h : Told w p n cp ys) (hn : n = (hasL k).length) :
    Calls Tryz.prog 77 #[form k, .slice p n cp] w fun e w' => e = .returned (.bool (bndL (hasL k) ys)) ∧ Below w.heap.size w w' := by
  have hsz := kHas_size k
  have hnm := kHas_nums k
  have HIS := Lib.hid (hasL_is k)
  have H128 := Lib.hid (hasL_128 k)
  show Calls Tryz.prog 77 #[.agg #[.string (kSh k), .string (kHas k)], .slice p n cp] w _
  generalize kSh k = s at *
  generalize kHas k = t at *
  generalize hasL k = l at *
  have HL := Lib.hid (show l.length = t.size by rw [← hnm, nums_length])
  obtain rfl : n = t.size := by rw [hn, HL.out]
  have HNM := Lib.hid hnm
  have HYL := Lib.hid (show ys.length = t.size from h.len.symm)
  clear hnm hn
  have bx1 := run_boxOp (P := Tryz.prog) (t := 79) (cs := #[.string s, .string t]) w
  have hb1 := (Below.refl w.heap.size w).alloc (Nat.le_refl _) (.cells #[.string s, .string t] 79)
  have hk1 : Blk (w.alloc (.cells #[.string s, .string t] 79)) w.heap.size [.string s, .string t] 79 := Blk.new w #[.string s, .string t] 79
  obtain ⟨w1, hw1⟩ : ∃ v, v = w.alloc (.cells #[.string s, .string t] 79) := ⟨_, rfl⟩
  rw [← hw1] at bx1 hb1 hk1
  have c1 : w1.cell? ⟨w.heap.size, 1, none⟩ = some (.string t) := hk1.cell 1
  have HB1 := Lib.hid hb1
  have HT := Lib.hid h
  clear hw1 hk1 hb1 h
  go_enter Tryz.func77, Tryz.ntmps77
  go_wp2_with fail
  have HI0 := Lib.hid (World.iter_heap w1 t 0)
  have hal : (w1.iter t 0) = w1.alloc (.stringIter t 0) := rfl
  have HB2 := Lib.hid (show Below w.heap.size w (w1.iter t 0) from by rw [hal]; exact HB1.out.alloc HB1.out.size _)
  obtain ⟨gi, hgi⟩ : ∃ gi, gi = w1.heap.size := ⟨_, rfl⟩
  rw [← hgi] at HI0 ⊢
  have HG := Lib.hid (show w.heap.size ≤ gi by rw [hgi]; exact HB1.out.size)
  have HA0 := Lib.hid (show bndL l ys = bndL (l.drop 0) (ys.drop 0) from rfl)
  clear hal hgi HB1
  generalize w1.iter t 0 = w2 at *
  go_loopg [5] t.size (fun gh vv wr => ∃ (j : Nat) (v : Value), v = vv ∧ j ≤ t.size ∧ gh = t.size - j ∧ Hid (wr.heap[gi]? = some (.stringIter t j)) ∧ Hid (bndL l ys = bndL (l.drop j) (ys.drop j)) ∧ Hid (Below w.heap.size w wr))
  case atStart => exact ⟨0, _, rfl, by omega, rfl, HI0, HA0, HB2⟩
  case round =>
    obtain ⟨j, v, rfl, hj, rfl, HI, HA, HB⟩ := hrel
    clear HI0 HA0 HB2
    by_cases hp : j < t.size
    · obtain ⟨ch, hn, hch⟩ := has_next t l HNM.out j hp H128.out
      have hnx := fun ty => hn.run wr gi ty HI.out
      have HC := Lib.hid (HIS.out ch (List.mem_of_getElem? hch))
      have hjy : j < ys.length := by rw [HYL.out]; exact hp
      have hjl : j < l.length := by rw [HL.out]; exact hp
      obtain ⟨b, off, rfl, hit⟩ := items_at HT.out (by rw [HYL.out]; omega)
      obtain ⟨q, d, hI⟩ := hit j hjy
      have HST := Lib.hid (show bndL l ys = (inB ch ys[j] && bndL (l.drop (j + 1)) (ys.drop (j + 1))) from by
        rw [HA.out, bndL_at j hjl hjy]
        have : l[j] = ch := Option.some.inj ((List.getElem?_eq_getElem hjl).symm.trans hch)
        rw [this])
      have HI2 := Lib.hid (Lib.iterAt_heap _ _ _ _ (j + 1) HI.out)
      have HB2 := Lib.hid (show Below w.heap.size w (wr.iterAt gi t (j + 1)) from Lib.below_iterAt HB.out HG.out t (j + 1))
      clear hn hch HI HB HA hit
      obtain ⟨w5, hw5⟩ : ∃ w5, w5 = wr.iterAt gi t (j + 1) := ⟨_, rfl⟩
      rw [← hw5] at hnx HI2 HB2
      clear hw5
      have ld : (loadOp 83 (.pointer (some ⟨b, off + j * 34, none⟩))).run Tryz.prog w5 = .ok (.value (.agg (icells ys[j] q d).toArray)) w5 := load_at (hI.on HB2.out).g.ok (hI.on HB2.out).r
      generalize hyj : ys[j] = y at *
      have WI := Lib.hid (within_any ch HC.out y q d w5)
      have hjn : (0 : Int) ≤ (j : Int) ∧ (j : Int) < (t.size : Int) := by omega
      have HTR := Lib.hid (HT.out.le)
      clear hyj hI
      cases hin : inB ch y with
      | true =>
        rw [hin] at WI HST
        have HS2 := Lib.hid (show bndL l ys = bndL (l.drop (j + 1)) (ys.drop (j + 1)) from by rw [HST.out]; rfl)
        clear hin HST hjy hjl
        go_wp2_with fail
        refine WI.out.mono ?_
        rintro e w6 ⟨rfl, hb6⟩
        have HI6 := Lib.hid ((hb6.block gi (Array.getElem?_eq_some_iff.1 HI2.out).1).trans HI2.out)
        have HB6 := Lib.hid (HB2.out.trans (hb6.mono HB2.out.size))
        clear hb6
        go_wp2_with fail
        go_roundg (t.size - (j + 1))
        case measure => omega
        case rel => exact ⟨j + 1, _, rfl, by omega, rfl, HI6, HS2, HB6⟩
      | false =>
        rw [hin] at WI HST
        have HS2 := Lib.hid (show bndL l ys = false from by rw [HST.out]; rfl)
        clear hin HST hjy hjl
        go_wp2_with fail
        refine WI.out.mono ?_
        rintro e w6 ⟨rfl, hb6⟩
        have HB6 := Lib.hid (HB2.out.trans (hb6.mono HB2.out.size))
        clear hb6
        go_wp2_with fail
        try rw [Exit.noGoto_ret]
        go_ret
        exact ⟨by rw [HS2.out]; rfl, HB6.out⟩
    · obtain rfl : j = t.size := by omega
      have hnx := fun ty => Lib.run_next_end_at (P := Tryz.prog) wr gi t t.size ty HI.out (by omega)
      have HS2 := Lib.hid (show bndL l ys = true from by
        rw [HA.out, List.drop_eq_nil_of_le (by rw [HL.out]; exact Nat.le_refl _)]; rfl)
      go_wp2_with fail
      go_ret
      exact ⟨by rw [HS2.out]; rfl, HB.out⟩
end
end Go.Proofs.YtokpabkcaofahaaGreat
