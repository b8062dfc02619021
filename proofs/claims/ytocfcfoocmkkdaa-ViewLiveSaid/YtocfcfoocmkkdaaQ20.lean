/-
  slices.Collect over the program's iterator: what is new of a view, in a row of the call's own.
  The program's heard: a word merged into a view whose memory is the call's own.
  The program's Get, over what its Check tells.
  The program's Check: a range over words, each held in a variable of its own, and the last one's node.
  slices.Clone at words.
-/
import Derived.Test.YtocfcfoocmkkdaaQ18
import Derived.Test.YtocfcfoocmkkdaaQ19
import Derived.Test.YtocfcfoocmkkdaaQ17
import Derived.Test.YtocfcfoocmkkdaaQ9
import Derived.Test.YtocfcfoocmkkdaaQ7
import Derived.Test.YtocfcfoocmkkdaaQ4
namespace Go.Proofs.Ytocfcfoocmkkdaa
section
set_option linter.unusedSimpArgs false
set_option linter.unusedVariables false
open Go.RowKit Go.Shelf Sha
attribute [local go_sem] Oper.semAt_some
/-- The row so far in its variable. -/
def GathM (B : Nat) (fs : List Mb) (k : Nat) (W : World) : Prop := ∃ v, Boxed W B 22 v ∧ W.ownsRow B mt 3 v k ((fs.take k).flatMap mc)
theorem gathM_own (B : Nat) (fs : List Mb) : Own (fun (k : Nat) W => GathM B fs k W) := by
  rintro s X Y row ⟨v, h1, h2⟩ hg hr
  refine ⟨v, h1.kept hg (fun e => ?_), h2.kept hg ?_⟩
  · obtain ⟨o, ho, hc⟩ := hr B e.symm
    rw [show X.heap[B]? = _ from h1] at ho; cases ho; cases hc
  · rcases h2.2 with ⟨rfl, _⟩ | ⟨g, cap, cur, rfl, _, hgb, _⟩
    · exact .inl rfl
    · refine .inr fun e => ?_
      obtain ⟨o, ho, hc⟩ := hr g (by rw [← e]; rfl)
      rw [hgb] at ho; cases ho; cases hc
theorem blk_fromM {β : Type} (B g : Nat) (t : TypeId) (cs : List Value) : OwnFrom B (fun (_ : β) W => Blk W g cs t) := fun s X Y row hs hg hr => by
  refine (hg.block g hs.lt fun e => ?_).trans hs
  obtain ⟨_, o, ho, hc⟩ := hr g e.symm
  rw [show X.heap[g]? = _ from hs] at ho; cases ho; cases hc
theorem NdM.below {l now : List Mb} {n m c d k k' : Nat} {q p : Option Addr} {Bi Bw : Nat} {w W : World} (h : NdM l now n m c d q p Bi Bw k w) (hb : Below w.heap.size w W) : NdM l now n m c d q p Bi Bw k' W :=
  ⟨(hb.cell (World.block_lt_of_cell? w _ h.1)).trans h.1, (hb.cell (World.block_lt_of_cell? w _ h.2.1)).trans h.2.1, h.2.2.1.below hb, h.2.2.2.below hb⟩
section
attribute [local go_sem ↓] execOp_loadM execOp_storeM execOp_eqlM execOp_neqM execOp_buildM
set_option maxRecDepth 100000 in
set_option maxHeartbeats 4000000 in
theorem appseq_any (l now : List Mb) (n m c d : Nat) (q p : Option Addr) (Bi Bw : Nat) (hlo : Vw.Ok l) (hno : Vw.Ok now) (hn : l.length = n) (hm : now.length = m) (hsn : n ≤ 1000) (hsm : m ≤ 2000) (w : World) (hnd : NdM l now n m c d q p Bi Bw 0 w) :
    Calls Try.prog 50 #[.slice none 0 0, .func (.func 51) #[] #[.pointer (some ⟨Bi, 0, none⟩), .pointer (some ⟨Bw, 0, none⟩)]] w fun e w' =>
      ∃ v, e = .returned v ∧ w'.ownsRow w.heap.size mt 3 v (Vw.fresh l now).length ((Vw.fresh l now).flatMap mc) ∧ Below w.heap.size w w' := by
  have hfl : (Vw.fresh l now).length ≤ 2000 := by unfold Vw.fresh; exact Nat.le_trans (List.length_filter_le _ _) (by omega)
  have HSQ := Lib.hid (fun (w1 : World) => news_says 4 (by omega) l now n m c d q p Bi Bw hlo hno hn hm hsn hsm w1)
  have HND := Lib.hid hnd
  generalize Vw.fresh l now = fs at *
  clear hlo hno hn hm hnd hsn hsm
  refine (callsIn_wide (n := 5)).1 ?_
  refine callsIn_of_wp_marks Try.func50 rfl trivial ?_ rfl
  simp only [Try.ntmps50, List.size_toArray, List.length_cons, List.length_nil, Nat.reduceAdd, Nat.reduceSub, Array.replicate_succ, Array.replicate_zero, List.push_toArray, List.append_toArray, List.nil_append, List.cons_append]
  gi_wp2
  have bO := Boxed.new w 22 (.slice none 0 0)
  have hB0 := (Below.refl w.heap.size w).alloc (Nat.le_refl _) (.cells #[.slice none 0 0] 22)
  obtain ⟨w1, hw1⟩ : ∃ x, x = w.alloc (.cells #[.slice none 0 0] 22) := ⟨_, rfl⟩
  have hs1 : w1.heap.size = w.heap.size + 1 := by rw [hw1, World.size_alloc]
  rw [← hw1] at bO hB0 ⊢
  clear hw1
  refine wpIn_range_says rfl (by omega) (gf := 51) (lb := #[.pointer (some ⟨Bi, 0, none⟩), .pointer (some ⟨Bw, 0, none⟩)]) rfl trivial (enters_of Try.func51 (by kernel_rfl) rfl)
    (HSQ.out w1) (Below.refl _ _) (fun _ => rfl)
    (fun k W => GathM w.heap.size fs k W ∧ Below w.heap.size w W)
    (fun _ _ _ => False)
    (OwnFrom.and (Own.from (gathM_own w.heap.size fs) _) (ownFrom_below (Nat.le_refl _) (by omega)))
    (fun _ _ _ _ _ hs _ _ => hs)
    (fun k W h => HND.out.below h.2)
    ⟨⟨_, bO, World.ownsRow_nil _ _ _ _⟩, hB0⟩
    (fun k a' W => ∃ gf, w1.heap.size ≤ gf ∧ Blk W gf (mc (fs.getD k Mb.none)) mt ∧ a' = { tmps := #[.slice none 0 0, .func (.func 51) #[] #[.pointer (some ⟨Bi, 0, none⟩), .pointer (some ⟨Bw, 0, none⟩)], .pointer (some ⟨w.heap.size, 0, none⟩), undef, .slice none 0 0, .pointer (some ⟨gf, 0, none⟩), .func (.func 51) #[] #[.pointer (some ⟨Bi, 0, none⟩), .pointer (some ⟨Bw, 0, none⟩)], mv (fs.getD k Mb.none), undef, undef, undef, undef, undef], defers := [] })
    (fun k a' => fun u W W' row ⟨gf, h1, h2, h3⟩ hg hr => ⟨gf, h1, blk_fromM (β := Unit) w1.heap.size gf _ _ u W W' row h2 hg hr, h3⟩)
    ?assign ?body ?done ?stop
  case assign =>
    intro lp k W K hI hK
    have hsz : w1.heap.size ≤ W.heap.size := by have := hI.1; obtain ⟨v, h1, _⟩ := this; have := h1.lt; omega
    have s9 := put_run W (fs.getD k Mb.none)
    have P9 := Lib.hid (Put.new W (fs.getD k Mb.none))
    have HI := Lib.hid (show GathM w.heap.size fs k (putM W (fs.getD k Mb.none)) ∧ Below w.heap.size w (putM W (fs.getD k Mb.none)) from ⟨gathM_own w.heap.size fs k _ _ none hI.1 (grownBy_below (put_below W _)) (fun r e => by cases e), below_next hI.2 (put_below W _)⟩)
    have HKP := Lib.hid ((keepsOthers_below (put_below W (fs.getD k Mb.none))).from w1.heap.size)
    generalize putM W (fs.getD k Mb.none) = W2 at *
    unfold tellM
    generalize fs.getD k Mb.none = x at *
    clear hI
    gi_wp2
    exact hK _ _ HKP.out HI.out ⟨W.heap.size, hsz, P9.out.blk, rfl⟩
  case body =>
    rintro lp k a' W hl hrec hk ⟨⟨v, bv, ho⟩, hB⟩ ⟨gf, hgf, kf, rfl⟩
    have cv := bv.cell
    have lf := run_loadM (rangeM_of kf)
    have hfk : fs.take (k + 1) = fs.take k ++ [fs.getD k Mb.none] := by rw [List.take_succ_eq_append_getElem hk, List.getD_eq_getElem?_getD, List.getElem?_eq_getElem hk]; rfl
    have HFK := Lib.hid hfk
    generalize fs.getD k Mb.none = x at *
    have c8 := run_buildM1 W x
    have HO := Lib.hid ho
    have HB := Lib.hid hB
    have HBV := Lib.hid bv
    have hsz : w.heap.size ≤ W.heap.size := hB.size
    have HOA := Lib.hid (own_on_w ho ((Below.refl W.heap.size W).alloc (Nat.le_refl _) (.cells (mc x).toArray mt)))
    have HCX := Lib.hid (fun j u (h : (mc x)[j]? = some u) => show (W.alloc (.cells (mc x).toArray mt)).cell? ((⟨W.heap.size, 0, none⟩ : Addr).add j) = some u from by have h2 := rangeM_of (m := x) (Blk.new W (mc x).toArray mt) j u h; rw [Nat.zero_add] at h2; have e : (⟨W.heap.size, 0, none⟩ : Addr).add j = ⟨W.heap.size, j, none⟩ := (by cases j <;> simp [Addr.add]); rw [e]; exact h2)
    clear hfk ho hB bv kf hrec
    gi_wp2_with (refine wpListIn_append_own _ rfl _ _ 22 rfl w.heap.size mt _ _ 3 24 Try.underlying22 rfl rfl rfl rfl rfl (by omega) v k _ rfl HOA.out ⟨W.heap.size, 0, none⟩ 1 1 (mc x) rfl rfl HCX.out (by intro u hu; simp at hu; rcases hu with rfl | rfl | rfl <;> rfl) (by unfold maxLen; omega) (by omega) (by simp; omega) ?_; intro v8 w8 hown8 hg8 _; (have hap := HBV.out.appended (by decide) HO.out hsz (Nat.le_refl _) hown8 hg8); (obtain ⟨q8, d8, hv8, _⟩ := own_at_s hown8); subst hv8; (have HAP := Lib.hid hap); (have f1 := hap.1.cell); (have f2 := hap.1.frozen); clear hap hown8 hg8)
    obtain ⟨g1, g2, g3, g4, g5⟩ := HAP.out
    refine ⟨g4.from _, ⟨_, g2, ?_⟩, HB.out.trans (g5.mono (Nat.le_refl _))⟩
    rw [HFK.out, List.flatMap_append, List.flatMap_cons, List.flatMap_nil, List.append_nil]
    exact g3
  case done =>
    rintro D W hD ⟨⟨v, bv, ho⟩, hB⟩ hdf
    have c0 := bv.cell
    have HO := Lib.hid ho
    clear ho
    gi_wp2
    refine ⟨by simp, .inl ⟨_, _, rfl, run_takeDeferred hdf, ?_⟩⟩
    refine ⟨_, results_tmp rfl _ _ _, ?_⟩
    have hg := grownBy_putObj' W D (.deferred none)
    have hr : ∀ r, some D = some r → ∃ o : Obj, W.heap[r]? = some o ∧ o.isCells = false := fun r e => by cases e; exact ⟨_, hdf, rfl⟩
    obtain ⟨v2, h2, h3⟩ := gathM_own w.heap.size fs _ _ _ _ ⟨v, bv, HO.out⟩ hg hr
    have e2 : v2 = v := by
      have e3 := h2.cell
      have e4 := (bv.kept hg (fun e => by obtain ⟨o, ho, hc⟩ := hr w.heap.size e.symm; rw [show W.heap[w.heap.size]? = _ from bv] at ho; cases ho; cases hc)).cell
      rw [e3] at e4; exact Option.some.inj e4
    subst e2
    refine ⟨v2, rfl, by rw [List.take_length] at h3; exact h3, hB.trans (belowK_b (w := w) (Nat.le_refl _) W D _ _ (by omega) hdf rfl rfl)⟩
  case stop =>
    rintro D c' k W hD hk h hdf
    exact h.elim
end
end
section
set_option linter.unusedSimpArgs false
set_option linter.unusedVariables false
open Go.RowKit Sha
section
attribute [local go_sem ↓] execOp_loadM execOp_storeM execOp_eqlM execOp_neqM execOp_buildM
set_option maxRecDepth 100000 in
set_option maxHeartbeats 8000000 in
theorem heard_any (L : List Mb) (cnt c1 B : Nat) (q1 : Option Addr) (x : Mb) (w : World) (hT : Vw.Ok L) (hxo : x.ok) (hxm : x.May) (hn : L.length = cnt) (ho : w.ownsRow B mt 3 (.slice q1 cnt c1) cnt (L.flatMap mc)) (hB : B ≤ w.heap.size) (hs : cnt ≤ 1000) :
    Calls Try.prog 32 #[.slice q1 cnt c1, mv x] w fun e w' => ∃ v, e = .returned v ∧ w'.ownsRow B mt 3 v (Vw.ins L x).length ((Vw.ins L x).flatMap mc) ∧ Below B w w' := by
  obtain ⟨q2, c2, hq, hg⟩ := own_good ho (fun x hx => (hT.1 x hx).ok)
  cases hq
  have HLN := Lib.hid hn
  have HT := Lib.hid hT
  have a1 := hg.le
  have a2 := hg.max
  rw [hn] at a1
  have HB0 := Lib.hid (show Below B w (w.alloc (.cells #[.int .i64 x.I, .int .i64 x.S, .int .i64 x.N] mt)) from (Below.refl _ _).alloc hB _)
  have B0 := Lib.hid (show Below w.heap.size w (w.alloc (.cells #[.int .i64 x.I, .int .i64 x.S, .int .i64 x.N] mt)) from (Below.refl _ _).alloc (Nat.le_refl _) _)
  have K0 := Lib.hid (show Blk (w.alloc (.cells #[.int .i64 x.I, .int .i64 x.S, .int .i64 x.N] mt)) w.heap.size (mc x) mt from Blk.new w (mc x).toArray mt)
  have HO0 := Lib.hid (own_on_w ho B0.out)
  have HG0 := Lib.hid (hg.below B0.out)
  have HBS := Lib.hid hB
  have cI : (w.alloc (.cells #[.int .i64 x.I, .int .i64 x.S, .int .i64 x.N] mt)).cell? ⟨w.heap.size, 0, none⟩ = _ := rangeM_I (rangeM_of K0.out)
  have HSR := Lib.hid (find_any L cnt q1 c1 x.I (w.alloc (.cells #[.int .i64 x.I, .int .i64 x.S, .int .i64 x.N] mt)) hn HG0.out (by omega) hT.2 hxo.i)
  have hat := Vw.has_at hT.2 x.I
  clear hg ho
  cases hf : Vw.has L x.I with
  | true =>
    rw [hf] at HSR hat
    obtain ⟨hi, he⟩ := hat.1 rfl
    have HINS := Lib.hid (Vw.ins_old hT.2 hi he)
    have hym := hT.1 _ (List.getElem_mem hi)
    have hpn : Vw.pos L x.I < cnt := by rw [← hn]; exact hi
    have hbe : L[Vw.pos L x.I].berr x = 0 := if_pos ⟨hym, hxm, he⟩
    clear hf hat he
    generalize Vw.pos L x.I = ps at *
    obtain ⟨g, hq1, hgB, _, _⟩ := own_setM HO0.out ps hi x
    subst hq1
    obtain ⟨bb, oo, hq2, hry⟩ := HG0.out.get ps hi
    cases hq2
    rw [Nat.zero_add] at hry
    have HRY := Lib.hid hry
    have HMG := Lib.hid (fun w' => merge_at L[ps] x (L[ps].merge x) 0 w' rfl hbe)
    have jp : (0 : Int) ≤ (ps : Int) ∧ (ps : Int) < (cnt : Int) := by omega
    have HSG := Lib.hid (fun (w' : World) (h : w'.ownsRow B mt 3 (.slice (some ⟨g, 0, none⟩) cnt c1) cnt (L.flatMap mc)) => own_setM h ps hi (L[ps].merge x))
    generalize L[ps].merge x = z at *
    generalize L[ps] = y at *
    clear hry hym hT hxm hB hn hbe hi
    go_enter Try.func32, Try.ntmps32
    go_wp2_with fail
    refine HSR.out.mono ?_
    generalize w.alloc (.cells #[.int .i64 x.I, .int .i64 x.S, .int .i64 x.N] mt) = w0 at *
    obtain ⟨gx, hgx⟩ : ∃ g, g = w.heap.size := ⟨_, rfl⟩
    rw [← hgx] at K0 ⊢
    rintro e w8 ⟨rfl, hb8⟩
    have K8 := Lib.hid (K0.out.upon hb8)
    have HO8 := Lib.hid (own_on_w HO0.out hb8)
    have HB8 := Lib.hid (HB0.out.trans (hb8.mono (Nat.le_trans HBS.out B0.out.size)))
    have m1 : (loadM mt (.pointer (some ⟨g, ps * 3, none⟩))).run Try.prog w8.drew = _ := run_loadM (rangeM_on HRY.out hb8.drew)
    have m2 : (loadM mt (.pointer (some ⟨gx, 0, none⟩))).run Try.prog w8.drew = _ := run_loadM (rangeM_of (K0.out.upon hb8.drew))
    have HSET := Lib.hid (fun w' (hb : Below w8.heap.size w8 w') => HSG.out w' (own_on_w HO8.out hb))
    clear hb8 HSR HRY cI HO0 HG0 hgx
    go_wp2_with fail
    go_region_law ((go_simp; go_at_call 49; refine (HMG.out _).mono ?_; rintro e w9 ⟨rfl, hb9⟩; (have HB9 := Lib.hid (show Below w8.heap.size w8 w9 from (Below.refl _ w8).drew.trans hb9)); clear hb9; (obtain ⟨g', hg', _, st, own'⟩ := HSET.out w9 HB9.out); cases hg'; (have OWN := Lib.hid own'); clear own'))
    all_goals (
      have HBE := Lib.hid (setCells_below hgB (mc z) (ps * 3) w9 (HB8.out.trans (HB9.out.mono (Nat.le_trans HBS.out HB8.out.size))))
      generalize w9.setCells g (ps * 3) (mc z) = w10 at *
      clear m1 m2 HSET st HB9
      go_wp2_with fail
      go_ret
      exact ⟨_, rfl, by rw [HINS.out, List.length_set, HLN.out]; exact OWN.out, HBE.out⟩)
  | false =>
    rw [hf] at HSR
    have HINS := Lib.hid (Vw.ins_new hT.2 hf)
    have hps := Vw.pos_le L x.I
    rw [hn] at hps
    clear hat hf
    generalize Vw.pos L x.I = ps at *
    clear hT hxm hB hn
    go_enter Try.func32, Try.ntmps32
    go_wp2_with fail
    refine HSR.out.mono ?_
    generalize w.alloc (.cells #[.int .i64 x.I, .int .i64 x.S, .int .i64 x.N] mt) = w0 at *
    obtain ⟨gx, hgx⟩ : ∃ g, g = w.heap.size := ⟨_, rfl⟩
    rw [← hgx] at K0 ⊢
    rintro e w8 ⟨rfl, hb8⟩
    have m2 : (loadM mt (.pointer (some ⟨gx, 0, none⟩))).run Try.prog w8 = _ := run_loadM (rangeM_of (K0.out.upon hb8))
    have HO8 := Lib.hid (own_on_w HO0.out hb8)
    have hB8 := Nat.le_trans HBS.out B0.out.size
    have HB8 := Lib.hid (HB0.out.trans (hb8.mono hB8))
    have c8 := run_buildM1 w8 x
    have BA := Lib.hid (show Below w8.heap.size w8 (w8.alloc (.cells (mc x).toArray mt)) from (Below.refl _ _).alloc (Nat.le_refl _) _)
    have hs8 : B ≤ w8.heap.size := Nat.le_trans hB8 hb8.size
    have HIN := Lib.hid (ins_M (w8.alloc (.cells (mc x).toArray mt)) B (.slice q1 cnt c1) cnt (L.flatMap mc) (own_on_w HO8.out BA.out) (wflat_one L) ps hps w8.heap.size (mc x) rfl (by intro u hu; simp at hu; rcases hu with rfl | rfl | rfl <;> rfl) (Blk.new w8 (mc x).toArray mt) (fun h => by have := (own_base_w HO8.out _ h).2; omega) (by omega) (Nat.le_trans hs8 BA.out.size))
    rw [wflat_split L ps x (by rw [HLN.out]; exact hps)] at HIN
    have HB9 := Lib.hid (HB8.out.trans (BA.out.mono hs8))
    have HOB := Lib.hid (fun g h => (own_base_w HO8.out g h).1)
    have hs9 := Nat.le_trans hs8 BA.out.size
    have HS9 := Lib.hid hs9
    generalize w8.alloc (.cells (mc x).toArray mt) = w9 at *
    clear HSR cI HO0 HG0 hb8 hs9 hs8 hB8 hgx
    go_wp2_with fail
    refine HIN.out.mono ?_
    rintro e w10 ⟨v2, rfl, ho2, hgr, _⟩
    have HB10 := Lib.hid (grown_below HB9.out hgr HOB.out HS9.out)
    have HO10 := Lib.hid ho2
    clear ho2 hgr c8 m2
    go_wp2_with fail
    go_ret
    refine ⟨_, rfl, ?_, HB10.out⟩
    rw [HINS.out, List.length_append, List.length_cons, List.length_take, List.length_drop, HLN.out, show min ps cnt + (cnt - ps + 1) = cnt + 1 by omega]
    exact HO10.out
end
end
section
set_option linter.unusedSimpArgs false
set_option linter.unusedVariables false
open Go.RowKit Sha
def CheckOK : Prop := ∀ (l : List Mb) (n : Nat) (q : Option Addr) (c : Nat) (w : World), l.length = n → GoodW w l q c → n ≤ 400 → Calls Try.prog 20 #[.slice q n c] w (ErrDone (Vw.err l) w)
section
attribute [local go_sem ↓] execOp_loadM execOp_storeM execOp_eqlM execOp_neqM execOp_buildM
theorem Put.st {w0 w : World} {x : Mb} (h : Put w0 x w) (y : Mb) : (storeM mt (.pointer (some ⟨w0.heap.size, 0, none⟩)) (mv y)).run Try.prog w = .ok .skip (w.setRow w0.heap.size (mc y).toArray) := run_storeM h.blk
theorem Put.set {w0 w : World} {x : Mb} (h : Put w0 x w) (y : Mb) : Put w0 y (w.setRow w0.heap.size (mc y).toArray) := ⟨h.blk.row (mc y), Below.setRow h.below (Nat.le_refl _) _⟩
theorem Put.zero (w : World) : Put w Mb.none (w.alloc (.cells #[.int .i64 0, .int .i64 0, .int .i64 0] mt)) := ⟨put_new w, (Below.refl _ _).alloc (Nat.le_refl _) _⟩
set_option maxRecDepth 100000 in
set_option maxHeartbeats 4000000 in
theorem vget_any (V : CheckOK) (l : List Mb) (n : Nat) (q : Option Addr) (c : Nat) (nd : Int) (w : World) (hn : l.length = n) (hl : GoodW w l q c) (hs : n ≤ 400) (hnd : -9223372036854775808 ≤ nd ∧ nd ≤ 9223372036854775807) :
    Calls Try.prog 13 #[.slice q n c, .int .i64 nd] w (GetDone (Vw.get l nd) w) := by
  have P0 := Lib.hid (Put.zero w)
  have HCK := Lib.hid (fun w' hb => V l n q c w' hn (hl.below hb) hs)
  have b1 := hl.le
  have b2 := hl.max
  rw [hn] at b1
  by_cases hok : Vw.Ok l
  · rw [show Vw.err l = 0 from if_pos hok] at HCK
    have HSR := Lib.hid (fun w' hb => find_any l n q c nd w' hn (hl.below hb) (by omega) hok.2 hnd)
    have hat := Vw.has_at hok.2 nd
    cases hf : Vw.has l nd with
    | true =>
      rw [hf] at HSR hat
      obtain ⟨hi, he⟩ := hat.1 rfl
      have HG := Lib.hid (show Vw.get l nd = (l[Vw.pos l nd], 0) from by unfold Vw.get; rw [if_pos hok, Vw.word_at hok.2 hi he])
      obtain ⟨b, off, hqq, hr⟩ := hl.get _ hi
      subst hqq
      have HR := Lib.hid hr
      have hpn : Vw.pos l nd < n := by rw [← hn]; exact hi
      generalize l[Vw.pos l nd] = y at *
      generalize Vw.pos l nd = pl at *
      have jn : (0 : Int) ≤ (pl : Int) ∧ (pl : Int) < (n : Int) := by omega
      clear hn hl hok hi he hat hf hr
      go_enter Try.func13, Try.ntmps13
      go_wp2_with fail
      refine (HCK.out _ P0.out.below).mono ?_
      rintro e w1 ⟨rfl, hb1⟩
      have P1 := Lib.hid (P0.out.on hb1)
      clear hb1
      go_wp2_with fail
      refine (HSR.out _ P1.out.below).mono ?_
      rintro e w2 ⟨rfl, hb2⟩
      have P2 := Lib.hid (P1.out.on hb2)
      have l1 := run_loadM (rangeM_on HR.out P2.out.below)
      have s1 := P2.out.st y
      have P3 := Lib.hid (P2.out.set y)
      generalize w2.setRow w.heap.size (mc y).toArray = w3 at *
      clear hb2
      go_wp2_with fail
      exact bodyPost_ret (results_m1 rfl _ _ _ y (.int .i64 0) rfl rfl P3.out.blk) rfl ⟨by rw [HG.out], P3.out.below⟩
    | false =>
      rw [hf] at HSR
      have HG := Lib.hid (show Vw.get l nd = (Mb.none, 6) from by
        unfold Vw.get; rw [if_pos hok]
        unfold Vw.has at hf
        cases hw : Vw.word l nd with
        | none => rfl
        | some x => rw [hw] at hf; cases hf)
      generalize Vw.pos l nd = pl at *
      clear hn hl hok hat hf
      go_enter Try.func13, Try.ntmps13
      go_wp2_with fail
      refine (HCK.out _ P0.out.below).mono ?_
      rintro e w1 ⟨rfl, hb1⟩
      have P1 := Lib.hid (P0.out.on hb1)
      clear hb1
      go_wp2_with fail
      refine (HSR.out _ P1.out.below).mono ?_
      rintro e w2 ⟨rfl, hb2⟩
      have P2 := Lib.hid (P1.out.on hb2)
      have s1 : (storeM mt (.pointer (some ⟨w.heap.size, 0, none⟩)) (.agg #[.int .i64 0, .int .i64 0, .int .i64 0])).run Try.prog w2 = _ := P2.out.st Mb.none
      have P3 := Lib.hid (P2.out.set Mb.none)
      generalize w2.setRow w.heap.size (mc Mb.none).toArray = w3 at *
      clear hb2
      go_wp2_with fail
      exact bodyPost_ret (results_m1 rfl _ _ _ Mb.none (.int .i64 6) rfl rfl P3.out.blk) rfl ⟨by rw [HG.out], P3.out.below⟩
  · rw [show Vw.err l = 2 from if_neg hok] at HCK
    have HG := Lib.hid (show Vw.get l nd = (Mb.none, 2) from by unfold Vw.get; rw [if_neg hok])
    clear hn hl hok
    go_enter Try.func13, Try.ntmps13
    go_wp2_with fail
    refine (HCK.out _ P0.out.below).mono ?_
    rintro e w1 ⟨rfl, hb1⟩
    have P2 := Lib.hid (P0.out.on hb1)
    have s1 : (storeM mt (.pointer (some ⟨w.heap.size, 0, none⟩)) (.agg #[.int .i64 0, .int .i64 0, .int .i64 0])).run Try.prog w1 = _ := P2.out.st Mb.none
    have P3 := Lib.hid (P2.out.set Mb.none)
    generalize w1.setRow w.heap.size (mc Mb.none).toArray = w3 at *
    clear hb1
    go_wp2_with fail
    exact bodyPost_ret (results_m1 rfl _ _ _ Mb.none (.int .i64 2) rfl rfl P3.out.blk) rfl ⟨by rw [HG.out], P3.out.below⟩
end
end
section
set_option linter.unusedSimpArgs false
set_option linter.unusedVariables false
open Go.RowKit Sha
namespace Vw
/-- The node of the last word. -/
def top (l : List Mb) : Int := (l.getLast?.map (fun x => x.I)).getD 0
theorem top_step (l : List Mb) (k : Nat) (hk : k < l.length) : top (l.take (k + 1)) = l[k].I := by
  unfold top; rw [List.take_succ_eq_append_getElem hk, List.getLast?_append]; rfl
theorem top_ok (l : List Mb) (k : Nat) (hk : k < l.length) : Ok (l.take (k + 1)) ↔ Ok (l.take k) ∧ l[k].May ∧ top (l.take k) < l[k].I := by
  rw [take_ok l k hk]
  cases k with
  | zero =>
    have e : top (l.take 0) = 0 := by simp [top]
    rw [e]
    exact ⟨fun h => ⟨h.1, h.2.1, by have := h.2.1.1.1; omega⟩, fun h => ⟨h.1, h.2.1, fun h0 => absurd h0 (by omega)⟩⟩
  | succ k =>
    rw [top_step l k (by omega)]
    exact ⟨fun h => ⟨h.1, h.2.1, h.2.2 (by omega)⟩, fun h => ⟨h.1, h.2.1, fun _ => h.2.2⟩⟩
theorem top_bd (l : List Mb) (h : ∀ x ∈ l, x.ok) : -9223372036854775808 ≤ top l ∧ top l ≤ 9223372036854775807 := by
  unfold top
  cases e : l.getLast? with
  | none => simp
  | some x => exact (h x (List.mem_of_getLast? e)).i
end Vw
section
attribute [local go_sem ↓] execOp_loadM execOp_storeM execOp_eqlM execOp_neqM
set_option maxRecDepth 100000 in
set_option maxHeartbeats 4000000 in
theorem vcheck_any : CheckOK := by
  intro l n q c w hn hl _
  have HL := Lib.hid hl
  have HN := Lib.hid hn
  have b1 := hl.le
  have b2 := hl.max
  rw [hn] at b1
  clear hl hn
  go_enter Try.func20, Try.ntmps20
  go_wp2_with fail
  go_loopw [9, 3] (fun i v wr => ∃ k : Nat, i = .int .i64 k ∧ k ≤ n ∧ (∃ t, v = .int .i64 t ∧ Hid (Vw.top (l.take k) = t)) ∧ Hid (Vw.Ok (l.take k)) ∧ Hid (Below w.heap.size w wr)) (fun i _ _ => n - (intOf i).toNat)
  case atStart => exact ⟨0, rfl, by omega, ⟨0, rfl, Lib.hid (by simp [Vw.top])⟩, Lib.hid (by simpa using Vw.Ok.nil), Lib.hid (Below.refl _ _)⟩
  case round =>
    obtain ⟨k, rfl, hk, ⟨t, rfl, HTP⟩, HT, HB⟩ := hrel
    by_cases hlt : k < n
    · have hk1 : k < l.length := by rw [HN.out]; exact hlt
      have HST := Lib.hid (Vw.top_ok l k hk1)
      rw [HTP.out] at HST
      have HTN := Lib.hid (Vw.top_step l k hk1)
      have HBAD := Lib.hid (show ¬ Vw.Ok (l.take (k + 1)) → Vw.err l = 2 from fun h => if_neg (fun h2 => h (h2.take _)))
      obtain ⟨b, off, rfl, hr⟩ := HL.out.get k hk1
      have jk : (0 : Int) ≤ (k : Int) ∧ (k : Int) < (n : Int) := by omega
      have l0 := run_loadM (rangeM_on hr HB.out)
      generalize l[k] = x at *
      have s9 := put_run wr x
      have P9 := Lib.hid (Put.new wr x)
      generalize putM wr x = w5 at *
      have l5 := P9.out.load
      have c5 := rangeM_I (rangeM_of P9.out.blk)
      have HB5 := Lib.hid (below_next HB.out P9.out.below)
      clear hr hk1 HTP
      by_cases hmay : x.May
      · have HCK := Lib.hid (check_ok hmay)
        by_cases hlt2 : t < x.I
        · have t1 : decide (x.I ≤ t) = false := decide_eq_false (by omega)
          have HT2 := Lib.hid (HST.out.2 ⟨HT.out, hmay, hlt2⟩)
          clear HST HBAD HT hmay hlt2
          go_wp2_with fail
          refine (HCK.out _).mono ?_
          rintro e w6 ⟨rfl, hb6⟩
          have HB6 := Lib.hid (below_next HB5.out hb6)
          have c6 := rangeM_I (rangeM_of (P9.out.on hb6).blk)
          clear l0 l5 s9 hb6 c5
          go_wp2_with fail
          go_roundw
          case rel => exact ⟨k + 1, by go_num, by omega, ⟨x.I, rfl, HTN⟩, HT2, HB6⟩
          case measure => simp [intOf]; omega
        · have t1 : decide (x.I ≤ t) = true := decide_eq_true (by omega)
          have HV := Lib.hid (HBAD.out (fun h => hlt2 (HST.out.1 h).2.2))
          clear HST HBAD HT hmay hlt2
          go_wp2_with fail
          refine (HCK.out _).mono ?_
          rintro e w6 ⟨rfl, hb6⟩
          have HB6 := Lib.hid (below_next HB5.out hb6)
          have c6 := rangeM_I (rangeM_of (P9.out.on hb6).blk)
          clear l0 l5 s9 hb6 c5
          go_wp2_with fail
          try rw [Exit.noGoto_ret]
          go_ret
          exact ⟨by rw [HV.out]; rfl, HB6.out⟩
      · have HCK := Lib.hid (check_no hmay)
        have HV := Lib.hid (HBAD.out (fun h => hmay (HST.out.1 h).2.1))
        clear HST HBAD HT hmay
        go_wp2_with fail
        refine (HCK.out _).mono ?_
        rintro e w6 ⟨rfl, hb6⟩
        have HB6 := Lib.hid (below_next HB5.out hb6)
        clear l0 l5 s9 hb6 c5
        go_wp2_with fail
        try rw [Exit.noGoto_ret]
        go_ret
        exact ⟨by rw [HV.out]; rfl, HB6.out⟩
    · obtain rfl : n = k := by omega
      have HV := Lib.hid (show Vw.err l = 0 from if_pos (by have := HT.out; rwa [List.take_of_length_le (by rw [HN.out]; exact Nat.le_refl _)] at this))
      clear HT HTP
      go_wp2_with fail
      go_ret
      exact ⟨by rw [HV.out]; rfl, HB.out⟩
end
end
section
set_option linter.unusedSimpArgs false
set_option linter.unusedVariables false
open Go.RowKit Sha
section
attribute [local go_sem ↓] execOp_loadM execOp_storeM execOp_eqlM execOp_neqM execOp_buildM
theorem run_nilM (w : World) (p : Option Addr) (n c : Nat) : (binOp .eql 22 (.slice p n c) (.slice none 0 0)).run Try.prog w = .ok (.bool p.isNone) w := Lib.run_eql_slice_nil w _ _ p n c 0 0 Try.underlying22
set_option maxRecDepth 100000 in
set_option maxHeartbeats 4000000 in
theorem clone_any (l : List Mb) (n : Nat) (q : Option Addr) (c : Nat) (w : World) (hn : l.length = n) (hl : GoodW w l q c) (hs : n ≤ 100000) :
    Calls Try.prog 30 #[.slice q n c] w fun e w' => ∃ v, e = .returned v ∧ w'.ownsRow w.heap.size mt 3 v n (l.flatMap mc) ∧ Below w.heap.size w w' := by
  have HL := Lib.hid hl
  have HN := Lib.hid hn
  have b1 := hl.le
  have b2 := hl.max
  rw [hn] at b1
  have qn := fun w n c => run_nilM w q n c
  cases q with
  | none =>
    obtain rfl : c = 0 := hl.nil rfl
    obtain rfl : n = 0 := by omega
    obtain rfl : l = [] := List.eq_nil_of_length_eq_zero hn
    clear hl hn HL HN
    go_enter Try.func30, Try.ntmps30
    go_wp2_with fail
    go_ret
    exact ⟨_, rfl, World.ownsRow_nil _ _ _ _, Below.refl _ _⟩
  | some a =>
    clear hl hn
    have c0 := run_buildM0 w
    have O0 := own_empty_w w w.heap.size (Nat.le_refl _)
    have BA := Lib.hid (show Below w.heap.size w (w.alloc (.cells #[] mt)) from (Below.refl _ _).alloc (Nat.le_refl _) _)
    have LA := HL.out.below BA.out
    generalize w.alloc (.cells #[] mt) = wa at *
    go_enter Try.func30, Try.ntmps30
    go_wp2_with (refine wpList_app_s rfl _ _ 22 rfl w.heap.size mt (z := .agg #[.int .i64 0, .int .i64 0, .int .i64 0]) (by decide) Try.underlying22 mem_info rfl _ 0 [] rfl O0 (some a) n c (l.flatMap mc) rfl LA.at_ (by rw [wflat_length, HN.out]) LA.nil b1 (wflat_one l) (by omega) (by unfold maxLen; omega) BA.out.size ?_; intro v1 w7 hv1 hgr1 _; (have B7 := Lib.hid (grown_below BA.out hgr1 (fun g e => (own_base_w O0 g e).1) BA.out.size)); rw [Nat.zero_add, List.nil_append] at hv1; (have H1 := Lib.hid hv1); clear hv1 hgr1)
    go_ret
    exact ⟨_, rfl, H1.out, B7.out⟩
end
end
end Go.Proofs.Ytocfcfoocmkkdaa
