/-
  The program's journals: All and Len.
  The program's journals: Firm.
-/
import Derived.Test.YthopfpfmliookaaJp23
namespace Go.Proofs.Ythopfpfmliookaa
section
set_option linter.unusedSimpArgs false
set_option linter.unusedVariables false
open Go.RowKit Go.Shelf Sha Dsk Jrn
attribute [local go_sem] Oper.semAt_some
theorem frs_count : ∀ (l : Rs), l.length ≤ (Frm.frs l).length
  | [] => by simp
  | b :: l => by
    have := frs_count l
    rw [Frm.frs_cons, List.length_append, Frm.fr_length, List.length_cons]; omega
theorem frs_each (l : Rs) : ∀ x ∈ l, x.length ≤ (Frm.frs l).length := by
  induction l with
  | nil => intro x hx; simp at hx
  | cons b l ih =>
    intro x hx
    rw [Frm.frs_cons, List.length_append, Frm.fr_length]
    rcases List.mem_cons.1 hx with rfl | hx
    · omega
    · have := ih x hx; omega
/-- Records of the call's own lie in blocks that are new. -/
theorem OwnS.recsIn {B : Nat} {w : World} {v : Value} {ys : List SHdr} (h : OwnS B w v ys) : ∃ p n c bs, v = .slice p n c ∧ RecsIn w p n c (ys.map (·.1)) bs ∧ (∀ k ∈ bs, B ≤ k) ∧ bs = v.ownBlock.toList ++ ys.flatMap fun y => (cellS y).ownBlock.toList := by
  obtain ⟨p, cap, hv, hl, hm, hA, hx, hn⟩ := own_at h.own
  have hlow : ∀ k ∈ v.ownBlock.toList ++ ys.flatMap (fun y => (cellS y).ownBlock.toList), B ≤ k ∧ k < w.heap.size := fun k hk => by
    rcases List.mem_append.1 hk with hk | hk
    · rw [Option.mem_toList] at hk
      exact h.own.lt k hk
    · obtain ⟨y, hy, hk⟩ := List.mem_flatMap.1 hk
      rw [Option.mem_toList] at hk
      exact (h.good y hy).own.lt k hk
  refine ⟨p, _, cap, _, hv, ⟨by simp, hl, by unfold maxLen at hm; omega, hn, ⟨ys, rfl, hA, fun y hy => ⟨(h.good y hy).good, fun _ a ha => ?_⟩, fun _ a ha => ?_⟩, fun k hk => (hlow k hk).2⟩, fun k hk => (hlow k hk).1, rfl⟩
  · refine List.mem_append_right _ (List.mem_flatMap.2 ⟨y, hy, ?_⟩)
    have e : (cellS y).ownBlock = some a.block := by unfold cellS; rw [ha]; rfl
    rw [e]; simp
  · refine List.mem_append_left _ ?_
    have e : v.ownBlock = some a.block := by rw [hv, ha]; rfl
    rw [e]; simp
theorem PJ.eachSays {w0 w : World} {b bd : Nat} {v : Value} {ys : List SHdr} (h : PJ w0 b bd v ys) (hb : Below w0.heap.size w0 w) (hys : ys.length ≤ 1000000) :
    SeqSays Fence.wide 4 Try.prog 54 #[.pointer (some ⟨w.heap.size, 0, none⟩)] (tellS ys) ys.length (fun _ W => Below w0.heap.size w0 W) (w.alloc (.cells #[optr b] 24)) :=
  jeach1_in 4 (by omega) b bd w.heap.size v ys w0 _ (hb.alloc hb.size _) (Boxed.new w 24 (optr b)).cell h hys
theorem each_enters : ∀ args w, (callFunc 54 args).run Try.prog w = .ok (.enter 54 args) w := enters_of Try.func54 (by kernel_rfl) rfl
set_option maxRecDepth 100000 in
set_option maxHeartbeats 1000000 in
theorem pall_any (bd bj : Nat) (fj : List Nat) (L : Rs) (w : World) (h : ProgJournal w bj fj (L, bd)) (hs : (Frm.frs L).length ≤ 1000000) :
    Calls Try.prog 11 #[optr bj] w (JAllDone L w) := by
  obtain ⟨v, ys, rfl, e, hp⟩ := h
  change L = _ at e
  change PJ w bj bd v ys at hp
  have h1 := frs_count L
  have h2 := frs_each L
  have hyl : ys.length ≤ 1000000 := by rw [e, List.length_map] at h1; rw [e] at hs; omega
  have hyg : ∀ y ∈ ys, GoodS (w.alloc (.cells #[optr bj] 24)) y ∧ y.1.length ≤ 1000000 := fun y hy => ⟨(hp.own.good y hy).good.below ((Below.refl _ w).alloc (Nat.le_refl _) _), by have := h2 y.1 (by rw [e]; exact List.mem_map_of_mem hy); omega⟩
  have HC := Lib.hid (copied_in 54 #[.pointer (some ⟨w.heap.size, 0, none⟩)] each_enters ys _ hyg hyl (jeach1_in 4 (by omega) bj bd w.heap.size v ys _ _ (Below.refl _ _) (Boxed.new w 24 (optr bj)).cell (hp.keep fun k hk => ((Below.refl _ w).alloc (Nat.le_refl _) _).block k (hp.low k hk)) hyl))
  have HL := Lib.hid e
  have HB := Lib.hid ((Below.refl _ w).alloc (Nat.le_refl _) (.cells #[optr bj] 24))
  have HE := Lib.hid ((callsIn_wide (n := 4)).1 (jeach_in 4 (some ⟨bj, 0, none⟩) w))
  have HZ := Lib.hid (World.size_alloc w (.cells #[optr bj] 24))
  clear h1 h2 hyl hyg hp e hs
  go_enter Try.func11, Try.ntmps11
  go_wp2_with fail
  refine HE.out.mono ?_
  rintro e w1 ⟨rfl, rfl⟩
  go_wp2_with fail
  refine HC.out.mono ?_
  rintro e w2 ⟨v2, zs, rfl, hz, ho, hb⟩
  obtain ⟨p, n, c, bs, rfl, hr, hl, _⟩ := ho.recsIn
  have HR := Lib.hid hr
  have HLW := Lib.hid hl
  have HB2 := Lib.hid hb
  have HZS := Lib.hid hz
  clear ho hr hl hb hz
  go_wp2_with fail
  go_ret
  refine ⟨p, n, c, bs, rfl, by rw [HL.out, ← HZS.out]; exact HR.out, fun k hk => by have := HLW.out k hk; rw [HZ.out] at this; omega, HB.out.trans (HB2.out.mono HB.out.size)⟩
set_option maxRecDepth 100000 in
set_option maxHeartbeats 1000000 in
theorem plen_any (bd bj : Nat) (fj : List Nat) (L : Rs) (w : World) (h : ProgJournal w bj fj (L, bd)) (hs : (Frm.frs L).length ≤ 1000000) :
    Calls Try.prog 12 #[optr bj] w (SaysB (i64v L.length) w) := by
  obtain ⟨v, ys, rfl, e, hp⟩ := h
  change L = _ at e
  change PJ w bj bd v ys at hp
  have h1 := frs_count L
  have hyl : ys.length ≤ 1000000 := by rw [e, List.length_map] at h1; rw [e] at hs; omega
  obtain ⟨n, hn⟩ : ∃ n, n = ys.length := ⟨_, rfl⟩
  have hll : L.length = n := by rw [e, List.length_map, hn]
  rw [hll]
  have HSQ := Lib.hid (fun w1 (hb : Below w.heap.size w w1) => hp.eachSays hb hyl)
  rw [← hn] at HSQ hyl
  clear h1 e hs hll hn
  refine (callsIn_wide (n := 5)).1 ?_
  refine callsIn_of_wp_marks Try.func12 rfl trivial ?_ rfl
  simp only [Try.ntmps12, List.size_toArray, List.length_cons, List.length_nil, Nat.reduceAdd, Nat.reduceSub, Array.replicate_succ, Array.replicate_zero, List.push_toArray, List.append_toArray, List.nil_append, List.cons_append]
  gi_wp2_with (refine ⟨trivial, ?_⟩; gi_at_call 35; refine (jeach_in 4 _ _).mono ?_; rintro e w' ⟨rfl, rfl⟩)
  have b1 := Boxed.new w 3 (.int .i64 0)
  have hB1 := (Below.refl w.heap.size w).alloc (Nat.le_refl _) (.cells #[.int .i64 0] 3)
  have hs1 := World.size_alloc w (.cells #[.int .i64 0] 3)
  obtain ⟨w1, hw1⟩ : ∃ x, x = w.alloc (.cells #[.int .i64 0] 3) := ⟨_, rfl⟩
  rw [← hw1] at b1 hB1 hs1 ⊢
  have hsq := HSQ.out w1 hB1
  rw [hs1] at hsq
  have b2 := b1.alloc (.cells #[optr bj] 24)
  have hB2 := hB1.alloc (by omega) (.cells #[optr bj] 24)
  have hs2 := World.size_alloc w1 (.cells #[optr bj] 24)
  obtain ⟨w2, hw2⟩ : ∃ x, x = w1.alloc (.cells #[optr bj] 24) := ⟨_, rfl⟩
  rw [← hw2] at b2 hB2 hs2 hsq ⊢
  clear hw1 hw2 hp b1 HSQ
  have HSQ := Lib.hid hsq
  clear hsq
  refine wpIn_range_says rfl (by omega) (gf := 54) (lb := #[.pointer (some ⟨w.heap.size + 1, 0, none⟩)]) rfl trivial each_enters HSQ.out (Below.refl _ _) (fun _ => rfl)
    (fun k W => Boxed W w.heap.size 3 (.int .i64 (k : Nat)) ∧ Below w.heap.size w W)
    (fun _ _ _ => False)
    (OwnFrom.and (Own.from (boxed_own w.heap.size 3 (fun k : Nat => .int .i64 (k : Nat))) _) (ownFrom_below (Nat.le_refl _) (by omega)))
    (fun _ _ _ _ _ hs _ _ => hs)
    (fun k W h => h.2)
    ⟨b2, hB2⟩
    (fun k a' _ => a' = { tmps := #[optr bj, undef, Value.int IntKind.i64 0, Value.pointer (some { block := w.heap.size, off := 0 }), optr bj, Value.func (Fn.func 54) #[] #[Value.pointer (some { block := w.heap.size + 1, off := 0 })], cellS (ys.getD k ([], none, 0)), undef, undef, undef], defers := [] })
    (fun k a' => fun _ _ _ _ hs _ _ => hs)
    ?assign ?body ?done ?stop
  case assign =>
    intro lp k W K hI hK
    unfold tellS
    gi_wp2
    exact hK _ _ (KeepsFrom.refl _ _) hI (by simp)
  case body =>
    rintro lp k a' W hl hrec hk ⟨hbx, hbl⟩ rfl
    have c0 := hbx.cell
    have z0 := hbx.frozen
    have hset := hbx.set (.int .i64 ((k + 1 : Nat) : Int))
    have hB := hbl.setCell (p := ⟨w.heap.size, 0, none⟩) (Nat.le_refl _) (.int .i64 ((k + 1 : Nat) : Int))
    have HS := Lib.hid hset
    have HB := Lib.hid hB
    have hw : IntKind.i64.wrap ((k : Int) + 1) = ((k + 1 : Nat) : Int) := by rw [IntWalk.i64_in _ (by omega)]; push_cast; rfl
    clear hset hB
    gi_wp2
    exact ⟨(KeepsOthers.setCell _ _ _).from _, HS.out, HB.out⟩
  case done =>
    rintro D W hD ⟨hbx, hbl⟩ hdf
    have c0 := hbx.cell
    gi_wp2
    refine ⟨by simp, .inl ⟨_, _, rfl, run_takeDeferred hdf, ?_⟩⟩
    refine ⟨_, results_tmp rfl _ _ _, ?_⟩
    exact ⟨rfl, hbl.trans (belowK_b (w := w) (Nat.le_refl _) W D _ _ (by omega) hdf rfl rfl)⟩
  case stop =>
    rintro D c' k W hD hk h hdf
    exact h.elim
end
section
set_option linter.unusedSimpArgs false
set_option linter.unusedVariables false
open Go.RowKit Go.Shelf Sha Dsk Jrn
attribute [local go_sem] Oper.semAt_some
theorem firmN_at : ∀ (L : Rs) (k f : Nat), k ≤ L.length → (Frm.frs (L.take k)).length ≤ f → (k < L.length → f < (Frm.frs (L.take (k + 1))).length) → firmN L f = k
  | [], k, f, h, _, _ => by simp at h; subst h; rfl
  | b :: r, 0, f, _, _, h2 => by
    have h3 := h2 (by simp)
    rw [List.take_succ_cons, List.take_zero, Frm.frs_cons, List.length_append, Frm.fr_length, Frm.frs_nil, List.length_nil] at h3
    unfold firmN
    rw [if_neg (by omega)]
  | b :: r, k + 1, f, h, h1, h2 => by
    rw [List.take_succ_cons, Frm.frs_cons, List.length_append, Frm.fr_length] at h1
    unfold firmN
    rw [if_pos (by omega), firmN_at r k (f - (8 + b.length)) (by simpa using h) (by omega) (fun hk => ?_)]
    have h3 := h2 (by simpa using hk)
    rw [List.take_succ_cons, Frm.frs_cons, List.length_append, Frm.fr_length] at h3
    omega
set_option maxRecDepth 100000 in
set_option maxHeartbeats 1000000 in
theorem pjfirm_any (bd : Nat) (fd : List Nat) (s : DState) (bj : Nat) (fj : List Nat) (L : Rs) (w : World) (hd : ProgDisk w bd fd s) (h : ProgJournal w bj fj (L, bd)) (ht : Tied L s) :
    Calls Try.prog 13 #[optr bj] w (SaysB (i64v (firmN L s.firm)) w) := by
  obtain ⟨v, ys, rfl, e, hp⟩ := h
  change L = _ at e
  change PJ w bj bd v ys at hp
  have hok : Ok s := by obtain ⟨_, _, _, h⟩ := hd; exact h.ok
  have hsmall : s.firm ≤ 1000000 ∧ (Frm.frs L).length ≤ 1000000 := by
    have h1 := hok.small
    have h2 := hok.firm
    obtain ⟨z, hz, _⟩ := ht.log
    have h3 := congrArg List.length hz
    rw [List.length_append] at h3
    omega
  obtain ⟨hs1, hs2⟩ := hsmall
  have h1 := frs_count L
  have hyl : ys.length ≤ 1000000 := by rw [e, List.length_map] at h1; rw [e] at hs2; omega
  obtain ⟨n, hn⟩ : ∃ n, n = ys.length := ⟨_, rfl⟩
  have hll : L.length = n := by rw [e, List.length_map, hn]
  have HSQ := Lib.hid (fun w1 (hb : Below w.heap.size w w1) => hp.eachSays hb hyl)
  rw [← hn] at HSQ hyl
  have HL := Lib.hid e
  have HLL := Lib.hid hll
  have HT := Lib.hid ht
  have HBK := Lib.hid hp.blk
  have HFIRM := Lib.hid (fun W (hb : Below w.heap.size w W) => pfirm_any bd fd s W (progHeldD.on hd hb))
  have HFN := Lib.hid (firmN_at L)
  obtain ⟨f, hf⟩ : ∃ f, f = s.firm := ⟨_, rfl⟩
  rw [← hf] at hs1 HFIRM ⊢
  clear h1 e hll hn ht hok hd hf hp
  refine (callsIn_wide (n := 5)).1 ?_
  refine callsIn_of_wp_marks Try.func13 rfl trivial ?_ rfl
  simp only [Try.ntmps13, List.size_toArray, List.length_cons, List.length_nil, Nat.reduceAdd, Nat.reduceSub, Array.replicate_succ, Array.replicate_zero, List.push_toArray, List.append_toArray, List.nil_append, List.cons_append]
  gi_wp2_with (refine ⟨trivial, ?_⟩; gi_at_call 35; refine (jeach_in 4 _ _).mono ?_; rintro e w' ⟨rfl, rfl⟩)
  have b0 := Boxed.new w 24 (optr bj)
  have hB0 := (Below.refl w.heap.size w).alloc (Nat.le_refl _) (.cells #[optr bj] 24)
  have hz0 := World.size_alloc w (.cells #[optr bj] 24)
  obtain ⟨w1, hw1⟩ : ∃ x, x = w.alloc (.cells #[optr bj] 24) := ⟨_, rfl⟩
  rw [← hw1] at b0 hB0 hz0 ⊢
  have b1 := Boxed.new w1 3 (.int .i64 0)
  have b01 := b0.alloc (.cells #[.int .i64 0] 3)
  have hB1 := hB0.alloc (by omega) (.cells #[.int .i64 0] 3)
  have hz1 := World.size_alloc w1 (.cells #[.int .i64 0] 3)
  obtain ⟨w2, hw2⟩ : ∃ x, x = w1.alloc (.cells #[.int .i64 0] 3) := ⟨_, rfl⟩
  rw [← hw2] at b1 b01 hB1 hz1 ⊢
  have b2 := Boxed.new w2 3 (.int .i64 0)
  have b02 := b01.alloc (.cells #[.int .i64 0] 3)
  have b12 := b1.alloc (.cells #[.int .i64 0] 3)
  have hB2 := hB1.alloc (by omega) (.cells #[.int .i64 0] 3)
  have hz2 := World.size_alloc w2 (.cells #[.int .i64 0] 3)
  obtain ⟨w3, hw3⟩ : ∃ x, x = w2.alloc (.cells #[.int .i64 0] 3) := ⟨_, rfl⟩
  rw [← hw3] at b2 b02 b12 hB2 hz2 ⊢
  have hsq := HSQ.out w3 hB2
  have b03 := b02.alloc (.cells #[optr bj] 24)
  have b13 := b12.alloc (.cells #[optr bj] 24)
  have b23 := b2.alloc (.cells #[optr bj] 24)
  have hB3 := hB2.alloc (by omega) (.cells #[optr bj] 24)
  have hz3 := World.size_alloc w3 (.cells #[optr bj] 24)
  obtain ⟨w4, hw4⟩ : ∃ x, x = w3.alloc (.cells #[optr bj] 24) := ⟨_, rfl⟩
  rw [← hw4] at b03 b13 b23 hB3 hz3 hsq ⊢
  rw [show w3.heap.size = w.heap.size + 1 + 1 + 1 by omega] at hsq
  rw [show w2.heap.size = w.heap.size + 1 + 1 by omega] at b23
  rw [show w1.heap.size = w.heap.size + 1 by omega] at b13
  have hz : w4.heap.size = w.heap.size + 1 + 1 + 1 + 1 := by omega
  clear hw1 hw2 hw3 hw4 b0 b1 b2 b01 b02 b12 hB0 hB1 hB2 hz0 hz1 hz2 hz3 HSQ
  have HSQ := Lib.hid hsq
  clear hsq
  obtain ⟨E, hE⟩ : ∃ E : Nat → Nat, E = fun k => (Frm.frs (L.take k)).length := ⟨_, rfl⟩
  have E0 : E 0 = 0 := by rw [hE]; rfl
  have EL : ∀ k, E k ≤ 1000000 := fun k => by rw [hE]; exact Nat.le_trans (frs_part L k) hs2
  have ES : ∀ k, k < n → E (k + 1) = E k + (8 + (ys.getD k ([], none, 0)).1.length) ∧ 1 ≤ (ys.getD k ([], none, 0)).1.length ∧ (ys.getD k ([], none, 0)).1.length ≤ 4000 := fun k hk => by
    have hkL : k < L.length := by rw [HLL.out]; exact hk
    have hy : (ys.getD k ([], none, 0)).1 = L[k] := by
      have h3 : L[k]? = (ys.map (·.1))[k]? := by rw [HL.out]
      rw [List.getElem?_eq_getElem hkL, List.getElem?_map] at h3
      rw [List.getD_eq_getElem?_getD]
      cases h4 : ys[k]? with
      | none => rw [h4] at h3; cases h3
      | some y => rw [h4] at h3; exact (Option.some.inj h3).symm
    have hr := (HT.out.recs L[k] (List.getElem_mem hkL)).1
    rw [hy, hE]
    exact ⟨frs_succ hkL, hr.one, hr.most⟩
  have HFE := Lib.hid (show ∀ k, k ≤ n → E k ≤ f → (k < n → f < E (k + 1)) → firmN L f = k from fun k h1 h2 h3 => HFN.out k f (by rw [HLL.out]; exact h1) (by rw [hE] at h2; exact h2) (fun h4 => by have h5 := h3 (by rw [HLL.out] at h4; exact h4); rw [hE] at h5; exact h5))
  have HES := Lib.hid ES
  have HEL := Lib.hid EL
  have HE0 := Lib.hid E0
  clear hE E0 EL ES HFN
  refine wpIn_range_says rfl (by omega) (gf := 54) (lb := #[.pointer (some ⟨w.heap.size + 1 + 1 + 1, 0, none⟩)]) rfl trivial each_enters HSQ.out (Below.refl _ _) (fun _ => rfl)
    (fun k W => Boxed W w.heap.size 24 (optr bj) ∧ Boxed W (w.heap.size + 1) 3 (.int .i64 (k : Nat)) ∧ Boxed W (w.heap.size + 1 + 1) 3 (.int .i64 (E k : Nat)) ∧ E k ≤ f ∧ Below w.heap.size w W)
    (fun c k W => c = .exit 0 ∧ ∃ k0, k = k0 + 1 ∧ k0 < n ∧ Boxed W (w.heap.size + 1) 3 (.int .i64 (k0 : Nat)) ∧ E k0 ≤ f ∧ f < E (k0 + 1) ∧ Below w.heap.size w W)
    ?own ?ownx (fun k W h => h.2.2.2.2)
    ⟨b03, b13, by rw [HE0.out]; exact b23, by rw [HE0.out]; omega, hB3⟩
    (fun k a' _ => a' = { tmps := #[optr bj, Value.pointer (some { block := w.heap.size, off := 0 }), Value.int IntKind.i64 0, Value.pointer (some { block := w.heap.size + 1, off := 0 }), Value.pointer (some { block := w.heap.size + 1 + 1, off := 0 }), cellS (ys.getD k ([], none, 0)), optr bj, Value.func (Fn.func 54) #[] #[Value.pointer (some { block := w.heap.size + 1 + 1 + 1, off := 0 })], cellS (ys.getD k ([], none, 0)), undef, undef, undef, undef, undef, undef, undef, undef, undef, undef, undef, undef, undef, undef, undef], defers := [] })
    (fun k a' => fun _ _ _ _ hs _ _ => hs)
    ?assign ?body ?done ?stop
  case own =>
    exact OwnFrom.and (Own.from (boxed_own w.heap.size 24 (fun k : Nat => optr bj)) _) (OwnFrom.and (Own.from (boxed_own (w.heap.size + 1) 3 (fun k : Nat => .int .i64 (k : Nat))) _) (OwnFrom.and (Own.from (boxed_own (w.heap.size + 1 + 1) 3 (fun k : Nat => .int .i64 (E k : Nat))) _) (OwnFrom.and (fun _ _ _ _ hs _ _ => hs) (ownFrom_below (Nat.le_refl _) (by omega)))))
  case ownx =>
    rintro c k X Y row ⟨h1, k0, h2, h3, h4, h5, h6, h7⟩ hg hr
    exact ⟨h1, k0, h2, h3, boxed_own (w.heap.size + 1) 3 (fun k : Nat => .int .i64 (k : Nat)) k0 X Y row h4 hg (fun r e => (hr r e).2), h5, h6, ownFrom_below (β := Nat) (Nat.le_refl w.heap.size) (by omega) k0 X Y row h7 hg hr⟩
  case assign =>
    intro lp k W K hI hK
    unfold tellS
    gi_wp2
    exact hK _ _ (KeepsFrom.refl _ _) hI rfl
  case body =>
    rintro lp k a' W hl hrec hk ⟨x0, x1, x2, hEk, hbl⟩ rfl
    have hes := HES.out k hk
    obtain ⟨xs, q, d, hv⟩ : ∃ xs q d, ys.getD k ([], none, 0) = (xs, q, d) := ⟨_, _, _, rfl⟩
    rw [hv] at hes
    dsimp only at hes
    unfold cellS
    simp only [hv]
    obtain ⟨c, hc⟩ : ∃ c, c = xs.length := ⟨_, rfl⟩
    rw [← hc] at hes ⊢
    obtain ⟨hes, hc1, hc2⟩ := hes
    have hek := HEL.out k
    have hek1 := HEL.out (k + 1)
    have HBL := Lib.hid hbl
    have HHES := Lib.hid hes
    obtain ⟨ek, hkk⟩ : ∃ ek, ek = E k := ⟨_, rfl⟩
    obtain ⟨ek1, hkk1⟩ : ∃ ek1, ek1 = E (k + 1) := ⟨_, rfl⟩
    rw [← hkk] at x2 hEk hek HHES
    rw [← hkk1] at hek1 HHES
    have c2 := x2.cell
    have HSZ := Lib.hid (fun d => (fsize_any (c : Int) (W.drewN d) (by omega)).mono (R' := fun e w' => e = .returned (.int .i64 (8 + (c : Int))) ∧ ∃ m, w' = (W.drewN d).drewN m) fun e w' ⟨h1, h2⟩ => ⟨by rw [h1]; unfold fsize; rw [if_neg (by omega)], 0, h2.symm⟩)
    have hwr : IntKind.i64.wrap ((ek : Int) + (8 + (c : Int))) = (ek1 : Int) := by rw [IntWalk.i64_in _ (by omega)]; have := HHES.out; omega
    have HK1 := Lib.hid hkk
    have HK2 := Lib.hid hkk1
    clear hv hc hes hbl hkk hkk1
    gi_wp2
    refine round_quiet_tail 5 (by kernel_rfl) (by kernel_rfl) (by simp) ?_
    simp only [List.take_succ_cons, List.take_zero, List.drop_succ_cons, List.drop_zero]
    repeat (go_big_quiet_step (first | (go_at_call 36; refine Calls.quiet_of (HSZ.out _))))
    refine wpQuiet_nil ?_
    rintro _ ⟨nq, rfl⟩
    have d2 : Boxed (W.drewN nq) (w.heap.size + 1 + 1) 3 (.int .i64 (ek : Nat)) := x2
    have d0 : Boxed (W.drewN nq) w.heap.size 24 (optr bj) := x0
    have d1 : Boxed (W.drewN nq) (w.heap.size + 1) 3 (.int .i64 (k : Nat)) := x1
    have e2 := d2.cell
    have z2 := d2.frozen
    have s2 := d2.set (.int .i64 (ek1 : Nat))
    have s0 := d0.other (B' := w.heap.size + 1 + 1) (by omega) (.int .i64 (ek1 : Nat))
    have s1 := d1.other (B' := w.heap.size + 1 + 1) (by omega) (.int .i64 (ek1 : Nat))
    have hB5 := (below_drewN HBL.out nq).setCell (p := ⟨w.heap.size + 1 + 1, 0, none⟩) (by simp; omega) (.int .i64 (ek1 : Nat))
    have hk5 : KeepsOthers W ((W.drewN nq).setCell ⟨w.heap.size + 1 + 1, 0, none⟩ (.int .i64 (ek1 : Nat))) := (keepsOthers_drewN W nq).trans (KeepsOthers.setCell _ _ _)
    have K5 := Lib.hid hk5
    have B5 := Lib.hid hB5
    have S0 := Lib.hid s0
    have S1 := Lib.hid s1
    have S2 := Lib.hid s2
    clear d0 d1 d2 s0 s1 s2 hB5 hk5 c2
    gi_wp2
    obtain ⟨W5, hW5⟩ : ∃ x, x = (W.drewN nq).setCell ⟨w.heap.size + 1 + 1, 0, none⟩ (.int .i64 (ek1 : Nat)) := ⟨_, rfl⟩
    rw [← hW5] at K5 B5 S0 S1 S2 ⊢
    have HBK5 := HBK.out.below B5.out HBK.out.lt
    have f0 := S0.out.cell
    have f2 := S2.out.cell
    have f1 : W5.cell? ⟨bj, 1, none⟩ = some (optr bd) := HBK5.cell 1
    have HFD := Lib.hid (fun d => (HFIRM.out (W5.drewN d) (below_drewN B5.out d)))
    unfold QDone at HFD
    clear hW5 e2 z2 HBK5
    refine round_quiet_tail 6 (by kernel_rfl) (by kernel_rfl) (by simp) ?_
    simp only [List.take_succ_cons, List.take_zero, List.drop_succ_cons, List.drop_zero]
    repeat (go_big_quiet_step (first | (go_at_call 37; refine Calls.quiet_of (HFD.out _))))
    refine wpQuiet_nil ?_
    rintro _ ⟨nr, rfl⟩
    have g0 : Boxed (W5.drewN nr) w.heap.size 24 (optr bj) := S0.out
    have g1 : Boxed (W5.drewN nr) (w.heap.size + 1) 3 (.int .i64 (k : Nat)) := S1.out
    have g2 : Boxed (W5.drewN nr) (w.heap.size + 1 + 1) 3 (.int .i64 (ek1 : Nat)) := S2.out
    have B6 := Lib.hid (below_drewN B5.out nr)
    have K6 := Lib.hid (K5.out.trans (keepsOthers_drewN W5 nr))
    generalize W5.drewN nr = W6 at *
    by_cases hgt : f < ek1
    · have hgt' : (f : Int) < (ek1 : Int) := by omega
      gi_wp2
      exact ⟨K6.out.from _, rfl, k, rfl, hk, g1, by rw [← HK1.out]; exact hEk, by rw [← HK2.out]; exact hgt, B6.out⟩
    · have hgt' : ¬ (f : Int) < (ek1 : Int) := by omega
      have h1c := g1.cell
      have h1z := g1.frozen
      have G1 := Lib.hid (g1.set (.int .i64 ((k + 1 : Nat) : Int)))
      have G0 := Lib.hid (g0.other (B' := w.heap.size + 1) (by omega) (.int .i64 ((k + 1 : Nat) : Int)))
      have G2 := Lib.hid (g2.other (B' := w.heap.size + 1) (by omega) (.int .i64 ((k + 1 : Nat) : Int)))
      have B7 := Lib.hid (B6.out.setCell (p := ⟨w.heap.size + 1, 0, none⟩) (by simp) (.int .i64 ((k + 1 : Nat) : Int)))
      have K7 := Lib.hid (K6.out.trans (KeepsOthers.setCell W6 ⟨w.heap.size + 1, 0, none⟩ (.int .i64 ((k + 1 : Nat) : Int))))
      have hw1 : IntKind.i64.wrap ((k : Int) + 1) = ((k + 1 : Nat) : Int) := by rw [IntWalk.i64_in _ (by omega)]; push_cast; rfl
      clear g0 g1 g2
      gi_wp2
      exact ⟨K7.out.from _, G0.out, G1.out, by rw [← HK2.out]; exact G2.out, by rw [← HK2.out]; omega, B7.out⟩
  case done =>
    rintro D W hD ⟨x0, x1, x2, hEk, hbl⟩ hdf
    have c0 := x1.cell
    have HFR := Lib.hid (HFE.out n (Nat.le_refl _) hEk (fun h => absurd h (Nat.lt_irrefl _)))
    gi_wp2
    refine ⟨by simp, .inl ⟨_, _, rfl, run_takeDeferred hdf, ?_⟩⟩
    refine ⟨_, results_tmp rfl _ _ _, ?_⟩
    exact ⟨by rw [HFR.out]; rfl, hbl.trans (belowK_b (w := w) (Nat.le_refl _) W D _ _ (by omega) hdf rfl rfl)⟩
  case stop =>
    rintro D c' k W hD hk ⟨rfl, k0, rfl, hk0, x1, hEk, hEk1, hbl⟩ hdf
    have c0 := x1.cell
    have HFR := Lib.hid (HFE.out k0 (by omega) hEk (fun _ => hEk1))
    gi_wp2
    refine ⟨by simp, .inl ⟨_, _, rfl, run_takeDeferred hdf, ?_⟩⟩
    refine ⟨_, results_tmp rfl _ _ _, ?_⟩
    exact ⟨by rw [HFR.out]; rfl, hbl.trans (belowK_b (w := w) (Nat.le_refl _) W D _ _ (by omega) hdf rfl rfl)⟩
end
end Go.Proofs.Ythopfpfmliookaa
