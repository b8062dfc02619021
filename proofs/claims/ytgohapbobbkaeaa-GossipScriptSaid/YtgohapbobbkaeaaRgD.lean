/-
  The reference's Take.
-/
import Derived.Test.YtgohapbobbkaeaaRgC
namespace Go.Proofs.Ytgohapbobbkaeaa
set_option linter.unusedSimpArgs false
set_option linter.unusedVariables false
open Go.RowKit Sha
namespace Gs
/-- The reference's words when j were told. -/
def TkAt (N : Nat) (l : List Tl) (j : Nat) (P : List Tl) : Prop := P.Perm (l.drop j ++ (l.take j).filterMap (bump (lim N)))
theorem bump_ids (L : Nat) (xs : List Tl) : (ids (xs.filterMap (bump L))).Sublist (ids xs) := by
  induction xs with
  | nil => simp
  | cons x xs ih =>
    by_cases hb : x.t + 1 < L
    · rw [List.filterMap_cons_some (show bump L x = some ⟨x.m, x.t + 1⟩ from if_pos hb)]
      exact ih.cons_cons _
    · rw [List.filterMap_cons_none (show bump L x = none from if_neg hb)]
      exact ih.cons _
theorem TkAt.ids {N : Nat} {l P : List Tl} {j : Nat} (h : TkAt N l j P) (ho : OK N l) : (ids P).Nodup := by
  have h1 := (List.Perm.map (fun x : Tl => x.m.I) h).nodup_iff
  refine h1.2 ?_
  have hp : (Gs.ids (l.drop j ++ l.take j)).Nodup := by
    have hq : (Gs.ids (l.drop j ++ l.take j)).Perm (Gs.ids l) := by
      refine List.Perm.map _ ?_
      refine List.perm_append_comm.trans ?_
      rw [List.take_append_drop]
    exact hq.nodup_iff.2 ho.nd
  refine hp.sublist ?_
  show (List.map _ _).Sublist (List.map _ _)
  rw [List.map_append, List.map_append]
  exact (List.Sublist.refl _).append (bump_ids _ _)
theorem TkAt.len {N : Nat} {l P : List Tl} {j : Nat} (h : TkAt N l j P) (ho : OK N l) : P.length ≤ 64 := by
  have h1 := h.length_eq
  have h2 := List.length_filterMap_le (bump (lim N)) (l.take j)
  have h3 := ho.len
  have h4 := ho.n2
  rw [List.length_append, List.length_drop] at h1
  rw [List.length_take] at h2
  omega
theorem TkAt.zero {N : Nat} {l P : List Tl} (h : P.Perm l) : TkAt N l 0 P := by unfold TkAt; simpa using h
theorem seen_not {N : Nat} {l : List Tl} (ho : OK N l) {j : Nat} {y : Tl} (hy : y ∈ l.drop j) : y.m.I ∉ ((l.take j).map (·.m)).map (·.I) := fun e => by
  rw [List.map_map] at e
  obtain ⟨x, hx, he⟩ := List.mem_map.1 e
  have hn := ho.nd
  have hs : Gs.ids l = Gs.ids (l.take j) ++ Gs.ids (l.drop j) := by rw [← List.map_append, List.take_append_drop]
  rw [hs] at hn
  exact (List.nodup_append.1 hn).2.2 _ (List.mem_map.2 ⟨x, hx, rfl⟩) _ (List.mem_map.2 ⟨y, hy, rfl⟩) he
theorem TkAt.mem {N : Nat} {l P : List Tl} {j : Nat} (h : TkAt N l j P) {y : Tl} (hy : y ∈ P) (hn : y.m.I ∉ ((l.take j).map (·.m)).map (·.I)) : y ∈ l.drop j := by
  rcases List.mem_append.1 (h.mem_iff.1 hy) with h1 | h1
  · exact h1
  · obtain ⟨x, hx, he⟩ := List.mem_filterMap.1 h1
    unfold bump at he
    split at he
    · cases he
      refine absurd ?_ hn
      rw [List.map_map]
      exact List.mem_map.2 ⟨x, hx, rfl⟩
    · cases he
theorem TkAt.next {N : Nat} {l P : List Tl} {j : Nat} {r : Int} (h : TkAt N l j P) (ho : OK N l) (hj : j < l.length) (hf : FstAt P (((l.take j).map (·.m)).map (·.I)) P.length r) : ∃ q : Nat, r = q ∧ P[q]? = some l[j] := by
  have hmem : l[j] ∈ l.drop j := by rw [List.drop_eq_getElem_cons hj]; exact List.mem_cons_self
  have hP : l[j] ∈ P := h.mem_iff.2 (List.mem_append.2 (.inl hmem))
  obtain ⟨k, hk, he⟩ := List.getElem_of_mem hP
  have hkq : P[k]? = some l[j] := by rw [List.getElem?_eq_getElem hk, he]
  rcases hf with ⟨_, hall⟩ | ⟨q, y, hq, hr, hy, hn, hall⟩
  · exact absurd (hall k _ hk hkq) (seen_not ho hmem)
  · refine ⟨q, hr, ?_⟩
    rcases hall k _ hk hkq (seen_not ho hmem) with h1 | h1
    · rw [← h1]; exact hkq
    · have hyd := h.mem (List.mem_of_getElem? hy) hn
      have hsd := ho.srt.sublist (List.drop_sublist j l)
      rw [List.drop_eq_getElem_cons hj] at hyd hsd
      rcases List.mem_cons.1 hyd with h2 | h2
      · rw [h2] at hy; exact hy
      · exact absurd ((List.pairwise_cons.1 hsd).1 y h2) (lt_not h1)
theorem TkAt.none {N : Nat} {l P : List Tl} {j : Nat} {r : Int} (h : TkAt N l j P) (hj : l.length ≤ j) (hf : FstAt P (((l.take j).map (·.m)).map (·.I)) P.length r) : r = -1 := by
  rcases hf with ⟨h1, _⟩ | ⟨q, y, hq, hr, hy, hn, _⟩
  · exact h1
  · have := h.mem (List.mem_of_getElem? hy) hn
    rw [List.drop_eq_nil_of_le hj] at this
    cases this
theorem set_perm {α : Type} (P : List α) (q : Nat) (x : α) (hq : q < P.length) : (P.set q x).Perm (x :: P.eraseIdx q) := by
  rw [List.set_eq_take_append_cons_drop, if_pos hq, List.eraseIdx_eq_take_drop_succ]
  exact List.perm_middle
theorem TkAt.rest {N : Nat} {l P : List Tl} {j q : Nat} (h : TkAt N l j P) (hj : j < l.length) (hq : P[q]? = some l[j]) : (P.eraseIdx q).Perm (l.drop (j + 1) ++ (l.take j).filterMap (bump (lim N))) := by
  obtain ⟨hql, he⟩ := List.getElem?_eq_some_iff.1 hq
  have h1 := (erase_perm P q hql).trans h
  rw [he, List.drop_eq_getElem_cons hj] at h1
  exact h1.cons_inv
theorem TkAt.back {N : Nat} {l P : List Tl} {j q : Nat} (h : TkAt N l j P) (hj : j < l.length) (hq : P[q]? = some l[j]) (hb : l[j].t + 1 < lim N) : TkAt N l (j + 1) (P.set q ⟨l[j].m, l[j].t + 1⟩) := by
  have hql := (List.getElem?_eq_some_iff.1 hq).1
  unfold TkAt
  rw [List.take_succ_eq_append_getElem hj, List.filterMap_append, List.filterMap_cons_some (show bump (lim N) l[j] = some ⟨l[j].m, l[j].t + 1⟩ from if_pos hb), List.filterMap_nil, ← List.append_assoc]
  refine (set_perm P q _ hql).trans ?_
  refine ((h.rest hj hq).cons _).trans ?_
  exact (List.perm_append_singleton _ _).symm
theorem TkAt.gone {N : Nat} {l P : List Tl} {j q : Nat} (h : TkAt N l j P) (hj : j < l.length) (hq : P[q]? = some l[j]) (hb : ¬ l[j].t + 1 < lim N) (x : Tl) : TkAt N l (j + 1) ((P.set q x).eraseIdx q) := by
  have hql := (List.getElem?_eq_some_iff.1 hq).1
  unfold TkAt
  rw [List.take_succ_eq_append_getElem hj, List.filterMap_append, List.filterMap_cons_none (show bump (lim N) l[j] = Option.none from if_neg hb), List.filterMap_nil, List.append_nil]
  have e : (P.set q x).eraseIdx q = P.eraseIdx q := by
    rw [List.eraseIdx_eq_take_drop_succ, List.eraseIdx_eq_take_drop_succ, List.take_set_of_le (Nat.le_refl _), List.drop_set_of_lt (Nat.lt_succ_self _)]
  rw [e]
  exact h.rest hj hq
theorem TkAt.end_ {N : Nat} {l P : List Tl} {n : Int} (h : TkAt N l (cnt n l.length) P) : P.Perm (left N l n) := List.Perm.trans h (puts_perm _ _ _).symm
end Gs
/-- Half way: what is told, what the reference has. -/
structure RTake (w0 wr : World) (fp : List Nat) (b N : Nat) (fp' : List Nat) (P : List Tl) (v : Value) (n : Nat) (os : List Value) : Prop where
  raw : RefRaw wr b fp' N P
  out : wr.ownsRow w0.heap.size mt 3 v n os
  a3 : ∀ k, v.ownBlock = some k → k ∉ fp'
  touch : Touch fp w0 wr
  from_ : From fp fp' w0
section
variable {w0 wr w' : World} {fp fp' : List Nat} {b N n : Nat} {P : List Tl} {os : List Value} {v : Value}
theorem RTake.on (h : RTake w0 wr fp b N fp' P v n os) (hb : Below wr.heap.size wr w') : RTake w0 w' fp b N fp' P v n os :=
  ⟨h.raw.on hb, ownsRow_keepR h.out fun g e => hb.block g (own_base_w h.out g e).2, h.a3, h.touch.trans (Touch.of_below (fp := fp) hb) (From.refl _ _), h.from_⟩
theorem RTake.app (h : RTake w0 wr fp b N fp' P v n os) {v' : Value} {n' : Nat} {os' : List Value} (hg : wr.grownBy w' v.ownBlock) (ho : w'.ownsRow w0.heap.size mt 3 v' n' os') (hv : ∀ g, v'.ownBlock = some g → v.ownBlock = some g ∨ wr.heap.size ≤ g) : RTake w0 w' fp b N fp' P v' n' os' := by
  refine ⟨h.raw.keep fun k hk => hg.block k (h.raw.low k hk) fun e => h.a3 k e.symm hk, ho, fun k e hk => ?_, ?_, h.from_⟩
  · rcases hv _ e with h1 | h1
    · exact h.a3 k h1 hk
    · have := h.raw.low k hk; omega
  · refine ⟨hg.os.trans h.touch.os, hg.tape.trans h.touch.tape, hg.output.trans h.touch.output, Nat.le_trans h.touch.size hg.size, fun k hk hn => ?_⟩
    rw [hg.block k (Nat.lt_of_lt_of_le hk h.touch.size) (fun e => by have := (own_base_w h.out k e.symm).1; omega)]
    exact h.touch.block k hk hn
theorem RTake.back (h : RTake w0 wr fp b N fp' P v n os) {fp2 : List Nat} {P2 : List Tl} (hr : RefRaw w' b fp2 N P2) (ht : Touch fp' wr w') (hf : From fp' fp2 wr) : RTake w0 w' fp b N fp2 P2 v n os := by
  refine ⟨hr, ownsRow_keepR h.out fun k e => ht.block k (own_base_w h.out k e).2 (h.a3 k e), fun k e hin => ?_, h.touch.trans ht h.from_, h.from_.trans hf h.touch.size⟩
  rcases hf _ hin with h1 | h1
  · exact h.a3 k e h1
  · have := (own_base_w h.out k e).2; omega
end
theorem at_newR (w : World) (cs : List Value) (t : TypeId) : At (w.alloc (.cells cs.toArray t)) (some ⟨w.heap.size, 0, none⟩) cs :=
  Or.inr ⟨w.heap.size, 0, rfl, fun i v h => by rw [Nat.zero_add, (Blk.new w cs.toArray t).cell]; exact h⟩
theorem rangeP {w : World} {g o : Nat} {P : List Tl} (h : At w (some ⟨g, o, none⟩) (pms P)) {q : Nat} {y : Tl} (hq : P[q]? = some y) : w.rangeAt g (o + q * 3) (mc y.m) := fun j v hv => by
  obtain ⟨hql, he⟩ := List.getElem?_eq_some_iff.1 hq
  have hj : j < 3 := by have := (List.getElem?_eq_some_iff.1 hv).1; simpa using this
  rcases h with h | ⟨b, off, e, hc⟩
  · have := pms_len P; rw [h] at this; simp at this; omega
  · cases e
    rw [Nat.add_assoc]
    refine hc _ v ?_
    rw [wflat_get (P.map fun z : Tl => z.m) q (by simpa using hql) j hj, List.getElem_map, he]
    exact hv
/-- A count stored. -/
theorem RefRaw.setT {w : World} {b N q : Nat} {fp : List Nat} {P : List Tl} (h : RefRaw w b fp N P) {y : Tl} (hy : P[q]? = some y) (x : Tl) (hx : x.m = y.m) :
    ∃ g c, w.cell? ⟨b, 2, none⟩ = some (.slice (some ⟨g, 0, none⟩) P.length c) ∧ w.cell? ⟨g, q, none⟩ = some (.int .i64 (y.t : Int)) ∧ w.frozen? ⟨g, q, none⟩ = false ∧ RefRaw (w.setCell ⟨g, q, none⟩ (.int .i64 (x.t : Int))) b fp N (P.set q x) ∧ Touch fp w (w.setCell ⟨g, q, none⟩ (.int .i64 (x.t : Int))) := by
  obtain ⟨hq, he⟩ := List.getElem?_eq_some_iff.1 hy
  obtain ⟨vL, vT, rfl, hb, hL, hT, h1, h2, h3⟩ := h
  obtain ⟨g, c, rest, hv, _, hle, hmx, hk, hl, hl2⟩ := own_whole hT (by omega)
  subst hv
  have hgb : g ≠ b := fun e => h2 (by rw [e]; rfl)
  have hqc : (pts P ++ rest)[q]? = some (.int .i64 (y.t : Int)) := by
    rw [List.getElem?_append_left (by rw [pts_len]; exact hq), List.getElem?_map, hy]; rfl
  have hset : (pts P ++ rest).set q (.int .i64 (x.t : Int)) = pts (P.set q x) ++ rest := by
    rw [List.set_append_left _ _ (by rw [pts_len]; exact hq), pts, pts, List.map_set]
  have hmap : (P.set q x).map (fun z : Tl => z.m) = P.map fun z : Tl => z.m := by
    refine List.ext_getElem (by simp) fun i h1 h2 => ?_
    rw [List.getElem_map, List.getElem_map, List.getElem_set]
    split
    · next e => subst e; rw [he]; exact hx
    · rfl
  have hms : pms (P.set q x) = pms P := congrArg (fun z => List.flatMap mc z) hmap
  have hk2 := hk.set q (.int .i64 (x.t : Int))
  rw [hset] at hk2
  have hL2 : (w.setCell ⟨g, q, none⟩ (.int .i64 (x.t : Int))).ownsRow 0 mt 3 vL (P.set q x).length (pms (P.set q x)) := by
    rw [List.length_set, hms]
    exact ownsRow_keepR hL fun k e => Below.heap_setCell _ _ _ _ (fun e2 => h3 k e (by rw [show k = g from e2]; rfl))
  have hT2 : (w.setCell ⟨g, q, none⟩ (.int .i64 (x.t : Int))).ownsRow 0 it 1 (.slice (some ⟨g, 0, none⟩) P.length c) (P.set q x).length (pts (P.set q x)) := by
    rw [List.length_set]
    exact own_ofBlk (Nat.zero_le _) hk2 hle hmx (by rw [pts_len, List.length_set]; omega) (by rw [← hset, List.length_set]; exact hl2)
  exact ⟨g, c, hb.cell 2, by rw [hk.cell]; exact hqc, hk.free q, ⟨vL, .slice (some ⟨g, 0, none⟩) P.length c, rfl, hb.setOther _ _ (fun e => hgb e.symm), hL2, hT2, h1, h2, h3⟩, (Touch.refl _ _).setIn (by simp [Value.ownBlock]) _⟩
section
attribute [local go_sem ↓] execOp_loadM execOp_storeM execOp_eqlM execOp_buildM
set_option maxRecDepth 100000 in
set_option maxHeartbeats 8000000 in
theorem rgtake_any (b : Nat) (fp : List Nat) (N : Nat) (l : List Tl) (n : Int) (w : World) (h : RGRep w b fp (N, l)) (hn : -9223372036854775808 ≤ n ∧ n ≤ 9223372036854775807) :
    Calls Try.prog 12 #[optr b, v64 n] w (GTakeDone RGRep b fp N l n w) := by
  obtain ⟨P0, hp0, hr0, hok⟩ := h
  have hok : Gs.OK N l := hok
  have hp0 : P0.Perm l := hp0
  have hr0 : RefRaw w b fp N P0 := hr0
  have HOK := Lib.hid hok
  have hl21 := Gs.lim_le hok.n2
  have hl64 : l.length ≤ 64 := Nat.le_trans hok.len hok.n2
  have T0 := Lib.hid (show RTake w w fp b N fp P0 (.slice none 0 0) 0 [] from ⟨hr0, World.ownsRow_nil _ _ _ _, (fun k e => by cases e), Touch.refl _ _, From.refl _ _⟩)
  have K0 := Lib.hid (Gs.TkAt.zero (N := N) hp0)
  have HTL := Lib.hid (Gs.told_len l n)
  have hcn := Gs.cnt_le n l.length
  have hcd : ∀ j : Nat, j < Gs.cnt n l.length ↔ ((j : Int) < n ∧ j < 16) ∧ j < l.length := fun j => by unfold Gs.cnt; omega
  obtain ⟨c, hc⟩ : ∃ c, c = Gs.cnt n l.length := ⟨_, rfl⟩
  rw [← hc] at HTL hcn hcd
  have HC := Lib.hid hc
  obtain ⟨ll, hll⟩ : ∃ y, y = l.length := ⟨_, rfl⟩
  rw [← hll] at hl64 hcn hcd
  have HLL := Lib.hid hll
  have HCD := Lib.hid hcd
  obtain ⟨hcn1, hcn2⟩ := hcn
  obtain ⟨L, hL⟩ : ∃ L, L = Gs.lim N := ⟨_, rfl⟩
  have HLM := Lib.hid (fun W vs (hb : Blk W b (v64 N :: vs) rgt) => (show Calls Try.prog 19 #[optr b] W (GQDone (v64 (Gs.lim N)) W) from (rlim_raw b N vs W hb hok.n2).mono (by rintro e w' ⟨rfl, rfl⟩; exact ⟨rfl, 0, rfl⟩)))
  have HTO := Lib.hid (show Gs.told l n = (l.take (Gs.cnt n l.length)).map (·.m) from rfl)
  rw [← HC.out] at HTO
  rw [← hL] at HLM hl21
  have HL := Lib.hid hL
  clear hp0 hr0 hok hc hll hL hcd
  go_enter Try.func12, Try.ntmps12
  go_wp2_with fail
  go_loopw [5] (fun v wr => ∃ (j : Nat) (fp' : List Nat) (P : List Tl), j ≤ c ∧ Hid (Gs.TkAt N l j P) ∧ Hid (RTake w wr fp b N fp' P v j (((l.take j).map (·.m)).flatMap mc)) ∧ Hid (∃ p cc, v = .slice p j cc)) (fun v _ => c - (match v with | .slice _ j _ => j | _ => 0))
  case atStart => exact ⟨0, fp, P0, by omega, K0, T0, Lib.hid ⟨none, 0, rfl⟩⟩
  case round =>
    clear T0 K0
    obtain ⟨j, fp', P, hj, HK, T, HV⟩ := hrel
    obtain ⟨p, cc, hv⟩ := HV.out
    subst hv
    clear HV
    have hcdj := HCD.out j
    have RET := Lib.hid (fun W (hT : RTake w W fp b N fp' P (.slice p j cc) j (((l.take j).map (·.m)).flatMap mc)) (e : j = c) => (show GTakeDone RGRep b fp N l n w (.returned (.slice p j cc)) W from by
      subst e
      refine ⟨_, fp', rfl, ?_, ⟨P, ?_, hT.raw, HOK.out.left n⟩, hT.touch, hT.from_, hT.a3⟩
      · rw [HTL.out, HTO.out]; exact hT.out
      · have h1 := HK.out
        rw [HC.out] at h1
        exact h1.end_))
    by_cases h16 : (j : Int) < n ∧ j < 16
    · have t1 : decide ((j : Int) < n) = true := decide_eq_true h16.1
      have t2 : decide ((j : Int) < 16) = true := decide_eq_true (by omega)
      have t2' : decide (j < 16) = true := decide_eq_true (by omega)
      have hPl := HK.out.len HOK.out
      obtain ⟨p', cc', hvv, m1, m2, hAt, _, _⟩ := own_at_s T.out.out
      cases hvv
      have HF := Lib.hid (first_any b fp' N P ((l.take j).map (·.m)) j p cc wr T.out.raw (HK.out.ids HOK.out) (by omega) (by rw [List.length_map, List.length_take, ← HLL.out]; omega) hAt m1 m2)
      unfold maxLen at m2
      clear hAt
      go_wp2_with fail
      refine HF.out.mono ?_
      rintro e w1 ⟨r, rfl, hf, hb⟩
      have T1 := Lib.hid (T.out.on hb)
      have HFS := Lib.hid hf
      clear hb T HF hf
      by_cases hjl : j < ll
      · have hjl2 : j < l.length := by rw [← HLL.out]; exact hjl
        obtain ⟨q, hr, hq⟩ := HK.out.next HOK.out hjl2 HFS.out
        subst hr
        have hql := (List.getElem?_eq_some_iff.1 hq).1
        have hxt := (HOK.out.may l[j] (List.getElem_mem hjl2)).2.2
        rw [← HL.out] at hxt
        have HT2 := Lib.hid (show l.take (j + 1) = l.take j ++ [l[j]] from List.take_succ_eq_append_getElem hjl2)
        have HBK := Lib.hid (fun h => HK.out.back hjl2 hq h)
        have HGN := Lib.hid (fun h x => HK.out.gone hjl2 hq h x)
        rw [← HL.out] at HBK HGN
        have HQ := Lib.hid hq
        generalize l[j] = x at *
        have t3 : decide ((q : Int) < 0) = false := decide_eq_false (by omega)
        obtain ⟨qL, cL, qT, cT, hb1, hAL, hAT, l1, l2, l3, l4⟩ := T1.out.raw.cells
        unfold maxLen at l2 l4
        obtain ⟨gL, oL, rfl, _⟩ := hAL.addr (by rw [pms_len]; omega)
        have c1 : w1.cell? ⟨b, 1, none⟩ = some (.slice (some ⟨gL, oL, none⟩) P.length cL) := hb1.cell 1
        have hrg : w1.rangeAt gL (oL + q * 3) (mc x.m) := rangeP hAL hq
        have lm := run_loadM hrg
        have cB := run_buildM1 w1 x.m
        have HAT := Lib.hid (show At (w1.alloc (.cells (mc x.m).toArray mt)) (some ⟨w1.heap.size, 0, none⟩) (mc x.m) from at_newR w1 (mc x.m) mt)
        have T2 := Lib.hid (T1.out.on ((Below.refl _ _).alloc (Nat.le_refl _) (.cells (mc x.m).toArray mt)))
        obtain ⟨nP, hnP⟩ : ∃ y, y = P.length := ⟨_, rfl⟩
        rw [← hnP] at c1 hPl hql l1 l3
        have HNP := Lib.hid hnP
        have jn : (0 : Int) ≤ (q : Int) ∧ (q : Int) < (nP : Int) := by omega
        clear hb1 hAL hAT hrg hnP T1 HFS HK hq
        generalize w1.alloc (.cells (mc x.m).toArray mt) = w2 at *
        go_wp2_with (refine wpList_app_s rfl _ _ 35 rfl w.heap.size mt (z := .agg #[.int .i64 0, .int .i64 0, .int .i64 0]) (by decide) Try.underlying35 mem_info rfl _ j _ rfl T2.out.out _ 1 1 (mc x.m) rfl HAT.out rfl (fun h => by cases h) (Nat.le_refl _) (wflat_one [x.m]) (by omega) (by unfold maxLen; omega) T2.out.touch.size ?_; intro v7 w7 hv7 hg7 hb7; have T3 := Lib.hid (T2.out.app hg7 hv7 hb7); clear hv7 hg7 hb7 T2 HAT lm cB c1; obtain ⟨p7, cc7, hv7, _, _, _, _, _⟩ := own_at_s T3.out.out; subst hv7; obtain ⟨gT, cT2, k2, kq, kf, R8, O8⟩ := T3.out.raw.setT HQ.out ⟨x.m, x.t + 1⟩ rfl; have T8 := Lib.hid (T3.out.back R8 O8 (From.refl _ _)); rw [← HNP.out] at k2; have i1 : IntKind.i64.wrap ((x.t : Int) + 1) = (x.t : Int) + 1 := IntWalk.i64_in _ (by omega); clear R8 O8 T3)
        have HOS := Lib.hid (show ((l.take j).map (·.m)).flatMap mc ++ mc x.m = ((l.take (j + 1)).map (·.m)).flatMap mc from by rw [HT2.out]; simp)
        rw [HOS.out] at T8
        clear HOS HT2 k2 kq kf
        rw [show ((x.t + 1 : Nat) : Int) = (x.t : Int) + 1 from rfl] at T8
        generalize w7.setCell ⟨gT, q, none⟩ (.int .i64 ((x.t : Int) + 1)) = w8 at *
        have HP2 := Lib.hid (show (P.set q ⟨x.m, x.t + 1⟩).length = nP from by rw [List.length_set, HNP.out])
        have HX2 := Lib.hid (show (P.set q ⟨x.m, x.t + 1⟩)[q]? = some ⟨x.m, x.t + 1⟩ from by rw [List.getElem?_set_self (by rw [← HNP.out]; exact hql)])
        have HGN2 := Lib.hid (fun h => HGN.out h ⟨x.m, x.t + 1⟩)
        clear HGN HQ HNP
        generalize P.set q ⟨x.m, x.t + 1⟩ = P2 at *
        obtain ⟨qL2, cL2, qT2, cT3, hb8, _, hAT8, _, _, l5, l6⟩ := T8.out.raw.cells
        rw [HP2.out] at hb8 l5
        unfold maxLen at l6
        obtain ⟨g8, o8, rfl, hc8⟩ := hAT8.addr (by rw [pts_len, HP2.out]; omega)
        have c8 : w8.cell? ⟨b, 2, none⟩ = some (.slice (some ⟨g8, o8, none⟩) nP cT3) := hb8.cell 2
        have c9 : w8.cell? ⟨g8, o8 + q, none⟩ = some (.int .i64 ((x.t : Int) + 1)) := hc8 q _ (by rw [List.getElem?_map, HX2.out]; rfl)
        have QL := Lib.hid (fun kk => HLM.out (w8.drewN kk) _ (hb8.drewN kk))
        clear hb8 hAT8 hc8
        go_quiet ((go_at_call 19; refine Calls.quiet_of (QL.out _)))
        have T9 := Lib.hid (T8.out.on (below_drewN (Below.refl _ _) nq))
        clear T8 c8 c9 QL
        generalize w8.drewN nq = w9 at *
        by_cases hput : x.t + 1 < L
        · have t9 : decide ((L : Int) ≤ (x.t : Int) + 1) = false := decide_eq_false (by omega)
          have K9 := Lib.hid (HBK.out hput)
          clear HBK HGN2 hput
          rw [t9]
          go_wp2_with fail
          go_roundw
          case rel => exact ⟨j + 1, fp', P2, by omega, K9, T9, Lib.hid ⟨_, _, rfl⟩⟩
          case measure => simp; omega
        · have t9 : decide ((L : Int) ≤ (x.t : Int) + 1) = true := decide_eq_true (by omega)
          have K9 := Lib.hid (HGN2.out hput)
          have HW := Lib.hid (without_any b fp' N P2 q w9 T9.out.raw (by rw [HP2.out]; omega) (by rw [HP2.out]; omega))
          clear HBK HGN2 hput
          rw [t9]
          go_wp2_with fail
          refine HW.out.mono ?_
          rintro e w10 ⟨rfl, fp2, hr, ht, hf⟩
          have T10 := Lib.hid (T9.out.back hr ht hf)
          clear hr ht hf HW T9
          go_wp2_with fail
          go_roundw
          case rel => exact ⟨j + 1, fp2, P2.eraseIdx q, by omega, K9, T10, Lib.hid ⟨_, _, rfl⟩⟩
          case measure => simp; omega
      · obtain rfl : j = c := by omega
        have hr := HK.out.none (by rw [← HLL.out]; omega) HFS.out
        subst hr
        have HR := Lib.hid (RET.out w1 T1.out rfl)
        clear RET T1 HK HFS
        go_wp2_with fail
        go_ret
        exact HR.out
    · obtain rfl : j = c := by omega
      have HR := Lib.hid (RET.out wr T.out rfl)
      clear RET T HK
      by_cases h1 : (j : Int) < n
      · have t1 : decide ((j : Int) < n) = true := decide_eq_true h1
        have t2 : decide ((j : Int) < 16) = false := decide_eq_false (by omega)
        clear h16
        go_wp2_with fail
        go_ret
        exact HR.out
      · have t1 : decide ((j : Int) < n) = false := decide_eq_false h1
        clear h16
        go_wp2_with fail
        go_ret
        exact HR.out
end
end Go.Proofs.Ytgohapbobbkaeaa
