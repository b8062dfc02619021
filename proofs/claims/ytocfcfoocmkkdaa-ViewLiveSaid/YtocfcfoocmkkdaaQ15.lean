/-
  What the law ViewOrder rests on: a row of words that may be turned; cuts; merges into nothing.
-/
import Derived.Test.YtocfcfoocmkkdaaQ13
import Derived.Test.YtocfcfoocmkkdaaQ14
import Derived.Test.YtocfcfoocmkkdaaQ11
import Derived.Laws.Slices
namespace Go.Proofs.Ytocfcfoocmkkdaa
section
set_option linter.unusedSimpArgs false
set_option linter.unusedVariables false
open Go.RowKit Sha
namespace Vw
theorem put_top_nil {l : List Mb} (hf : Fine l) : Top (· ∈ l) (put [] l) := by
  have h := Top.nil.put (words := l) hf
  exact h.cover (fun x hx => hx.elim (fun h => h.elim) id) (fun y hy => ⟨y, Or.inr hy, rfl, fun u => Mb.up_not u u⟩)
structure Ordered (l T : List Mb) (m : Nat) : Prop where
  okF : Ok (put [] (T.take m))
  okS : Ok (put [] (T.drop m))
  fineF : Fine (T.take m)
  fineS : Fine (T.drop m)
  both : put (put [] (T.take m)) (put [] (T.drop m)) = put [] l
  back : put (put [] (T.drop m)) (put [] (T.take m)) = put [] l
theorem ordered {l T : List Mb} (hf : Fine l) (hT : ∀ x, x ∈ T ↔ x ∈ l) (m : Nat) : Ordered l T m := by
  have f1 : Fine (T.take m) := fun x hx => hf x ((hT x).1 (List.mem_of_mem_take hx))
  have f2 : Fine (T.drop m) := fun x hx => hf x ((hT x).1 (List.mem_of_mem_drop hx))
  have t0 := put_top_nil hf
  have t1 := put_top_nil f1
  have t2 := put_top_nil f2
  have in1 : ∀ x ∈ put [] (T.take m), x ∈ l := fun x hx => (hT x).1 (List.mem_of_mem_take (t1.sub x hx))
  have in2 : ∀ x ∈ put [] (T.drop m), x ∈ l := fun x hx => (hT x).1 (List.mem_of_mem_drop (t2.sub x hx))
  have mem : ∀ y ∈ l, (∃ x ∈ put [] (T.take m), x.I = y.I ∧ ¬ y.Up x) ∨ (∃ x ∈ put [] (T.drop m), x.I = y.I ∧ ¬ y.Up x) := by
    intro y hy
    have hy := (hT y).2 hy
    rw [← List.take_append_drop m T] at hy
    rcases List.mem_append.1 hy with h | h
    · exact Or.inl (t1.top y h)
    · exact Or.inr (t2.top y h)
  refine ⟨t1.ok, t2.ok, f1, f2, ?_, ?_⟩
  · refine Top.same (S := (· ∈ l)) ((put_top t1.ok t2.ok.1).cover (fun x hx => hx.elim (in1 x) (in2 x)) ?_) t0
    intro y hy
    rcases mem y hy with ⟨x, hx, h1, h2⟩ | ⟨x, hx, h1, h2⟩
    · exact ⟨x, Or.inl hx, h1, h2⟩
    · exact ⟨x, Or.inr hx, h1, h2⟩
  · refine Top.same (S := (· ∈ l)) ((put_top t2.ok t1.ok.1).cover (fun x hx => hx.elim (in2 x) (in1 x)) ?_) t0
    intro y hy
    rcases mem y hy with ⟨x, hx, h1, h2⟩ | ⟨x, hx, h1, h2⟩
    · exact ⟨x, Or.inr hx, h1, h2⟩
    · exact ⟨x, Or.inl hx, h1, h2⟩
theorem again {l : List Mb} (hf : Fine l) : put (put [] l) l = put [] l := by
  have t0 := put_top_nil hf
  refine Top.same (S := (· ∈ l)) ((put_top t0.ok hf).cover (fun x hx => hx.elim (t0.sub x) id) ?_) t0
  intro y hy
  exact ⟨y, Or.inr hy, rfl, fun u => Mb.up_not u u⟩
end Vw
/-- A merge of words that may be. -/
theorem merge2 (V : ViewOK) (l l' : List Mb) (n m : Nat) (q p : Option Addr) (c d : Nat) (w : World) (hn : l.length = n) (hm : l'.length = m) (hl : GoodW w l q c) (hl' : GoodW w l' p d) (b1 : n ≤ 400) (b2 : m ≤ 400) (ho : Vw.Ok l) (hf : Vw.Fine l') (n1 : Nat) (hn1 : (Vw.put l l').length = n1) :
    Calls Try.prog 10 #[.slice q n c, .slice p m d] w (fun e w' => ∃ q1 c1 q2 c2 n2, e = .returned (.tuple #[.slice q1 n1 c1, .slice q2 n2 c2, .int .i64 0]) ∧ n2 = (Vw.fresh l (Vw.put l l')).length ∧ GoodW w' (Vw.put l l') q1 c1 ∧ n2 ≤ c2 ∧ c2 ≤ 9223372036854775807 ∧ Below w.heap.size w w') := by
  have h := V.merge l l' n m q p c d w hn hm hl hl' b1 b2
  rw [Vw.mrg_ok ho hf] at h
  subst hn1
  refine h.mono ?_
  rintro e w' ⟨ra, rb, rfl, ha, hb, _, hb3⟩
  have t := Vw.put_top ho hf
  obtain ⟨qa, ka, rfl, ga⟩ := own_good ha (fun x hx => (t.ok.1 x hx).ok)
  obtain ⟨qb, kb, rfl, gb⟩ := own_good hb (fun x hx => ((Vw.fresh_ok (v := l) t.ok).1 x hx).ok)
  exact ⟨qa, ka, qb, kb, _, rfl, rfl, ga, gb.le, gb.max, hb3⟩
theorem goodW_none (w : World) : GoodW w [] none 0 := ⟨by simp, At.nil _ _, by simp, by omega, fun _ => rfl⟩
@[irreducible] def sliceV (t : TypeId) (v : Value) (lo hi : Option Value) : Sem Next := do pure (.value (← Instr.sliceAt t v lo hi none))
theorem execOp_sliceV (ρ : Operand → Value) (dst : Option Tmp) (x : Operand) (lo hi : Option Operand) (ty : TypeId) (pos : String) (after : Array Edge) (guard : Option (Nat × Bool)) :
    execOp ρ { dst := dst, op := .slice 22 x lo hi none, type := ty, pos := pos, after := after, guard := guard } = sliceV 22 (ρ x) (lo.map ρ) (hi.map ρ) := by unfold sliceV; rfl
theorem vsize_of (w : World) : (sizeOf mt).run Try.prog w = .ok 3 w := by
  have h := mem_zs
  cases hq : Try.prog.info? mt with
  | none => simp [hq] at h
  | some j => simp [hq] at h; simp [sizeOf, typeInfo, hq, h.2]
theorem velem_of : Try.prog.elem 22 = mt := by simp [Program.elem, Try.underlying22]
theorem cutM_l (p : Option Addr) (len cap k : Nat) (hk : k ≤ len) (hc : len ≤ cap) (w : World) :
    (sliceV 22 (.slice p len cap) (some (.int .i64 k)) none).run Try.prog w = .ok (.value (.slice (if cap = k then p else p.map (·.add (k * 3))) (len - k) (cap - k))) w := by
  have hu' : Try.prog.underlying 22 = some (.slice (Try.prog.elem 22)) := by rw [velem_of]; exact Try.underlying22
  have h : (Instr.sliceAt 22 (.slice p len cap) (some (.int .i64 k)) none none).run Try.prog w = .ok (.slice (if cap = k then p else p.map (·.add (k * 3))) (len - k) (cap - k)) w := by
    rw [run_sliceAt_slice w _ _ _ _ _ hu', run_slice_l w _ p len cap hu' .i64 k (by omega) (by omega), velem_of, vsize_of]
    simp [Result.andThen, sliced]
  unfold sliceV; simp only [Sem.run_bind, h, Result.andThen_ok, Sem.run_pure]
theorem cutM_h (p : Option Addr) (len cap k : Nat) (hk : k ≤ cap) (w : World) :
    (sliceV 22 (.slice p len cap) none (some (.int .i64 k))).run Try.prog w = .ok (.value (.slice p k cap)) w := by
  have hu' : Try.prog.underlying 22 = some (.slice (Try.prog.elem 22)) := by rw [velem_of]; exact Try.underlying22
  have h : (Instr.sliceAt 22 (.slice p len cap) none (some (.int .i64 k)) none).run Try.prog w = .ok (.slice p k cap) w := by
    rw [run_sliceAt_slice w _ _ _ _ _ hu', run_slice_h w _ p len cap hu' .i64 k (by omega) (by omega), velem_of, vsize_of]
    simp [Result.andThen, sliced]
    intro _
    cases p with
    | none => rfl
    | some a => simp [Addr.add]
  unfold sliceV; simp only [Sem.run_bind, h, Result.andThen_ok, Sem.run_pure]
theorem GoodW.take {w : World} {l : List Mb} {q : Option Addr} {c : Nat} (h : GoodW w l q c) (m : Nat) : GoodW w (l.take m) q c := by
  refine ⟨fun x hx => h.ok x (List.mem_of_mem_take hx), ?_, Nat.le_trans (by rw [List.length_take]; omega) h.le, h.max, h.nil⟩
  by_cases h0 : (l.take m).length = 0
  · rw [List.eq_nil_of_length_eq_zero h0]; exact At.nil _ _
  · obtain ⟨b, off, rfl, hc⟩ := h.at_.addr (by rw [wflat_length]; rw [List.length_take] at h0; omega)
    refine Or.inr ⟨b, off, rfl, fun j v hv => hc j v ?_⟩
    rw [← List.take_append_drop m l, List.flatMap_append, List.getElem?_append_left (List.getElem?_eq_some_iff.1 hv).1]; exact hv
theorem GoodW.drop {w : World} {l : List Mb} {q : Option Addr} {c : Nat} (h : GoodW w l q c) (m : Nat) (hm : m ≤ l.length) : GoodW w (l.drop m) (if c = m then q else q.map (·.add (m * 3))) (c - m) := by
  have hle := h.le
  have hmx := h.max
  refine ⟨fun x hx => h.ok x (List.mem_of_mem_drop hx), ?_, by rw [List.length_drop]; omega, by omega, ?_⟩
  · by_cases h0 : (l.drop m).length = 0
    · rw [List.eq_nil_of_length_eq_zero h0]; exact At.nil _ _
    · rw [List.length_drop] at h0
      obtain ⟨b, off, rfl, hc⟩ := h.at_.addr (by rw [wflat_length]; omega)
      rw [if_neg (by omega)]
      refine Or.inr ⟨b, off + m * 3, by simp [Addr.add], fun j v hv => ?_⟩
      rw [Nat.add_assoc]
      refine hc (m * 3 + j) v ?_
      rw [← List.take_append_drop m l, List.flatMap_append, List.getElem?_append_right (by rw [wflat_length, List.length_take]; omega)]
      rw [wflat_length, List.length_take, show m * 3 + j - min m l.length * 3 = j by omega]; exact hv
  · intro hq
    split at hq
    · omega
    · have := h.nil (by cases q with | none => rfl | some a => simp at hq)
      omega
/-- A row of words that may be turned: its block is above B. -/
structure Tr (w : World) (B : Nat) (q : Option Addr) (n c : Nat) (T : List Mb) : Prop where
  good : GoodW w T q c
  len : T.length = n
  blk : 0 < n → ∃ g rest, q = some ⟨g, 0, none⟩ ∧ B ≤ g ∧ Blk w g (T.flatMap mc ++ rest) mt
theorem Tr.of {w : World} {B n : Nat} {v : Value} {T : List Mb} (h : w.ownsRow B mt 3 v n (T.flatMap mc)) (hok : ∀ x ∈ T, x.ok) : ∃ q c, v = .slice q n c ∧ Tr w B q n c T := by
  obtain ⟨q, c, rfl, hg⟩ := own_good h hok
  refine ⟨q, c, rfl, hg, by have := h.1; rw [wflat_length] at this; omega, fun hn => ?_⟩
  obtain ⟨g, cap, rest, hv, hB, _, _, hk⟩ := own_blk_w h hn
  cases hv
  exact ⟨g, rest, rfl, hB, hk⟩
theorem Tr.on {w w' : World} {B n c : Nat} {q : Option Addr} {T : List Mb} (h : Tr w B q n c T) (hb : Below w.heap.size w w') : Tr w' B q n c T := ⟨h.good.below hb, h.len, fun hn => by
  obtain ⟨g, rest, h1, h2, h3⟩ := h.blk hn
  exact ⟨g, rest, h1, h2, h3.upon hb⟩⟩
theorem Tr.at {w : World} {B n c g : Nat} {T : List Mb} (h : Tr w B (some ⟨g, 0, none⟩) n c T) (hn : 0 < n) : B ≤ g ∧ ∃ rest, Blk w g (T.flatMap mc ++ rest) mt := by
  obtain ⟨g', rest, h1, h2, h3⟩ := h.blk hn
  cases h1
  exact ⟨h2, rest, h3⟩
theorem Tr.load {w : World} {B n c g : Nat} {T : List Mb} (h : Tr w B (some ⟨g, 0, none⟩) n c T) (k : Nat) (hk : k < T.length) : (loadM mt (.pointer (some ⟨g, k * 3, none⟩))).run Try.prog w = .ok (.value (mv T[k])) w := by
  obtain ⟨_, rest, h3⟩ := h.at (by rw [← h.len]; omega)
  exact run_loadM (rangeW h3 k hk)
theorem Tr.set {w : World} {B n c g : Nat} {T : List Mb} (h : Tr w B (some ⟨g, 0, none⟩) n c T) (k : Nat) (hk : k < T.length) (x : Mb) (hx : x.ok) : (storeM mt (.pointer (some ⟨g, k * 3, none⟩)) (mv x)).run Try.prog w = .ok .skip (w.setCells g (k * 3) (mc x)) ∧ Tr (w.setCells g (k * 3) (mc x)) B (some ⟨g, 0, none⟩) n c (T.set k x) := by
  obtain ⟨hB, rest, h3⟩ := h.at (by rw [← h.len]; omega)
  have hk3 : k * 3 + 3 ≤ (T.flatMap mc ++ rest).length := by rw [List.length_append, wflat_length]; omega
  have hb : Blk (w.setCells g (k * 3) (mc x)) g ((T.set k x).flatMap mc ++ rest) mt := by
    rw [← wflat_setm T rest k hk x]
    exact ((h3.set (k * 3) _).set (k * 3 + 1) _).set (k * 3 + 1 + 1) _
  refine ⟨?_, ⟨fun y hy => ?_, Or.inr ⟨g, 0, rfl, fun j v hv => by rw [Nat.zero_add, hb.cell, List.getElem?_append_left (List.getElem?_eq_some_iff.1 hv).1]; exact hv⟩, by rw [List.length_set]; exact h.good.le, h.good.max, fun h => by cases h⟩, by rw [List.length_set]; exact h.len, fun _ => ⟨g, rest, rfl, hB, hb⟩⟩
  · have ht : w.there g (k * 3) (mc x).toArray.size := fun j hj => by
      have hj : j < 3 := hj
      exact ⟨by rw [h3.cell, List.getElem?_eq_getElem (by omega)]; rfl, h3.free _⟩
    have hr := run_storeAt_mid (P := Try.prog) w g (k * 3) mt (mc x).toArray ht mem_size (by simp [Value.oneCell'])
    unfold storeM
    simp only [Sem.run_bind]
    rw [show (Instr.storeAt mt (.pointer (some ⟨g, k * 3, none⟩)) (mv x)).run Try.prog w = _ from hr]
    rfl
  · rcases List.mem_or_eq_of_mem_set hy with h1 | h1
    · exact h.good.ok y h1
    · rw [h1]; exact hx
theorem cells_other {g g' : Nat} {t : TypeId} {cs : List Value} (hne : g' ≠ g) : ∀ (vs : List Value) (o : Nat) (w : World), Blk w g' cs t → Blk (w.setCells g o vs) g' cs t
  | [], o, w, h => h
  | v :: r, o, w, h => by rw [World.setCells]; exact cells_other hne r (o + 1) _ (h.setOther ⟨g, o, none⟩ v hne)
theorem swap_mem {l T : List Mb} (h : ∀ x, x ∈ T ↔ x ∈ l) (s r : Nat) (hs : s < T.length) (hr : r < T.length) : ∀ x, x ∈ (T.set s T[r]).set r T[s] ↔ x ∈ l := fun x => by
  rw [← h x]; exact (List.set_set_perm hs hr).mem_iff
end
end Go.Proofs.Ytocfcfoocmkkdaa
