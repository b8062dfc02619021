/-
  A state's object: five rows of the call's own (written by mkso9.py).
  The program's release: those blobs go from which something was taken, and which nothing needs any more.
-/
import Derived.Test.YtokpabkcaofahaaGreatPb32
import Derived.Test.YtokpabkcaofahaaGreatPb13
namespace Go.Proofs.YtokpabkcaofahaaGreat
section
set_option linter.unusedSimpArgs false
set_option linter.unusedVariables false
open Go.RowKit Sha Fct
def rowT (t : TypeId) : Prop := t = 93 ∨ t = 95 ∨ t = 97 ∨ t = 62 ∨ t = 73
/-- A block that a state's object may change: its own, and rows. -/
def Own9 (w : World) (B g k : Nat) : Prop := k = g ∨ (B ≤ k ∧ ∃ cs t fz, w.heap[k]? = some (.cells cs t fz) ∧ rowT t)
theorem rowT_ne {t : TypeId} (h : rowT t) : t ≠ 5 ∧ t ≠ 47 := by rcases h with rfl | rfl | rfl | rfl | rfl <;> decide
theorem chg9_trans {B g : Nat} {X : Nat → Prop} {a b c : World} (h : Chg (fun k => Own9 a B g k ∨ X k) a b) (k : Chg (fun k => Own9 b B g k ∨ X k) b c) : Chg (fun k => Own9 a B g k ∨ X k) a c :=
  ⟨k.os.trans h.os, k.tape.trans h.tape, k.output.trans h.output, Nat.le_trans h.size k.size, fun j hj hn => by
    have e := h.block j hj hn
    refine (k.block j (Nat.lt_of_lt_of_le hj h.size) fun hc => hn ?_).trans e
    rcases hc with (hc | ⟨h1, cs, t, fz, h2, h3⟩) | hc
    · exact Or.inl (Or.inl hc)
    · exact Or.inl (Or.inr ⟨h1, cs, t, fz, by rw [← e]; exact h2, h3⟩)
    · exact Or.inr hc⟩
section
variable {V : Type} {S : Shp V} {w w' : World} {Q : Nat → Prop}
theorem Rws.chg {t : TypeId} {B : Nat} {v : Value} {ys : List (Hd V)} (h : Rws S t w B v ys) (hg : Chg Q w w') (hq : ∀ k cs fz t', w.heap[k]? = some (.cells cs t' fz) → (t' = t ∨ t' = 5) → ¬ Q k) : Rws S t w' B v ys := by
  have h8 : ∀ g cs, Blk w g cs 5 → Blk w' g cs 5 := fun g cs hk => hg.blk hk (hq g _ _ _ hk (Or.inr rfl))
  refine ⟨?_, fun y hy => ⟨good_blk (h.good y hy).1 (h.good y hy).2 h8, (h.good y hy).2.on h8⟩⟩
  obtain ⟨h0, h1⟩ := h.own
  refine ⟨h0, ?_⟩
  rcases h1 with h1 | ⟨g, cap, cur, hv, hB, hh, hr⟩
  · exact Or.inl h1
  · exact Or.inr ⟨g, cap, cur, hv, hB, (hg.block g (Array.getElem?_eq_some_iff.1 hh).1 (hq g _ _ _ hh (Or.inl rfl))).trans hh, hr⟩
theorem Rws.lo {t : TypeId} {B : Nat} {v : Value} {ys : List (Hd V)} (h : Rws S t w B v ys) {k : Nat} (hk : v.ownBlock = some k) : B ≤ k := (h.own.lt k hk).1
end
structure Rows9 where
  vb : Value
  vk : Value
  vh : Value
  vv : Value
  vd : Value
  yb : List (Hd (Fct.Id × List Int))
  yk : List (Hd (Int × Fct.Id))
  yh : List (Hd (Int × Int × Fct.Id))
  yv : List (Hd Vot)
  yd : List (Hd (Int × List Int))
def ocells (s : Ste) (r : Rows9) : List Value := [.bool s.born, i64c s.boot, r.vb, r.vk, r.vh, r.vv, r.vd]
structure StO (w : World) (B g : Nat) (s : Ste) (r : Rows9) : Prop where
  blk : Blk w g (ocells s r) 47
  lo : B ≤ g
  b : Rws sB 93 w B r.vb r.yb
  be : r.yb.map (·.1) = s.blobs
  k : Rws sK 95 w B r.vk r.yk
  ke : r.yk.map (·.1) = s.keeps
  h : Rws sH 97 w B r.vh r.yh
  he : r.yh.map (·.1) = s.hints
  v : Rws sV 62 w B r.vv r.yv
  ve : r.yv.map (·.1) = s.votes
  d : Rws sD 73 w B r.vd r.yd
  de : r.yd.map (·.1) = s.decs
variable {w w' : World} {B g : Nat} {s : Ste} {r : Rows9}
theorem StO.chg {Q : Nat → Prop} (h : StO w B g s r) (hc : Chg Q w w') (hq : ∀ k cs fz t, w.heap[k]? = some (.cells cs t fz) → (rowT t ∨ t = 5 ∨ t = 47) → ¬ Q k) : StO w' B g s r :=
  ⟨hc.blk h.blk (hq _ _ _ _ h.blk (Or.inr (Or.inr rfl))), h.lo,h.b.chg hc (fun k cs fz t hk ht => hq k cs fz t hk (ht.elim (fun e => Or.inl (by rw [e]; unfold rowT; simp)) (fun e => Or.inr (Or.inl e)))), h.be, h.k.chg hc (fun k cs fz t hk ht => hq k cs fz t hk (ht.elim (fun e => Or.inl (by rw [e]; unfold rowT; simp)) (fun e => Or.inr (Or.inl e)))), h.ke, h.h.chg hc (fun k cs fz t hk ht => hq k cs fz t hk (ht.elim (fun e => Or.inl (by rw [e]; unfold rowT; simp)) (fun e => Or.inr (Or.inl e)))), h.he, h.v.chg hc (fun k cs fz t hk ht => hq k cs fz t hk (ht.elim (fun e => Or.inl (by rw [e]; unfold rowT; simp)) (fun e => Or.inr (Or.inl e)))), h.ve, h.d.chg hc (fun k cs fz t hk ht => hq k cs fz t hk (ht.elim (fun e => Or.inl (by rw [e]; unfold rowT; simp)) (fun e => Or.inr (Or.inl e)))), h.de⟩
theorem StO.below (h : StO w B g s r) (hb : Below w.heap.size w w') : StO w' B g s r := h.chg (Q := fun _ => False) ⟨hb.os, hb.tape, hb.output, hb.size, fun k hk _ => hb.block k hk⟩ (fun _ _ _ _ _ _ e => e)
/-- The blobs change. -/
theorem StO.setB {X : Nat → Prop} (h : StO w B g s r) {w1 : World} (hX : ∀ k, X k → IsMapB w k) (hc : Chg (fun k => r.vb.ownBlock = some k ∨ X k) w w1) {v' : Value} {zs : List (Hd _)} (hr : Rws sB 93 w1 B v' zs) :
    StO (w1.setCell ⟨g, 2, none⟩ v') B g { s with blobs := zs.map (·.1) } { r with vb := v', yb := zs } ∧ Chg (fun k => Own9 w B g k ∨ X k) w (w1.setCell ⟨g, 2, none⟩ v') := by
  have hno : ∀ k cs fz t, w.heap[k]? = some (.cells cs t fz) → t ≠ 93 → ¬ (r.vb.ownBlock = some k ∨ X k) := by
    rintro k cs fz t hk ht (e | e)
    · obtain ⟨c2, f2, h2⟩ := RowTy.of h.b.own k e
      rw [hk] at h2; simp at h2; exact ht h2.2.1
    · obtain ⟨es, cl, h2⟩ := hX k e
      rw [hk] at h2; cases h2
  have hb1 : Blk w1 g (ocells s r) 47 := hc.blk h.blk (hno _ _ _ _ h.blk (by decide))
  have hc2 : Chg (fun k => k = g) w1 (w1.setCell ⟨g, 2, none⟩ v') := by
    have h2 := setCells_grown w1 g 2 [v']
    exact (Chg.refl _ w1).grown h2 fun k hk _ => by cases hk; rfl
  have hn2 : ∀ k cs fz t, w1.heap[k]? = some (.cells cs t fz) → t ≠ 47 → ¬ k = g := by
    rintro k cs fz t hk ht rfl
    unfold Blk at hb1
    rw [hk] at hb1; simp at hb1; exact ht hb1.2.1
  refine ⟨⟨hb1.set 2 v', h.lo, hr.chg hc2 (fun k cs fz t hk ht => hn2 k cs fz t hk (by rcases ht with rfl | rfl <;> decide)), rfl, (h.k.chg hc (fun k cs fz t hk ht => hno k cs fz t hk (by rcases ht with rfl | rfl <;> decide))).chg hc2 (fun k cs fz t hk ht => hn2 k cs fz t hk (by rcases ht with rfl | rfl <;> decide)), h.ke, (h.h.chg hc (fun k cs fz t hk ht => hno k cs fz t hk (by rcases ht with rfl | rfl <;> decide))).chg hc2 (fun k cs fz t hk ht => hn2 k cs fz t hk (by rcases ht with rfl | rfl <;> decide)), h.he, (h.v.chg hc (fun k cs fz t hk ht => hno k cs fz t hk (by rcases ht with rfl | rfl <;> decide))).chg hc2 (fun k cs fz t hk ht => hn2 k cs fz t hk (by rcases ht with rfl | rfl <;> decide)), h.ve, (h.d.chg hc (fun k cs fz t hk ht => hno k cs fz t hk (by rcases ht with rfl | rfl <;> decide))).chg hc2 (fun k cs fz t hk ht => hn2 k cs fz t hk (by rcases ht with rfl | rfl <;> decide)), h.de⟩, ⟨?_, ?_, ?_, ?_, ?_⟩⟩
  · exact hc2.os.trans hc.os
  · exact hc2.tape.trans hc.tape
  · exact hc2.output.trans hc.output
  · exact Nat.le_trans hc.size hc2.size
  · intro k hk hn
    refine (hc2.block k (Nat.lt_of_lt_of_le hk hc.size) fun e => hn (Or.inl (Or.inl e))).trans (hc.block k hk ?_)
    rintro (e | e)
    · obtain ⟨c2, f2, h2⟩ := RowTy.of h.b.own k e
      exact hn (Or.inl (Or.inr ⟨h.b.lo e, c2, _, f2, h2, by unfold rowT; simp⟩))
    · exact hn (Or.inr e)
/-- The keeps change. -/
theorem StO.setK {X : Nat → Prop} (h : StO w B g s r) {w1 : World} (hX : ∀ k, X k → IsMapB w k) (hc : Chg (fun k => r.vk.ownBlock = some k ∨ X k) w w1) {v' : Value} {zs : List (Hd _)} (hr : Rws sK 95 w1 B v' zs) :
    StO (w1.setCell ⟨g, 3, none⟩ v') B g { s with keeps := zs.map (·.1) } { r with vk := v', yk := zs } ∧ Chg (fun k => Own9 w B g k ∨ X k) w (w1.setCell ⟨g, 3, none⟩ v') := by
  have hno : ∀ k cs fz t, w.heap[k]? = some (.cells cs t fz) → t ≠ 95 → ¬ (r.vk.ownBlock = some k ∨ X k) := by
    rintro k cs fz t hk ht (e | e)
    · obtain ⟨c2, f2, h2⟩ := RowTy.of h.k.own k e
      rw [hk] at h2; simp at h2; exact ht h2.2.1
    · obtain ⟨es, cl, h2⟩ := hX k e
      rw [hk] at h2; cases h2
  have hb1 : Blk w1 g (ocells s r) 47 := hc.blk h.blk (hno _ _ _ _ h.blk (by decide))
  have hc2 : Chg (fun k => k = g) w1 (w1.setCell ⟨g, 3, none⟩ v') := by
    have h2 := setCells_grown w1 g 3 [v']
    exact (Chg.refl _ w1).grown h2 fun k hk _ => by cases hk; rfl
  have hn2 : ∀ k cs fz t, w1.heap[k]? = some (.cells cs t fz) → t ≠ 47 → ¬ k = g := by
    rintro k cs fz t hk ht rfl
    unfold Blk at hb1
    rw [hk] at hb1; simp at hb1; exact ht hb1.2.1
  refine ⟨⟨hb1.set 3 v', h.lo, (h.b.chg hc (fun k cs fz t hk ht => hno k cs fz t hk (by rcases ht with rfl | rfl <;> decide))).chg hc2 (fun k cs fz t hk ht => hn2 k cs fz t hk (by rcases ht with rfl | rfl <;> decide)), h.be, hr.chg hc2 (fun k cs fz t hk ht => hn2 k cs fz t hk (by rcases ht with rfl | rfl <;> decide)), rfl, (h.h.chg hc (fun k cs fz t hk ht => hno k cs fz t hk (by rcases ht with rfl | rfl <;> decide))).chg hc2 (fun k cs fz t hk ht => hn2 k cs fz t hk (by rcases ht with rfl | rfl <;> decide)), h.he, (h.v.chg hc (fun k cs fz t hk ht => hno k cs fz t hk (by rcases ht with rfl | rfl <;> decide))).chg hc2 (fun k cs fz t hk ht => hn2 k cs fz t hk (by rcases ht with rfl | rfl <;> decide)), h.ve, (h.d.chg hc (fun k cs fz t hk ht => hno k cs fz t hk (by rcases ht with rfl | rfl <;> decide))).chg hc2 (fun k cs fz t hk ht => hn2 k cs fz t hk (by rcases ht with rfl | rfl <;> decide)), h.de⟩, ⟨?_, ?_, ?_, ?_, ?_⟩⟩
  · exact hc2.os.trans hc.os
  · exact hc2.tape.trans hc.tape
  · exact hc2.output.trans hc.output
  · exact Nat.le_trans hc.size hc2.size
  · intro k hk hn
    refine (hc2.block k (Nat.lt_of_lt_of_le hk hc.size) fun e => hn (Or.inl (Or.inl e))).trans (hc.block k hk ?_)
    rintro (e | e)
    · obtain ⟨c2, f2, h2⟩ := RowTy.of h.k.own k e
      exact hn (Or.inl (Or.inr ⟨h.k.lo e, c2, _, f2, h2, by unfold rowT; simp⟩))
    · exact hn (Or.inr e)
/-- The hints change. -/
theorem StO.setH {X : Nat → Prop} (h : StO w B g s r) {w1 : World} (hX : ∀ k, X k → IsMapB w k) (hc : Chg (fun k => r.vh.ownBlock = some k ∨ X k) w w1) {v' : Value} {zs : List (Hd _)} (hr : Rws sH 97 w1 B v' zs) :
    StO (w1.setCell ⟨g, 4, none⟩ v') B g { s with hints := zs.map (·.1) } { r with vh := v', yh := zs } ∧ Chg (fun k => Own9 w B g k ∨ X k) w (w1.setCell ⟨g, 4, none⟩ v') := by
  have hno : ∀ k cs fz t, w.heap[k]? = some (.cells cs t fz) → t ≠ 97 → ¬ (r.vh.ownBlock = some k ∨ X k) := by
    rintro k cs fz t hk ht (e | e)
    · obtain ⟨c2, f2, h2⟩ := RowTy.of h.h.own k e
      rw [hk] at h2; simp at h2; exact ht h2.2.1
    · obtain ⟨es, cl, h2⟩ := hX k e
      rw [hk] at h2; cases h2
  have hb1 : Blk w1 g (ocells s r) 47 := hc.blk h.blk (hno _ _ _ _ h.blk (by decide))
  have hc2 : Chg (fun k => k = g) w1 (w1.setCell ⟨g, 4, none⟩ v') := by
    have h2 := setCells_grown w1 g 4 [v']
    exact (Chg.refl _ w1).grown h2 fun k hk _ => by cases hk; rfl
  have hn2 : ∀ k cs fz t, w1.heap[k]? = some (.cells cs t fz) → t ≠ 47 → ¬ k = g := by
    rintro k cs fz t hk ht rfl
    unfold Blk at hb1
    rw [hk] at hb1; simp at hb1; exact ht hb1.2.1
  refine ⟨⟨hb1.set 4 v', h.lo, (h.b.chg hc (fun k cs fz t hk ht => hno k cs fz t hk (by rcases ht with rfl | rfl <;> decide))).chg hc2 (fun k cs fz t hk ht => hn2 k cs fz t hk (by rcases ht with rfl | rfl <;> decide)), h.be, (h.k.chg hc (fun k cs fz t hk ht => hno k cs fz t hk (by rcases ht with rfl | rfl <;> decide))).chg hc2 (fun k cs fz t hk ht => hn2 k cs fz t hk (by rcases ht with rfl | rfl <;> decide)), h.ke, hr.chg hc2 (fun k cs fz t hk ht => hn2 k cs fz t hk (by rcases ht with rfl | rfl <;> decide)), rfl, (h.v.chg hc (fun k cs fz t hk ht => hno k cs fz t hk (by rcases ht with rfl | rfl <;> decide))).chg hc2 (fun k cs fz t hk ht => hn2 k cs fz t hk (by rcases ht with rfl | rfl <;> decide)), h.ve, (h.d.chg hc (fun k cs fz t hk ht => hno k cs fz t hk (by rcases ht with rfl | rfl <;> decide))).chg hc2 (fun k cs fz t hk ht => hn2 k cs fz t hk (by rcases ht with rfl | rfl <;> decide)), h.de⟩, ⟨?_, ?_, ?_, ?_, ?_⟩⟩
  · exact hc2.os.trans hc.os
  · exact hc2.tape.trans hc.tape
  · exact hc2.output.trans hc.output
  · exact Nat.le_trans hc.size hc2.size
  · intro k hk hn
    refine (hc2.block k (Nat.lt_of_lt_of_le hk hc.size) fun e => hn (Or.inl (Or.inl e))).trans (hc.block k hk ?_)
    rintro (e | e)
    · obtain ⟨c2, f2, h2⟩ := RowTy.of h.h.own k e
      exact hn (Or.inl (Or.inr ⟨h.h.lo e, c2, _, f2, h2, by unfold rowT; simp⟩))
    · exact hn (Or.inr e)
/-- The votes change. -/
theorem StO.setV {X : Nat → Prop} (h : StO w B g s r) {w1 : World} (hX : ∀ k, X k → IsMapB w k) (hc : Chg (fun k => r.vv.ownBlock = some k ∨ X k) w w1) {v' : Value} {zs : List (Hd _)} (hr : Rws sV 62 w1 B v' zs) :
    StO (w1.setCell ⟨g, 5, none⟩ v') B g { s with votes := zs.map (·.1) } { r with vv := v', yv := zs } ∧ Chg (fun k => Own9 w B g k ∨ X k) w (w1.setCell ⟨g, 5, none⟩ v') := by
  have hno : ∀ k cs fz t, w.heap[k]? = some (.cells cs t fz) → t ≠ 62 → ¬ (r.vv.ownBlock = some k ∨ X k) := by
    rintro k cs fz t hk ht (e | e)
    · obtain ⟨c2, f2, h2⟩ := RowTy.of h.v.own k e
      rw [hk] at h2; simp at h2; exact ht h2.2.1
    · obtain ⟨es, cl, h2⟩ := hX k e
      rw [hk] at h2; cases h2
  have hb1 : Blk w1 g (ocells s r) 47 := hc.blk h.blk (hno _ _ _ _ h.blk (by decide))
  have hc2 : Chg (fun k => k = g) w1 (w1.setCell ⟨g, 5, none⟩ v') := by
    have h2 := setCells_grown w1 g 5 [v']
    exact (Chg.refl _ w1).grown h2 fun k hk _ => by cases hk; rfl
  have hn2 : ∀ k cs fz t, w1.heap[k]? = some (.cells cs t fz) → t ≠ 47 → ¬ k = g := by
    rintro k cs fz t hk ht rfl
    unfold Blk at hb1
    rw [hk] at hb1; simp at hb1; exact ht hb1.2.1
  refine ⟨⟨hb1.set 5 v', h.lo, (h.b.chg hc (fun k cs fz t hk ht => hno k cs fz t hk (by rcases ht with rfl | rfl <;> decide))).chg hc2 (fun k cs fz t hk ht => hn2 k cs fz t hk (by rcases ht with rfl | rfl <;> decide)), h.be, (h.k.chg hc (fun k cs fz t hk ht => hno k cs fz t hk (by rcases ht with rfl | rfl <;> decide))).chg hc2 (fun k cs fz t hk ht => hn2 k cs fz t hk (by rcases ht with rfl | rfl <;> decide)), h.ke, (h.h.chg hc (fun k cs fz t hk ht => hno k cs fz t hk (by rcases ht with rfl | rfl <;> decide))).chg hc2 (fun k cs fz t hk ht => hn2 k cs fz t hk (by rcases ht with rfl | rfl <;> decide)), h.he, hr.chg hc2 (fun k cs fz t hk ht => hn2 k cs fz t hk (by rcases ht with rfl | rfl <;> decide)), rfl, (h.d.chg hc (fun k cs fz t hk ht => hno k cs fz t hk (by rcases ht with rfl | rfl <;> decide))).chg hc2 (fun k cs fz t hk ht => hn2 k cs fz t hk (by rcases ht with rfl | rfl <;> decide)), h.de⟩, ⟨?_, ?_, ?_, ?_, ?_⟩⟩
  · exact hc2.os.trans hc.os
  · exact hc2.tape.trans hc.tape
  · exact hc2.output.trans hc.output
  · exact Nat.le_trans hc.size hc2.size
  · intro k hk hn
    refine (hc2.block k (Nat.lt_of_lt_of_le hk hc.size) fun e => hn (Or.inl (Or.inl e))).trans (hc.block k hk ?_)
    rintro (e | e)
    · obtain ⟨c2, f2, h2⟩ := RowTy.of h.v.own k e
      exact hn (Or.inl (Or.inr ⟨h.v.lo e, c2, _, f2, h2, by unfold rowT; simp⟩))
    · exact hn (Or.inr e)
/-- The decs change. -/
theorem StO.setD {X : Nat → Prop} (h : StO w B g s r) {w1 : World} (hX : ∀ k, X k → IsMapB w k) (hc : Chg (fun k => r.vd.ownBlock = some k ∨ X k) w w1) {v' : Value} {zs : List (Hd _)} (hr : Rws sD 73 w1 B v' zs) :
    StO (w1.setCell ⟨g, 6, none⟩ v') B g { s with decs := zs.map (·.1) } { r with vd := v', yd := zs } ∧ Chg (fun k => Own9 w B g k ∨ X k) w (w1.setCell ⟨g, 6, none⟩ v') := by
  have hno : ∀ k cs fz t, w.heap[k]? = some (.cells cs t fz) → t ≠ 73 → ¬ (r.vd.ownBlock = some k ∨ X k) := by
    rintro k cs fz t hk ht (e | e)
    · obtain ⟨c2, f2, h2⟩ := RowTy.of h.d.own k e
      rw [hk] at h2; simp at h2; exact ht h2.2.1
    · obtain ⟨es, cl, h2⟩ := hX k e
      rw [hk] at h2; cases h2
  have hb1 : Blk w1 g (ocells s r) 47 := hc.blk h.blk (hno _ _ _ _ h.blk (by decide))
  have hc2 : Chg (fun k => k = g) w1 (w1.setCell ⟨g, 6, none⟩ v') := by
    have h2 := setCells_grown w1 g 6 [v']
    exact (Chg.refl _ w1).grown h2 fun k hk _ => by cases hk; rfl
  have hn2 : ∀ k cs fz t, w1.heap[k]? = some (.cells cs t fz) → t ≠ 47 → ¬ k = g := by
    rintro k cs fz t hk ht rfl
    unfold Blk at hb1
    rw [hk] at hb1; simp at hb1; exact ht hb1.2.1
  refine ⟨⟨hb1.set 6 v', h.lo, (h.b.chg hc (fun k cs fz t hk ht => hno k cs fz t hk (by rcases ht with rfl | rfl <;> decide))).chg hc2 (fun k cs fz t hk ht => hn2 k cs fz t hk (by rcases ht with rfl | rfl <;> decide)), h.be, (h.k.chg hc (fun k cs fz t hk ht => hno k cs fz t hk (by rcases ht with rfl | rfl <;> decide))).chg hc2 (fun k cs fz t hk ht => hn2 k cs fz t hk (by rcases ht with rfl | rfl <;> decide)), h.ke, (h.h.chg hc (fun k cs fz t hk ht => hno k cs fz t hk (by rcases ht with rfl | rfl <;> decide))).chg hc2 (fun k cs fz t hk ht => hn2 k cs fz t hk (by rcases ht with rfl | rfl <;> decide)), h.he, (h.v.chg hc (fun k cs fz t hk ht => hno k cs fz t hk (by rcases ht with rfl | rfl <;> decide))).chg hc2 (fun k cs fz t hk ht => hn2 k cs fz t hk (by rcases ht with rfl | rfl <;> decide)), h.ve, hr.chg hc2 (fun k cs fz t hk ht => hn2 k cs fz t hk (by rcases ht with rfl | rfl <;> decide)), rfl⟩, ⟨?_, ?_, ?_, ?_, ?_⟩⟩
  · exact hc2.os.trans hc.os
  · exact hc2.tape.trans hc.tape
  · exact hc2.output.trans hc.output
  · exact Nat.le_trans hc.size hc2.size
  · intro k hk hn
    refine (hc2.block k (Nat.lt_of_lt_of_le hk hc.size) fun e => hn (Or.inl (Or.inl e))).trans (hc.block k hk ?_)
    rintro (e | e)
    · obtain ⟨c2, f2, h2⟩ := RowTy.of h.d.own k e
      exact hn (Or.inl (Or.inr ⟨h.d.lo e, c2, _, f2, h2, by unfold rowT; simp⟩))
    · exact hn (Or.inr e)
end
section
set_option linter.unusedSimpArgs false
set_option linter.unusedVariables false
open Go.RowKit Sha Fct
attribute [local go_sem ↓] execOp_loadId execOp_loadOK execOp_allocOK execOp_storeOK execOp_loadOH execOp_allocOH execOp_storeOH
/-- Is a blob let go? -/
def goesB (S : List Fct.Id) (x : Fct.Id × List Int) : Bool := decide (x.1 ∈ S)
theorem prdB (gb mb : Nat) (S : List Fct.Id) (ys : List (Hd (Fct.Id × List Int))) (hok : ∀ y ∈ ys, sB.ok y.1) : PrdB mb (.pointer (some ⟨gb, 0, none⟩)) (goesB S) ys (fun w _ => Takn w mb S ∧ Blk w gb [.map (some mb)] 215) where
  call w k hk h := (rl1_any _ _ _ (hok _ (List.getElem_mem hk)) gb mb S w h.2 h.1).mono (by
    rintro e w' ⟨rfl, hb⟩
    exact ⟨rfl, ⟨h.1.below hb, h.2.below hb h.2.lt⟩, below_grown hb _⟩)
  stays w w' k row h hg hr := ⟨h.1.grown hg hr, blk_grown h.2 hg fun e => by
    obtain ⟨cs, fz, h2⟩ := hr gb e
    have h3 := h.2
    unfold Blk at h3
    rw [h2] at h3; simp at h3⟩
  map w k h := h.1.isMap
def RelP (s : Ste) (S : List Fct.Id) : Ste := { s with blobs := s.blobs.filter fun x => !decide (x.1 ∈ S) || needed s.keeps s.hints x.1 }
def StOP (B g : Nat) (X : Nat → Prop) (t : Ste) (w : World) (e : Ending) (w' : World) : Prop := e = .returned (.tuple #[]) ∧ ∃ r', StO w' B g t r' ∧ Chg (fun k => Own9 w B g k ∨ X k) w w'
theorem chg_map {w w' : World} {B g mb : Nat} {s : Ste} {r : Rows9} (h : StO w B g s r) (hc : Chg (fun k => k = mb) w w') (hm : IsMapB w mb) : StO w' B g s r := h.chg hc fun k cs fz t hk _ e => by
  obtain ⟨es, c, h2⟩ := hm
  subst e
  rw [h2] at hk; cases hk
set_option maxRecDepth 100000 in
set_option maxHeartbeats 4000000 in
theorem release_any (w : World) (B g mb : Nat) (s : Ste) (r : Rows9) (S : List Fct.Id) (h : StO w B g s r) (hT : Takn w mb S) (hn : r.yb.length ≤ 1000000000) (hn1 : r.yk.length ≤ 1000000000) (hn2 : r.yh.length ≤ 1000000000) :
    Calls Tryz.prog 158 #[.pointer (some ⟨g, 0, none⟩), .map (some mb)] w (StOP B g (fun k => k = mb) (RelP s S) w) := by
  obtain ⟨pk, ck, hvk, _⟩ := h.k.told
  obtain ⟨ph, ch, hvh, _⟩ := h.h.told
  obtain ⟨pb, cb, hvb, _⟩ := h.b.told
  obtain ⟨nk, hnk⟩ : ∃ n, n = r.yk.length := ⟨_, rfl⟩
  obtain ⟨nh, hnh⟩ : ∃ n, n = r.yh.length := ⟨_, rfl⟩
  rw [← hnk] at hvk hn1
  rw [← hnh] at hvh hn2
  -- the map in a box
  have hbx := (Below.refl w.heap.size w).alloc (Nat.le_refl _) (.cells #[.map (some mb)] 215)
  have hk1 : Blk (w.alloc (.cells #[.map (some mb)] 215)) w.heap.size [.map (some mb)] 215 := Blk.new w _ _
  have HS := Lib.hid (h.below hbx)
  have HT := Lib.hid (hT.below hbx)
  have HC := Lib.hid (show Chg (fun k => k = mb) w (w.alloc (.cells #[.map (some mb)] 215)) from (Chg.refl _ w).grown (below_grown hbx none) fun k hk => by cases hk)
  have HH := Lib.hid h
  have HM := Lib.hid hT.isMap
  have HNK := Lib.hid hnk
  have HNH := Lib.hid hnh
  have HVK := Lib.hid hvk
  have HVH := Lib.hid hvh
  have HVB := Lib.hid hvb
  have HN := Lib.hid hn
  have cK : (w.alloc (.cells #[.map (some mb)] 215)).cell? ⟨g, 3, none⟩ = some (.slice pk nk ck) := by rw [HS.out.blk.cell 3, ← hvk]; rfl
  have HKB := Lib.hid hk1
  clear h hT hnk hnh hvk hvh hvb hk1 hbx hn
  go_enter Tryz.func158, Tryz.ntmps158
  go_wp2_with fail
  obtain ⟨g3, hg3⟩ : ∃ b, b = w.heap.size := ⟨_, rfl⟩
  rw [← hg3] at HKB ⊢
  clear hg3 cK
  generalize w.alloc (.cells #[.map (some mb)] 215) = w1 at *
  go_loopw [13] (fun i wr => ∃ (a : Nat) (Sa : List Fct.Id), i = .int .i64 a ∧ a ≤ nk ∧ Hid (Takn wr mb Sa) ∧ Hid (∀ d, d ∈ Sa ↔ (d ∈ S ∧ ∀ x ∈ (r.yk.map (·.1)).take a, x.2 ≠ d)) ∧ Hid (Chg (fun k => k = mb) w wr) ∧ Hid (Blk wr g3 [.map (some mb)] 215)) (fun i _ => nk - (intOf i).toNat)
  case atStart => exact ⟨0, S, rfl, by omega, HT, Lib.hid (by intro d; simp), HC, HKB⟩
  case round =>
    obtain ⟨a, Sa, rfl, ha, HTA, HSA, HCA, HKA⟩ := hrel
    have HSO := Lib.hid (chg_map HH.out HCA.out HM.out)
    by_cases han : a < nk
    · have hay : a < r.yk.length := by rw [← HNK.out]; exact han
      obtain ⟨gk, c2, hv, hr⟩ := HSO.out.k.el a hay
      rw [HVK.out] at hv
      have hv2 : pk = some ⟨gk, 0, none⟩ := by injection hv
      subst hv2
      have hoky := HSO.out.k.ok _ (List.getElem_mem hay)
      have hta : (r.yk.map (·.1)).take (a + 1) = (r.yk.map (·.1)).take a ++ [r.yk[a].1] := by
        rw [List.take_succ_eq_append_getElem (by simpa using hay)]; simp
      have HTK := Lib.hid hta
      generalize r.yk[a] = y at *
      have hr2 : wr.rangeAt gk (a * 33) (kcells y.1 y.2.1 y.2.2) := hr
      have l1 := load_OK hoky hr2
      have al := alloc_OK wr
      have sN := storeN_OK wr hoky y.2.1 y.2.2
      have hbk : Blk (wr.alloc (.cells (kcells y.1 y.2.1 y.2.2).toArray 95)) wr.heap.size (kcells y.1 y.2.1 y.2.2) 95 := Blk.new wr _ 95
      have hb2 := (Below.refl wr.heap.size wr).alloc (Nat.le_refl _) (.cells (kcells y.1 y.2.1 y.2.2).toArray 95)
      have HT2 := Lib.hid (HTA.out.below hb2)
      have HC2 := Lib.hid (HCA.out.grown (below_grown hb2 none) fun k hk => by cases hk)
      have hk2 := HKA.out.below hb2 HKA.out.lt
      have HK2 := Lib.hid hk2
      obtain ⟨b0, hb0⟩ : ∃ b, b = wr.heap.size := ⟨_, rfl⟩
      rw [← hb0] at al sN hbk
      have c2' := hk2.cell 0
      have hd := hoky.2
      clear hb0 hr hr2 hv hb2 hk2 hta HTA HCA HKA
      generalize wr.alloc (.cells (kcells (0, Fld.zero32) none 0).toArray 95) = w2 at *
      generalize wr.alloc (.cells (kcells y.1 y.2.1 y.2.2).toArray 95) = w3 at *
      rw [kcells_id] at hbk
      have l2 := load_idr (g := b0) (o := 1) hoky.2.1 (range_mid hbk rfl)
      clear hbk
      have c3 : w3.cell? ⟨g3, 0, none⟩ = some (.map (some mb)) := c2'
      clear c2'
      obtain ⟨w4, dl, hT4, hg4⟩ := HT2.out.drop hd
      have HT4 := Lib.hid hT4
      have HC4 := Lib.hid (HC2.out.grown hg4 fun k hk _ => by cases hk; rfl)
      have HK4 := Lib.hid (blk_grown HK2.out hg4 fun e => isMap_ne HT2.out.isMap HK2.out (by cases e; rfl))
      have hjn2 : (0 : Int) ≤ (a : Int) ∧ (a : Int) < (nk : Int) := by omega
      have HYD := Lib.hid (⟨y, rfl⟩ : ∃ z, z = y)
      clear hT4 hg4 hd hoky
      go_wp2_with (at_builtin; refine delete_law _ rfl (.tmp 17) (.tmp 19) 215 25 rfl _ _ rfl rfl (dl _) ?_)
      go_roundw
      case rel =>
        refine ⟨a + 1, _, by go_num, by omega, HT4, Lib.hid fun d => ?_, HC4, HK4⟩
        rw [HTK.out, List.mem_filter, HSA.out d]
        simp only [List.mem_append, List.mem_singleton, Bool.not_eq_true', decide_eq_false_iff_not]
        constructor
        · rintro ⟨⟨h1, h2⟩, h3⟩
          refine ⟨h1, ?_⟩
          rintro x (hx | rfl)
          · exact h2 x hx
          · exact fun e => h3 e.symm
        · rintro ⟨h1, h2⟩
          exact ⟨⟨h1, fun x hx => h2 x (Or.inl hx)⟩, fun e => h2 _ (Or.inr rfl) e.symm⟩
      case measure => simp [intOf]; omega
    · obtain rfl : a = nk := by omega
      have hall : (r.yk.map (·.1)).take a = s.keeps := by rw [List.take_of_length_le (by rw [List.length_map, HNK.out]; omega)]; exact HH.out.ke
      rw [hall] at HSA
      have cH : wr.cell? ⟨g, 4, none⟩ = some (.slice ph nh ch) := by rw [HSO.out.blk.cell 4, ← HVH.out]; rfl
      clear hall
      go_wp2_with fail
      clear cH
      go_loopw [26] (fun i wr => ∃ (a2 : Nat) (Sb : List Fct.Id), i = .int .i64 a2 ∧ a2 ≤ nh ∧ Hid (Takn wr mb Sb) ∧ Hid (∀ d, d ∈ Sb ↔ (d ∈ Sa ∧ ∀ x ∈ (r.yh.map (·.1)).take a2, x.2.2 ≠ d)) ∧ Hid (Chg (fun k => k = mb) w wr) ∧ Hid (Blk wr g3 [.map (some mb)] 215)) (fun i _ => nh - (intOf i).toNat)
      case atStart => exact ⟨0, Sa, rfl, by omega, HTA, Lib.hid (by intro d; simp), HCA, HKA⟩
      case round =>
        clear HTA HCA HKA HSO
        obtain ⟨a2, Sb, rfl, ha2, HTA, HSB, HCA, HKA⟩ := hrel
        have HSO := Lib.hid (chg_map HH.out HCA.out HM.out)
        by_cases han : a2 < nh
        · have hay : a2 < r.yh.length := by rw [← HNH.out]; exact han
          obtain ⟨gk, c2, hv, hr⟩ := HSO.out.h.el a2 hay
          rw [HVH.out] at hv
          have hv2 : ph = some ⟨gk, 0, none⟩ := by injection hv
          subst hv2
          have hoky := HSO.out.h.ok _ (List.getElem_mem hay)
          have hta : (r.yh.map (·.1)).take (a2 + 1) = (r.yh.map (·.1)).take a2 ++ [r.yh[a2].1] := by
            rw [List.take_succ_eq_append_getElem (by simpa using hay)]; simp
          have HTK := Lib.hid hta
          generalize r.yh[a2] = y at *
          have hr2 : wr.rangeAt gk (a2 * 34) (hcells y.1 y.2.1 y.2.2) := hr
          have l1 := load_OH hoky hr2
          have al := alloc_OH wr
          have sN := storeN_OH wr hoky y.2.1 y.2.2
          have hbk : Blk (wr.alloc (.cells (hcells y.1 y.2.1 y.2.2).toArray 97)) wr.heap.size (hcells y.1 y.2.1 y.2.2) 97 := Blk.new wr _ 97
          have hb2 := (Below.refl wr.heap.size wr).alloc (Nat.le_refl _) (.cells (hcells y.1 y.2.1 y.2.2).toArray 97)
          have HT2 := Lib.hid (HTA.out.below hb2)
          have HC2 := Lib.hid (HCA.out.grown (below_grown hb2 none) fun k hk => by cases hk)
          have hk2 := HKA.out.below hb2 HKA.out.lt
          have HK2 := Lib.hid hk2
          obtain ⟨b0, hb0⟩ : ∃ b, b = wr.heap.size := ⟨_, rfl⟩
          rw [← hb0] at al sN hbk
          have c2' := hk2.cell 0
          have hd := hoky.2.2
          clear hb0 hr hr2 hv hb2 hk2 hta HTA HCA HKA
          generalize wr.alloc (.cells (hcells (0, 0, Fld.zero32) none 0).toArray 97) = w2 at *
          generalize wr.alloc (.cells (hcells y.1 y.2.1 y.2.2).toArray 97) = w3 at *
          rw [hcells_id] at hbk
          have l2 := load_idr (g := b0) (o := 2) hoky.2.2.1 (range_mid hbk rfl)
          clear hbk
          have c3 : w3.cell? ⟨g3, 0, none⟩ = some (.map (some mb)) := c2'
          clear c2'
          obtain ⟨w4, dl, hT4, hg4⟩ := HT2.out.drop hd
          have HT4 := Lib.hid hT4
          have HC4 := Lib.hid (HC2.out.grown hg4 fun k hk _ => by cases hk; rfl)
          have HK4 := Lib.hid (blk_grown HK2.out hg4 fun e => isMap_ne HT2.out.isMap HK2.out (by cases e; rfl))
          have hjn2 : (0 : Int) ≤ (a2 : Int) ∧ (a2 : Int) < (nh : Int) := by omega
          have HYD := Lib.hid (⟨y, rfl⟩ : ∃ z, z = y)
          clear hT4 hg4 hd hoky
          go_wp2_with (at_builtin; refine delete_law _ rfl (.tmp 30) (.tmp 32) 215 25 rfl _ _ rfl rfl (dl _) ?_)
          go_roundw
          case rel =>
            refine ⟨a2 + 1, _, by go_num, by omega, HT4, Lib.hid fun d => ?_, HC4, HK4⟩
            rw [HTK.out, List.mem_filter, HSB.out d]
            simp only [List.mem_append, List.mem_singleton, Bool.not_eq_true', decide_eq_false_iff_not]
            constructor
            · rintro ⟨⟨h1, h2⟩, h3⟩
              refine ⟨h1, ?_⟩
              rintro x (hx | rfl)
              · exact h2 x hx
              · exact fun e => h3 e.symm
            · rintro ⟨h1, h2⟩
              exact ⟨⟨h1, fun x hx => h2 x (Or.inl hx)⟩, fun e => h2 _ (Or.inr rfl) e.symm⟩
          case measure => simp [intOf]; omega
        · obtain rfl : a2 = nh := by omega
          have hall2 : (r.yh.map (·.1)).take a2 = s.hints := by rw [List.take_of_length_le (by rw [List.length_map, HNH.out]; omega)]; exact HH.out.he
          rw [hall2] at HSB
          have hfl : (r.yb.filter fun y => !goesB Sb y.1).map (·.1) = (RelP s S).blobs := by
            show _ = s.blobs.filter _
            rw [← HH.out.be, List.filter_map]
            congr 1
            refine List.filter_congr fun y _ => ?_
            have h1 := HSA.out y.1.1
            have h2 := HSB.out y.1.1
            rw [h1] at h2
            unfold goesB needed
            simp only [Function.comp]
            rw [Bool.eq_iff_iff]
            simp only [Bool.not_eq_true', decide_eq_false_iff_not, Bool.or_eq_true, List.any_eq_true, decide_eq_true_eq, h2]
            constructor
            · intro h3
              rcases Classical.em (y.1.1 ∈ S) with h4 | h4
              · rcases Classical.em (∃ x ∈ s.keeps, x.2 = y.1.1) with h5 | h5
                · exact Or.inr (Or.inl h5)
                · rcases Classical.em (∃ x ∈ s.hints, x.2.2 = y.1.1) with h6 | h6
                  · exact Or.inr (Or.inr h6)
                  · exact absurd ⟨⟨h4, fun x hx e => h5 ⟨x, hx, e⟩⟩, fun x hx e => h6 ⟨x, hx, e⟩⟩ h3
              · exact Or.inl h4
            · rintro (h3 | ⟨x, hx, e⟩ | ⟨x, hx, e⟩) ⟨⟨h4, h5⟩, h6⟩
              · exact h3 h4
              · exact h5 x hx e
              · exact h6 x hx e
          have HFL := Lib.hid hfl
          have cB : wr.cell? ⟨g, 2, none⟩ = some (.slice pb r.yb.length cb) := by rw [HSO.out.blk.cell 2, ← HVB.out]; rfl
          have hrb := HSO.out.b
          rw [HVB.out] at hrb
          have HDL := Lib.hid (del_B mb (.pointer (some ⟨g3, 0, none⟩)) (goesB Sb) r.yb (fun w _ => Takn w mb Sb ∧ Blk w g3 [.map (some mb)] 215) (prdB g3 mb Sb r.yb HSO.out.b.ok) wr B (.slice pb r.yb.length cb) hrb ⟨HTA.out, HKA.out⟩ HN.out)
          obtain ⟨nb, hnb⟩ : ∃ n, n = r.yb.length := ⟨_, rfl⟩
          rw [← hnb] at cB HDL
          have HNB := Lib.hid hnb
          clear hall2 hfl hrb hnb
          go_wp2_with fail
          refine HDL.out.mono ?_
          rintro e w5 ⟨v', rfl, hr5, hi5, hc5⟩
          have hc6 : Chg (fun k => r.vb.ownBlock = some k ∨ k = mb) wr w5 := by rw [HVB.out, ← HNB.out]; exact hc5
          have hm : ∀ k, k = mb → IsMapB wr k := fun k e => by rw [e]; exact HTA.out.isMap
          obtain ⟨hs6, hk6⟩ := HSO.out.setB (X := fun k => k = mb) hm hc6 hr5
          have hb5 : Blk w5 g (ocells s r) 47 := by
            refine hc6.blk HSO.out.blk ?_
            rintro (e | e)
            · obtain ⟨c2, f2, h2⟩ := RowTy.of HSO.out.b.own g e
              have h3 := HSO.out.blk
              unfold Blk at h3
              rw [h3] at h2; simp at h2
            · exact isMap_ne HTA.out.isMap HSO.out.blk e.symm
          have c5 : w5.cell? ⟨g, 2, none⟩ = some r.vb := hb5.cell 2
          obtain ⟨q5, d5, rfl, _⟩ := hr5.told
          generalize (r.yb.filter fun y => !goesB Sb y.1).length = n5 at *
          have f5 := hb5.free 2
          have HS6 := Lib.hid hs6
          have HK6 := Lib.hid hk6
          clear hs6 hk6 hb5 hc6 hm hr5 hi5 hc5
          go_wp2_with fail
          go_end0
          have hs := HS6.out
          rw [HFL.out] at hs
          exact ⟨rfl, _, hs, chg9_trans (HCA.out.mono fun k _ hk => Or.inr hk) HK6.out⟩
end
end Go.Proofs.YtokpabkcaofahaaGreat
