/-
  The law DiskFirm, over what disks are asked to do.
-/
import Derived.Test.YtooljhdfmfkpeaaDkJ
import Derived.Test.YtooljhdfmfkpeaaDkI
import Derived.Test.YtooljhdfmfkpeaaPick
namespace Go.Proofs.Ytooljhdfmfkpeaa
set_option linter.unusedSimpArgs false
set_option linter.unusedVariables false
open Go.RowKit Sha Dsk
/-- The log that the law keeps, behind an act, ahead of a crash's cut. -/
def ghost (s s' : DState) (kd : Int) (zs : List Int) : List Int := if (kd = 0 ∨ kd = 1) ∧ s.log.length < s'.log.length then s.log ++ zs else s.log
theorem act_ok {s : DState} (h : Ok s) (kd num : Int) (zs : List Int) (hz : ∀ n ∈ zs, IsByte n) (hn : fit64 num) : Ok (actS s kd num zs) := by
  unfold actS
  split; exact app_ok h hz
  split; exact sync_ok h
  split; exact next_ok h hz
  split; exact sw_ok h
  split; exact room_ok h num
  split; exact fuse_ok h hn.2
  split; exact crash_ok h num
  split; exact wipe_ok h
  exact h
theorem app_log (s : DState) (zs : List Int) : (appS s zs).log = (if s.log.length < (appS s zs).log.length then s.log ++ zs else s.log) ∧ (appS s zs).firm = s.firm := by
  unfold appS
  split
  · refine ⟨?_, rfl⟩
    simp only [List.length_append]
    split
    · rfl
    · rename_i h
      have : zs = [] := List.eq_nil_of_length_eq_zero (by omega)
      rw [this, List.append_nil]
  · exact ⟨by simp, rfl⟩
theorem firm_act {s : DState} (h : Ok s) (kd num : Int) (zs : List Int) (k4 : kd ≠ 4) (k8 : kd ≠ 8) :
    s.firm ≤ (actS s kd num zs).firm ∧ s.firm ≤ (actS s kd num zs).log.length ∧ (actS s kd num zs).log.length ≤ (ghost s (actS s kd num zs) kd zs).length ∧
      (actS s kd num zs).log = (ghost s (actS s kd num zs) kd zs).take (actS s kd num zs).log.length ∧ (¬ (kd = 7 ∧ 0 ≤ num) → (actS s kd num zs).log = ghost s (actS s kd num zs) kd zs) ∧ (kd = 7 → 0 ≤ num → (actS s kd num zs).firm = (actS s kd num zs).log.length ∧ (actS s kd num zs).out = false) := by
  have hf := h.firm
  have same : ∀ s' : DState, s'.log = s.log → s.firm ≤ s'.firm → kd ≠ 7 → (s.firm ≤ s'.firm ∧ s.firm ≤ s'.log.length ∧ s'.log.length ≤ (ghost s s' kd zs).length ∧ s'.log = (ghost s s' kd zs).take s'.log.length ∧ (¬ (kd = 7 ∧ 0 ≤ num) → s'.log = ghost s s' kd zs) ∧ (kd = 7 → 0 ≤ num → s'.firm = s'.log.length ∧ s'.out = false)) := fun s' hl hfi h7 => by
    have hg : ghost s s' kd zs = s.log := if_neg (by rw [hl]; omega)
    rw [hg, hl]
    exact ⟨hfi, hf, Nat.le_refl _, by simp, fun _ => rfl, fun e => absurd e h7⟩
  by_cases h01 : kd = 0 ∨ kd = 1
  · have e : actS s kd num zs = appS s zs := if_pos h01
    rw [e]
    obtain ⟨h1, h2⟩ := app_log s zs
    have hg : ghost s (appS s zs) kd zs = (appS s zs).log := by
      rw [h1]; unfold ghost
      by_cases hl : s.log.length < (appS s zs).log.length
      · rw [if_pos ⟨h01, hl⟩, if_pos hl]
      · rw [if_neg (fun hh => hl hh.2), if_neg hl]
    rw [hg, h2]
    have h3 : s.log.length ≤ (appS s zs).log.length := by
      rw [h1]; split
      · simp
      · exact Nat.le_refl _
    exact ⟨Nat.le_refl _, by omega, Nat.le_refl _, by simp, fun _ => rfl, fun e => by omega⟩
  · by_cases h7 : kd = 7
    · subst h7
      have e : actS s 7 num zs = crashS s num := by unfold actS; simp
      rw [e]
      by_cases hn : num < 0
      · have e2 : crashS s num = s := if_pos hn
        have hg : ghost s s 7 zs = s.log := if_neg (by omega)
        rw [e2, hg]
        exact ⟨Nat.le_refl _, hf, Nat.le_refl _, by simp, fun _ => rfl, fun _ h => by omega⟩
      · have e2 : crashS s num = { s with log := cut s num.toNat, firm := (cut s num.toNat).length, next := [], left := -1, out := false } := if_neg hn
        have hg : ∀ s', ghost s s' 7 zs = s.log := fun s' => if_neg (by omega)
        rw [hg, e2]
        have hl := cut_len s num.toNat
        refine ⟨by simp only; omega, by simp only; omega, by simp only; omega, ?_, fun h => absurd ⟨rfl, by omega⟩ h, fun _ _ => ⟨rfl, rfl⟩⟩
        simp only
        rw [hl]
        unfold cut
        rw [Nat.min_def]; split
        · rfl
        · rw [List.take_of_length_le (by omega), List.take_length]
    · unfold actS
      rw [if_neg h01]
      split
      · refine same _ ?_ ?_ h7
        · unfold syncS; split; rfl; split <;> rfl
        · unfold syncS; split; exact Nat.le_refl _; split; exact Nat.le_refl _; exact hf
      split
      · refine same _ ?_ ?_ h7
        · unfold nextS; split <;> rfl
        · unfold nextS; split <;> exact Nat.le_refl _
      try rw [if_neg k4]
      split
      · refine same _ ?_ ?_ h7
        · unfold roomS; split <;> rfl
        · unfold roomS; split <;> exact Nat.le_refl _
      split
      · refine same _ ?_ ?_ h7
        · unfold fuseS; split <;> rfl
        · unfold fuseS; split <;> exact Nat.le_refl _
      try rw [if_neg h7, if_neg k8]
      exact same _ rfl (Nat.le_refl _) h7
/-- An object, and bytes of the call's own that are not the object's. -/
structure KeptD (R : DiskRep) (w0 w : World) (b : Nat) (fp : List Nat) (s : DState) (B : Nat) (v : Value) (l : List Int) : Prop where
  solo : Solo R w0 w b fp s
  row : w.ownsRow B 5 1 v l.length (l.map v8)
  out : ∀ g, v.ownBlock = some g → g ∉ fp
theorem KeptD.step {R : DiskRep} {w0 w w' : World} {b : Nat} {fp fp' : List Nat} {s s' : DState} {B : Nat} {v : Value} {l : List Int} (h : KeptD R w0 w b fp s B v l) (hr : R w' b fp' s') (ht : Touch fp w w') (hf : From fp fp' w) : KeptD R w0 w' b fp' s' B v l :=
  ⟨h.solo.step hr ht hf, row_blocks8 h.row fun g e => ht.block g (h.row.lt g e).2 (h.out g e), fun g hg e => by rcases hf g e with h' | h'; exact h.out g hg h'; have := (h.row.lt g hg).2; omega⟩
theorem KeptD.on {R : DiskRep} (K : Held R) {w0 w w' : World} {b : Nat} {fp : List Nat} {s : DState} {B : Nat} {v : Value} {l : List Int} (h : KeptD R w0 w b fp s B v l) (hb : Below w.heap.size w w') : KeptD R w0 w' b fp s B v l :=
  ⟨h.solo.on K hb, row_blocks8 h.row fun g e => hb.block g (h.row.lt g e).2, h.out⟩
/-- And an act's box. -/
structure KeptB (R : DiskRep) (w0 w : World) (b : Nat) (fp : List Nat) (s : DState) (B : Nat) (v : Value) (l : List Int) (g : Nat) (cs : List Value) : Prop where
  kept : KeptD R w0 w b fp s B v l
  box : Blk w g cs 34
  o1 : g ∉ fp
  o2 : v.ownBlock ≠ some g
section
variable {R : DiskRep} {w0 w w' : World} {b : Nat} {fp fp' : List Nat} {s s' : DState} {B : Nat} {v : Value} {l : List Int} {g : Nat} {cs : List Value}
theorem KeptB.step (h : KeptB R w0 w b fp s B v l g cs) (hr : R w' b fp' s') (ht : Touch fp w w') (hf : From fp fp' w) : KeptB R w0 w' b fp' s' B v l g cs :=
  ⟨h.kept.step hr ht hf, (ht.block g h.box.lt h.o1).trans h.box, fun e => by rcases hf g e with h' | h'; exact h.o1 h'; have := h.box.lt; omega, h.o2⟩
theorem KeptB.on (K : Held R) (h : KeptB R w0 w b fp s B v l g cs) (hb : Below w.heap.size w w') : KeptB R w0 w' b fp s B v l g cs := ⟨h.kept.on K hb, h.box.below hb h.box.lt, h.o1, h.o2⟩
theorem KeptB.see (K : Held R) (h : KeptB R w0 w b fp s B v l g cs) {P : Program} {f : Nat} {args : Array Value} {z : Value} (hc : Calls P f args w (QDone z w)) : Calls P f args w (fun e w' => e = .returned z ∧ KeptB R w0 w' b fp s B v l g cs) :=
  hc.mono fun _ _ ⟨he, k, hw⟩ => ⟨he, by rw [hw]; exact h.on K (below_drewN (Below.refl _ _) k)⟩
/-- More bytes of the call's own. -/
theorem KeptB.grow (K : Held R) (h : KeptB R w0 w b fp s B v l g cs) {v' : Value} {zs : List Int} {m : Nat} (hm : m = l.length + zs.length) (ho : w'.ownsRow B 5 1 v' m (l.map v8 ++ zs.map v8)) (hg : w.grownBy w' v.ownBlock) (hp : ∀ g, v'.ownBlock = some g → v.ownBlock = some g ∨ w.heap.size ≤ g) (hB : w0.heap.size ≤ B) : KeptB R w0 w' b fp s B v' (l ++ zs) g cs := by
  have hv : ∀ k, v.ownBlock = some k → w0.heap.size ≤ k := fun k hk => Nat.le_trans hB (h.kept.row.lt k hk).1
  have hb : Below w0.heap.size w w' := ⟨hg.os, hg.tape, hg.output, hg.size, fun k hk => hg.block k (Nat.lt_of_lt_of_le hk h.kept.solo.below.size) fun e => by have := hv k e.symm; omega⟩
  refine ⟨⟨⟨K.keep h.kept.solo.one fun k hk => hg.block k (K.low h.kept.solo.one k hk) fun e => h.kept.out k e.symm hk, h.kept.solo.new, h.kept.solo.below.trans hb⟩, by rw [List.length_append, List.map_append, ← hm]; exact ho, fun k hk e => ?_⟩, (hg.block g h.box.lt fun e => h.o2 e.symm).trans h.box, h.o1, fun e => ?_⟩
  · rcases hp k hk with h' | h'
    · exact h.kept.out k h' e
    · have := K.low h.kept.solo.one k e; omega
  · rcases hp g e with h' | h'
    · exact h.o2 h'
    · have := h.box.lt; omega
end
/-- A row cut at its front. -/
theorem run_cut_row {w : World} {B n : Nat} {v : Value} {xs : List Value} (h : w.ownsRow B 5 1 v n xs) (m : Nat) (hm : m ≤ n) :
    ∃ V, (∀ w', (Instr.sliceAt 32 v none (some (.int .i64 m)) none).run Try.prog w' = .ok V w') ∧ w.ownsRow B 5 1 V m (xs.take m) ∧ V.ownBlock = v.ownBlock := by
  rcases h.2 with ⟨rfl, rfl⟩ | ⟨g, cap, cur, rfl, hB, hh, h1, h2, h3, h4⟩
  · obtain rfl : m = 0 := by omega
    refine ⟨.slice none 0 0, fun w' => ?_, by simpa using World.ownsRow_nil _ _ _ _, rfl⟩
    rw [run_cut_h 32 5 none 0 0 Try.underlying32 kslice1 .i64 ((0 : Nat) : Int) (by omega) (by omega)]
    simp [cutV]
  · refine ⟨.slice (some ⟨g, 0, none⟩) m cap, fun w' => ?_, row_take h m hm, rfl⟩
    rw [run_cut_h 32 5 (some ⟨g, 0, none⟩) n cap Try.underlying32 kslice1 .i64 (m : Int) (by omega) (by omega)]
    simp [cutV]
    intro _; rfl
theorem wpList_slice {P : Program} {ops : Array Oper} {rest : List Oper} {o : Oper} {a : Act} {w : World} {Q : Exit → Act → World → Prop} (hgd : o.guard = none) (t : TypeId) (x : Operand) (lo hi mx : Option Operand) (ho : o.op = .slice t x lo hi mx) (V : Value) (hr : ∀ w, (Instr.sliceAt t (a.eval x) (lo.map a.eval) (hi.map a.eval) (mx.map a.eval)).run P w = .ok V w) (h : wpList P ops Q rest (a.put o.dst V) w) : wpList P ops Q (o :: rest) a w := by
  refine wpList_plain hgd fun K hK => ?_
  unfold Oper.wp execOp
  simp only [ho, Sem.run_bind, hr, Result.andThen_ok, Sem.run_pure]
  exact hK _ _ h
end Go.Proofs.Ytooljhdfmfkpeaa
