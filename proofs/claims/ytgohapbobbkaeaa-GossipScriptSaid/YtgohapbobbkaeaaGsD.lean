/-
  What Take cuts out of the line, and what it keeps to on its way through it.
-/
import Derived.Test.YtgohapbobbkaeaaGsC
namespace Go.Proofs.Ytgohapbobbkaeaa
set_option linter.unusedSimpArgs false
set_option linter.unusedVariables false
open Go.RowKit Sha
/-- The first k taken out: where they lie, and the rest. -/
def CutT (b : Nat) (fp : List Nat) (N : Nat) (l : List Tl) (k : Nat) (w : World) (e : Ending) (w' : World) : Prop :=
  ∃ q c, e = .returned (.slice q k c) ∧ At w' q ((l.take k).flatMap tc) ∧ k ≤ c ∧ c ≤ maxLen ∧ GRep w' b fp (N, l.drop k) ∧ Touch fp w w' ∧ ∀ a, q = some a → a.block ∉ fp ∧ w.heap.size ≤ a.block ∧ a.block < w'.heap.size
theorem cutT_any (b : Nat) (fp : List Nat) (N : Nat) (l : List Tl) (n z : Int) (w : World) (h : GRep w b fp (N, l)) (hz : z = min n 16) (hn : -9223372036854775808 ≤ n ∧ n ≤ 9223372036854775807) :
    Calls Try.prog 29 #[lpt b, .int .i64 0, .int .i64 z] w (CutT b fp N l (Gs.cnt n l.length) w) := by
  have hl64 : l.length ≤ 64 := Nat.le_trans h.2.len h.2.n2
  have hk : Gs.cnt n l.length = min z.toNat l.length := by unfold Gs.cnt; rw [hz]
  by_cases h0 : Gs.cnt n l.length = 0
  · have := cut_none b fp (optr b) (v64 N) l 0 z w h.line (by omega) (by omega) (by omega) (by omega)
    refine this.mono ?_
    rintro e w' ⟨rfl, rfl⟩
    rw [h0]
    exact ⟨none, 0, rfl, .inl rfl, by omega, by unfold maxLen; omega, by simpa using h, Touch.refl _ _, fun a e => by cases e⟩
  · have := cut_any b fp (optr b) (v64 N) l 0 (Gs.cnt n l.length) z w h.line (by omega) (by
      by_cases hzl : z ≤ l.length
      · exact .inl ⟨hzl, by omega⟩
      · exact .inr ⟨by omega, by omega⟩) (by omega)
    refine this.mono ?_
    rintro e w' ⟨v, rfl, ho, hr, ht⟩
    obtain ⟨q, c, rfl, hle, hm, hA, _, hnil⟩ := own_at_s ho
    refine ⟨q, c, by simp, by simpa using hA, by omega, hm, ⟨by simpa using hr, h.2.sub (List.drop_sublist _ _)⟩, ht, fun a e => ?_⟩
    have h1 := own_base_w ho a.block (by rw [e]; rfl)
    refine ⟨fun hin => ?_, h1⟩
    have := gHeld.low h _ hin
    omega
/-- Half way: the words told so far, what is left in the buffer, and the row of what was taken. -/
structure TakeIn (w0 wr : World) (fp : List Nat) (b N : Nat) (fp' : List Nat) (l : List Tl) (q : Option Addr) (cs : List Value) (v : Value) (n : Nat) (os : List Value) : Prop where
  rep : GRep wr b fp' (N, l)
  row : At wr q cs
  out : wr.ownsRow w0.heap.size mt 3 v n os
  a1 : ∀ a, q = some a → a.block ∉ fp' ∧ v.ownBlock ≠ some a.block ∧ a.block < wr.heap.size
  a3 : ∀ k, v.ownBlock = some k → k ∉ fp'
  touch : Touch fp w0 wr
  from_ : From fp fp' w0
section
variable {w0 wr w' : World} {fp fp' : List Nat} {b N n : Nat} {l : List Tl} {q : Option Addr} {cs os : List Value} {v : Value}
theorem TakeIn.on (h : TakeIn w0 wr fp b N fp' l q cs v n os) (hb : Below wr.heap.size wr w') : TakeIn w0 w' fp b N fp' l q cs v n os :=
  ⟨gHeld.on h.rep hb, h.row.blocks fun a e => hb.block _ (h.a1 a e).2.2, ownsRow_upon h.out hb, fun a e => ⟨(h.a1 a e).1, (h.a1 a e).2.1, Nat.lt_of_lt_of_le (h.a1 a e).2.2 hb.size⟩, h.a3, h.touch.trans (Touch.of_below (fp := fp) hb) (From.refl _ _), h.from_⟩
/-- A word more is told. -/
theorem TakeIn.app (h : TakeIn w0 wr fp b N fp' l q cs v n os) {v' : Value} {n' : Nat} {os' : List Value} (hg : wr.grownBy w' v.ownBlock) (ho : w'.ownsRow w0.heap.size mt 3 v' n' os') (hv : ∀ g, v'.ownBlock = some g → v.ownBlock = some g ∨ wr.heap.size ≤ g) : TakeIn w0 w' fp b N fp' l q cs v' n' os' := by
  refine ⟨gHeld.keep h.rep fun k hk => hg.block k (gHeld.low h.rep k hk) fun e => h.a3 k e.symm hk, h.row.blocks fun a e => hg.block _ (h.a1 a e).2.2 fun e2 => (h.a1 a e).2.1 e2.symm, ho, fun a e => ⟨(h.a1 a e).1, fun e2 => ?_, Nat.lt_of_lt_of_le (h.a1 a e).2.2 hg.size⟩, fun k e hk => ?_, ?_, h.from_⟩
  · rcases hv _ e2 with h1 | h1
    · exact (h.a1 a e).2.1 h1
    · have := (h.a1 a e).2.2; omega
  · rcases hv _ e with h1 | h1
    · exact h.a3 k h1 hk
    · have := gHeld.low h.rep k hk; omega
  · refine ⟨hg.os.trans h.touch.os, hg.tape.trans h.touch.tape, hg.output.trans h.touch.output, Nat.le_trans h.touch.size hg.size, fun k hk hn => ?_⟩
    rw [hg.block k (Nat.lt_of_lt_of_le hk h.touch.size) (fun e => by have := (own_base_w h.out k e.symm).1; omega)]
    exact h.touch.block k hk hn
/-- A cell that is nobody's is stored. -/
theorem TakeIn.setNew (h : TakeIn w0 wr fp b N fp' l q cs v n os) {g i : Nat} (u : Value) (hg : w0.heap.size ≤ g) (h1 : g ∉ fp') (h2 : ∀ a, q = some a → a.block ≠ g) (h3 : v.ownBlock ≠ some g) : TakeIn w0 (wr.setCell ⟨g, i, none⟩ u) fp b N fp' l q cs v n os := by
  have hk : ∀ k, k ≠ g → (wr.setCell ⟨g, i, none⟩ u).heap[k]? = wr.heap[k]? := fun k e => Below.heap_setCell _ _ _ _ e
  refine ⟨gHeld.keep h.rep fun k e => hk k fun e2 => h1 (e2 ▸ e), h.row.blocks fun a e => hk _ (h2 a e), ownsRow_keep h.out fun k e => hk k fun e2 => h3 (e2 ▸ e), fun a e => ⟨(h.a1 a e).1, (h.a1 a e).2.1, ?_⟩, h.a3, h.touch.setNew hg u, h.from_⟩
  have := (Below.setCell (Below.refl g wr) (p := ⟨g, i, none⟩) (Nat.le_refl _) u).size
  exact Nat.lt_of_lt_of_le (h.a1 a e).2.2 this
/-- A telling goes back. -/
theorem TakeIn.back (h : TakeIn w0 wr fp b N fp' l q cs v n os) {fp2 : List Nat} {l2 : List Tl} (hr : LineRep w' b fp2 (optr b) (v64 N) l2) (hok : Gs.OK N l2) (ht : Touch fp' wr w') (hf : From fp' fp2 wr) : TakeIn w0 w' fp b N fp2 l2 q cs v n os := by
  refine ⟨⟨hr, hok⟩, h.row.blocks fun a e => ht.block _ (h.a1 a e).2.2 (h.a1 a e).1, ownsRow_keep h.out fun k e => ht.block k (own_base_w h.out k e).2 (h.a3 k e), fun a e => ⟨fun hin => ?_, (h.a1 a e).2.1, Nat.lt_of_lt_of_le (h.a1 a e).2.2 ht.size⟩, fun k e hin => ?_, h.touch.trans ht h.from_, h.from_.trans hf h.touch.size⟩
  · rcases hf _ hin with h1 | h1
    · exact (h.a1 a e).1 h1
    · have := (h.a1 a e).2.2; omega
  · rcases hf _ hin with h1 | h1
    · exact h.a3 k e h1
    · have := (own_base_w h.out k e).2; omega
end
end Go.Proofs.Ytgohapbobbkaeaa
