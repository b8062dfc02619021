/-
  What goes through a shape's letters asks of whatever is done with each: a doer. Letters one by one.
-/
import Derived.Test.YtgakmkglejddeaaFldC
import Derived.Test.YtgakmkglejddeaaFldD
import Derived.Test.YtgakmkglejddeaaFld2
import Derived.Deep.LoopGhost
namespace Go.Proofs.Ytgakmkglejddeaa
set_option linter.unusedSimpArgs false
set_option linter.unusedVariables false
open Go.RowKit Sha
/-- Iterators over texts are as they were. -/
def ItersKept (w w' : World) : Prop := ∀ (k : Nat) (s : ByteArray) (p : Nat), w.heap[k]? = some (Obj.stringIter s p) → w'.heap[k]? = some (Obj.stringIter s p)
theorem ItersKept.refl (w : World) : ItersKept w w := fun _ _ _ h => h
theorem ItersKept.trans {a b c : World} (h : ItersKept a b) (k : ItersKept b c) : ItersKept a c := fun i s p hi => k i s p (h i s p hi)
theorem ItersKept.alloc {a w : World} (h : ItersKept a w) (o : Obj) : ItersKept a (w.alloc o) := fun i s p hi => by
  have h1 := h i s p hi
  have hlt : i < w.heap.size := (Array.getElem?_eq_some_iff.1 h1).1
  rw [Below.heap_alloc _ _ _ hlt]; exact h1
/-- .. and none of them is at gi. -/
def ItersBut (gi : Nat) (w w' : World) : Prop := ∀ (k : Nat) (s : ByteArray) (p : Nat), w.heap[k]? = some (Obj.stringIter s p) → k ≠ gi ∧ w'.heap[k]? = some (Obj.stringIter s p)
theorem ItersBut.new {a w : World} (h : ItersKept a w) (o : Obj) : ItersBut w.heap.size a (w.alloc o) := fun i s p hi => by
  have h1 := h i s p hi
  have hlt : i < w.heap.size := (Array.getElem?_eq_some_iff.1 h1).1
  exact ⟨by omega, by rw [Below.heap_alloc _ _ _ hlt]; exact h1⟩
theorem ItersBut.kept {gi : Nat} {a w : World} (h : ItersBut gi a w) : ItersKept a w := fun i s p hi => (h i s p hi).2
theorem ItersBut.move {gi : Nat} {a w : World} (h : ItersBut gi a w) (s : ByteArray) (p : Nat) : ItersBut gi a (w.iterAt gi s p) := fun i s' p' hi => by
  obtain ⟨h1, h2⟩ := h i s' p' hi
  exact ⟨h1, by rw [Lib.iterAt_other _ _ _ _ _ h1]; exact h2⟩
theorem ItersBut.on {gi : Nat} {a w w' : World} (h : ItersBut gi a w) (k : ItersKept w w') : ItersBut gi a w' := fun i s p hi => by
  obtain ⟨h1, h2⟩ := h i s p hi
  exact ⟨h1, k i s p h2⟩
def DDone {σ : Type} (f : Int → σ → σ × Int × Int) (R : σ → World → Prop) (c : Int) (st : σ) (w : World) (e : Ending) (w' : World) : Prop :=
  e = .returned (.tuple #[.int .i64 (f c st).2.1, .int .i64 (f c st).2.2]) ∧ R (f c st).1 w' ∧ ItersKept w w'
structure Doer {σ : Type} (P : Program) (F ga B : Nat) (f : Int → σ → σ × Int × Int) (R : σ → World → Prop) : Prop where
  step : ∀ c st w, Fld.isC c → R st w → Calls P F #[.pointer (some ⟨ga, 0, none⟩), .int .i32 c] w (DDone f R c st w)
  keepA : ∀ st w o, R st w → R st (World.alloc w o)
  keepI : ∀ st (w : World) gi s p p', R st w → B ≤ gi → w.heap[gi]? = some (Obj.stringIter s p) → R st (w.iterAt gi s p')
  base : ∀ st (w : World), R st w → B ≤ w.heap.size
  lim : ∀ c st w, R st w → (f c st).2.1 ≤ 9223372036854775807 ∧ -9223372036854775808 ≤ (f c st).2.1
theorem cells_iterAt {w : World} {k : Nat} {s : ByteArray} {p : Nat} (hk : w.heap[k]? = some (.stringIter s p)) (p' : Nat) : CellsKept w (w.iterAt k s p') :=
  ⟨by rw [Lib.iterAt_size]; exact Nat.le_refl _, fun i c e fz hi => by
    rw [Lib.iterAt_other _ _ _ _ _ (fun h => by rw [h, hk] at hi; cases hi)]; exact hi⟩
theorem cells_alloc (w : World) (o : Obj) : CellsKept w (w.alloc o) :=
  ⟨by simp, fun i c e fz hi => by
    have hlt : i < w.heap.size := (Array.getElem?_eq_some_iff.1 hi).1
    rw [Below.heap_alloc _ _ _ hlt]; exact hi⟩
theorem iters_of {ety : TypeId} {ga : Nat} {w w' : World} (h : Lib.OthersKept ety (some ga) w w') (hb : ∃ cs t, Blk w ga cs t) : ItersKept w w' := fun k s p hk =>
  h k _ hk (fun e => by
    obtain ⟨cs, t, hb⟩ := hb
    unfold Blk at hb
    rw [← Option.some.inj e, hk] at hb; cases hb) (fun c fz he => by cases he)
/-- The next letter, where all are letters or brackets. -/
theorem next_isL (P : Program) (s : ByteArray) (k : Nat) (h : k < s.size) (hl : ∀ c ∈ nums s, c < 128) : ∃ c, NextL P s k (k + 1) c ∧ (nums s).drop k = c :: (nums s).drop (k + 1) := by
  obtain ⟨c, k', hn⟩ := next_of P s k h
  rcases hn.is with ⟨h1, rfl, h2⟩ | ⟨h1, d, h2, h3⟩
  · exact ⟨c, hn, h2⟩
  · have : d ∈ nums s := List.mem_of_mem_drop (by rw [h3]; exact List.mem_cons_self ..)
    have := hl d this
    omega
theorem isC_lt {c : Int} (h : Fld.isC c) : c < 128 := by unfold Fld.isC at h; omega
section
variable {σ : Type} {f : Int → σ → σ × Int × Int} {g : List Int} {st : σ}
theorem rep_zero : Fld.rep f g 0 st = (st, 0) := rfl
theorem rep_ok {n : Nat} {st' : σ} (h : Fld.once f g st = (st', 0)) : Fld.rep f g (n + 1) st = Fld.rep f g n st' := by
  rw [Fld.rep, h, if_pos rfl]
theorem rep_err {n : Nat} {st' : σ} {e : Int} (h : Fld.once f g st = (st', e)) (he : e ≠ 0) : Fld.rep f g (n + 1) st = (st', e) := by
  rw [Fld.rep, h, if_neg he]
theorem once_ok {c : Int} {r : List Int} (h : (f c st).2.2 = 0) : Fld.once f (c :: r) st = Fld.once f r (f c st).1 := by
  rw [Fld.once, if_pos h]
theorem once_err {c : Int} {r : List Int} (h : (f c st).2.2 ≠ 0) : Fld.once f (c :: r) st = ((f c st).1, (f c st).2.2) := by
  rw [Fld.once, if_neg h]
end
def RDone {σ : Type} (R : σ → World → Prop) (r : σ × Int) (w : World) (e : Ending) (w' : World) : Prop :=
  e = .returned (.int .i64 r.2) ∧ R r.1 w' ∧ ItersKept w w'
theorem chk_len {s : List Int} (h : Fld.chk s = true) : s.length ≤ 40 ∧ Fld.chkL s false false = true := by unfold Fld.chk at h; simpa using h
theorem nums_extract (s : ByteArray) (i j : Nat) : nums (s.extract i j) = ((nums s).take j).drop i := by
  unfold nums
  rw [← List.map_take, ← List.map_drop]
  congr 1
  rw [ByteArray.data_extract, Array.toList_extract, List.extract_eq_take_drop, List.drop_take]
theorem chkL_lt : ∀ (l : List Int) (o k : Bool), Fld.chkL l o k = true → ∀ c ∈ l, c < 128
  | [], _, _, _ => by simp
  | d :: r, o, k, h => by
    intro c hc
    unfold Fld.chkL at h
    rcases List.mem_cons.1 hc with rfl | hc
    · split at h
      · omega
      · split at h
        · omega
        · split at h
          · omega
          · simp at h
    · split at h
      · exact chkL_lt r _ _ h c hc
      · split at h
        · exact chkL_lt r _ _ h c hc
        · split at h
          · exact chkL_lt r _ _ h c hc
          · simp at h
theorem chkL_none {c : Int} {r : List Int} {k : Bool} (h : Fld.chkL (c :: r) false k = true) : (Fld.isC c ∧ c ≠ 40 ∧ Fld.chkL r false true = true) ∨ (c = 40 ∧ Fld.chkL r true false = true) := by
  unfold Fld.chkL at h
  split at h
  · rename_i h1
    exact Or.inl ⟨by unfold Fld.isC; omega, by omega, h⟩
  · split at h
    · rename_i h1 h2
      exact Or.inr ⟨h2.1, h⟩
    · simp at h
theorem chkL_some {c : Int} {r : List Int} {k : Bool} (h : Fld.chkL (c :: r) true k = true) : (Fld.isC c ∧ c ≠ 41 ∧ c ≠ 40 ∧ Fld.chkL r true true = true) ∨ (c = 41 ∧ Fld.chkL r false k = true) := by
  unfold Fld.chkL at h
  split at h
  · rename_i h1
    exact Or.inl ⟨by unfold Fld.isC; omega, by omega, by omega, h⟩
  · split at h
    · rename_i h1 h2
      simp at h2
    · split at h
      · rename_i h1 h2 h3
        exact Or.inr ⟨h3.1, h⟩
      · simp at h
section
variable {σ : Type} {f : Int → σ → σ × Int × Int} {st : σ} {c t : Int} {r cs : List Int}
theorem walk_ok (h : (f c st).2.2 = 0) : Fld.walkL f none t (c :: r) st = Fld.walkL f (if c = 40 then some [] else none) (f c st).2.1 r (f c st).1 := by rw [Fld.walkL, if_pos h]
theorem walk_err (h : (f c st).2.2 ≠ 0) : Fld.walkL f none t (c :: r) st = ((f c st).1, (f c st).2.2) := by rw [Fld.walkL, if_neg h]
theorem walk_in (h : c ≠ 41) : Fld.walkL f (some cs) t (c :: r) st = Fld.walkL f (some (cs ++ [c])) t r st := by rw [Fld.walkL, if_neg h]
theorem walk_shut {st' : σ} (h : Fld.rep f cs t.toNat st = (st', 0)) : Fld.walkL f (some cs) t (41 :: r) st = Fld.walkL f none t r st' := by rw [Fld.walkL, if_pos rfl, h, if_pos rfl]
theorem walk_bad {st' : σ} {e : Int} (h : Fld.rep f cs t.toNat st = (st', e)) (he : e ≠ 0) : Fld.walkL f (some cs) t (41 :: r) st = (st', e) := by rw [Fld.walkL, if_pos rfl, h, if_neg he]
theorem walk_end {g : Option (List Int)} : Fld.walkL f g t [] st = (st, 0) := by cases g <;> rfl
/-- Where one stands in a shape: behind k letters; a group's letters since bg. -/
structure WRel (f : Int → σ → σ × Int × Int) (l : List Int) (st : σ) (k bg : Nat) (t : Int) (gO : Option (List Int)) (kk : Bool) (sk : σ) : Prop where
  grp : (gO = none ∧ bg = 0) ∨ (∃ cs, gO = some cs ∧ 0 < bg ∧ bg ≤ k ∧ cs = (l.take k).drop bg)
  ok : ∀ cs, gO = some cs → ∀ c ∈ cs, Fld.isC c
  chk : Fld.chkL (l.drop k) gO.isSome kk = true
  walk : Fld.walkL f none 0 l st = Fld.walkL f gO t (l.drop k) sk
theorem WRel.open_ {l : List Int} {k bg : Nat} {t : Int} {kk : Bool} {sk st : σ} (h : WRel f l st k bg t none kk sk) (hd : l.drop k = c :: l.drop (k + 1)) (hc : c = 40) (h0 : (f c sk).2.2 = 0) :
    WRel f l st (k + 1) (k + 1) (f c sk).2.1 (some []) false (f c sk).1 := by
  have hk := h.chk
  rw [hd] at hk
  rcases chkL_none hk with ⟨_, h2, _⟩ | ⟨_, h2⟩
  · exact absurd hc h2
  · refine ⟨Or.inr ⟨[], rfl, by omega, Nat.le_refl _, ?_⟩, by simp, h2, ?_⟩
    · rw [List.drop_eq_nil_of_le (List.length_take_le _ _)]
    · rw [h.walk, hd, walk_ok h0, if_pos hc]
theorem WRel.one {l : List Int} {k bg : Nat} {t : Int} {kk : Bool} {sk st : σ} (h : WRel f l st k bg t none kk sk) (hd : l.drop k = c :: l.drop (k + 1)) (hc : c ≠ 40) (h0 : (f c sk).2.2 = 0) :
    WRel f l st (k + 1) 0 (f c sk).2.1 none true (f c sk).1 := by
  have hk := h.chk
  rw [hd] at hk
  rcases chkL_none hk with ⟨_, _, h2⟩ | ⟨h2, _⟩
  · exact ⟨Or.inl ⟨rfl, rfl⟩, by simp, h2, by rw [h.walk, hd, walk_ok h0, if_neg hc]⟩
  · exact absurd h2 hc
theorem WRel.in_ {l : List Int} {k bg : Nat} {t : Int} {kk : Bool} {sk st : σ} {cs : List Int} (h : WRel f l st k bg t (some cs) kk sk) (hd : l.drop k = c :: l.drop (k + 1)) (hc : c ≠ 41) :
    WRel f l st (k + 1) bg t (some (cs ++ [c])) true sk := by
  have hk := h.chk
  rw [hd] at hk
  rcases chkL_some hk with ⟨h1, _, _, h2⟩ | ⟨h2, _⟩
  · rcases h.grp with ⟨hn, _⟩ | ⟨cs', hn, h3, h4, h5⟩
    · cases hn
    · cases hn
      refine ⟨Or.inr ⟨_, rfl, h3, by omega, ?_⟩, ?_, h2, by rw [h.walk, hd, walk_in hc]⟩
      · have hlt : k < l.length := by
          rcases Nat.lt_or_ge k l.length with h | h
          · exact h
          · rw [List.drop_eq_nil_of_le h] at hd; cases hd
        have hg : l[k]? = some c := by
          have := congrArg (·[0]?) hd
          simpa using this
        rw [List.take_add_one, hg, h5, List.drop_append_of_le_length (by rw [List.length_take]; omega)]
        rfl
      · intro cs' hn c' hc'
        cases hn
        rcases List.mem_append.1 hc' with h6 | h6
        · exact h.ok cs rfl c' h6
        · simp at h6; subst h6; exact h1
  · exact absurd h2 hc
theorem WRel.shut {l : List Int} {k bg : Nat} {t : Int} {kk : Bool} {sk st sk' : σ} {cs : List Int} (h : WRel f l st k bg t (some cs) kk sk) (hd : l.drop k = 41 :: l.drop (k + 1)) (h0 : Fld.rep f cs t.toNat sk = (sk', 0)) :
    WRel f l st (k + 1) 0 t none kk sk' := by
  have hk := h.chk
  rw [hd] at hk
  rcases chkL_some hk with ⟨_, h2, _⟩ | ⟨_, h2⟩
  · exact absurd rfl h2
  · exact ⟨Or.inl ⟨rfl, rfl⟩, by simp, h2, by rw [h.walk, hd, walk_shut h0]⟩
end
end Go.Proofs.Ytgakmkglejddeaa
