/-
  The table of forms in the wire package: made, and looked into (written by mknwa15.py).
  Which texts are shapes: the contract of Check.
-/
import Derived.Test.YteepaoklibflpaaR24
import Derived.Test.YteepaoklibflpaaR14
import Derived.Test.YteepaoklibflpaaR11
import Derived.Test.YteepaoklibflpaaR9
import Derived.Test.YteepaoklibflpaaR12
import Derived.MapKept
import Derived.Laws.Rows
import Derived.Test.YteepaoklibflpaaR1
import Derived.Test.YteepaoklibflpaaR3
import Derived.Test.YteepaoklibflpaaRows
import Derived.Lib.OthersKept
import Derived.Deep.LoopGhost
import Derived.WalkSpells
import Derived.IntWalk
import Derived.WalkLawsBesides
namespace Go.Proofs.Yteepaoklibflpaa
section
set_option linter.unusedSimpArgs false
set_option linter.unusedVariables false
open Go.RowKit Sha Nte
section
variable {P : Program}
theorem wf_set (w : World) (o o' : Obj) : ({ (w.alloc o) with heap := (w.alloc o).heap.setIfInBounds w.heap.size o' } : World) = w.alloc o' := by
  have h : (w.heap.push o).setIfInBounds w.heap.size o' = w.heap.push o' := by simp [← Array.toList_inj]
  show ({ (w.alloc o) with heap := (w.heap.push o).setIfInBounds w.heap.size o' } : World) = _
  rw [h]; rfl
theorem wf_insert (w : World) (mty kt et : TypeId) (hm : P.underlying mty = some (.map kt et)) (hk : P.underlying kt = some (.int .i64)) (es : Array MapEntry) (c : Nat) (k : Int) (v : Value) (hf : Instr.findNow (.int .i64) (.int .i64 k) es.toList 0 = some none) :
    (Instr.mapUpdate mty (.map (some w.heap.size)) (.int .i64 k) v).run P (w.alloc (.map es c)) = .ok () (w.alloc (.map (es.push ⟨.int .i64 k, v, c⟩) (c + 1))) := by
  have hb : (w.alloc (.map es c)).heap[w.heap.size]? = some (.map es c) := heap_alloc_new _ _
  have hc : (Instr.checkKey false 10000 kt (.int .i64 k)).run P (w.alloc (.map es c)) = .ok () (w.alloc (.map es c)) := MapKept.run_checkKey (k := .int .i64 k) hk (by simp [MapKept.IsKey]) false 9999
  simp [Instr.mapUpdate, run_underlying hm, MapKept.run_getObj_map hb, hc, MapKept.run_findKey hk hf, MapKept.run_setObj_map _ hb, Result.andThen, -World.alloc_eq]
  exact wf_set _ _ _
theorem wf_found (w : World) (mty kt et : TypeId) (hm : P.underlying mty = some (.map kt et)) (hk : P.underlying kt = some (.int .i64)) (b : Nat) (es : Array MapEntry) (c : Nat) (hb : w.heap[b]? = some (.map es c)) (k : Int) (i : Nat) (v : Value) (hf : Instr.findNow (.int .i64) (.int .i64 k) es.toList 0 = some (some (i, v))) (ok : Bool) :
    (Instr.lookup mty (.map (some b)) (.int .i64 k) ok).run P w = .ok (if ok then .tuple #[v, .bool true] else v) w := by
  have hc : ∀ e, (Instr.checkKey e 10000 kt (.int .i64 k)).run P w = .ok () w := fun e => MapKept.run_checkKey (k := .int .i64 k) hk (by simp [MapKept.IsKey]) e 9999
  simp [Instr.lookup, run_underlying hm, MapKept.run_getObj_map hb, hc, MapKept.run_findKey hk hf, Result.andThen]
theorem wf_none (w : World) (mty kt et : TypeId) (hm : P.underlying mty = some (.map kt et)) (hk : P.underlying kt = some (.int .i64)) (z : Value) (hz : ∀ w, (zeroValue et).run P w = .ok z w) (b : Nat) (es : Array MapEntry) (c : Nat) (hb : w.heap[b]? = some (.map es c)) (k : Int) (hf : Instr.findNow (.int .i64) (.int .i64 k) es.toList 0 = some none) (ok : Bool) :
    (Instr.lookup mty (.map (some b)) (.int .i64 k) ok).run P w = .ok (if ok then .tuple #[z, .bool false] else z) w := by
  have hc : ∀ e, (Instr.checkKey e 10000 kt (.int .i64 k)).run P w = .ok () w := fun e => MapKept.run_checkKey (k := .int .i64 k) hk (by simp [MapKept.IsKey]) e 9999
  simp [Instr.lookup, run_underlying hm, MapKept.run_getObj_map hb, hc, MapKept.run_findKey hk hf, Result.andThen, hz]
end
/-- What a kind has; what of that is empty in those that say yes, in those that say no. -/
def kHas (k : Int) : ByteArray :=
  if k = 1 then ⟨#[99, 119]⟩ else if k = 2 then ⟨#[99, 119]⟩ else if k = 3 then ⟨#[99, 104, 119]⟩ else if k = 4 then ⟨#[119]⟩ else if k = 5 then ⟨#[99, 115, 100, 104, 120]⟩ else if k = 6 then ⟨#[99, 115, 100, 104, 121]⟩ else if k = 7 then ⟨#[99, 100]⟩ else if k = 8 then ⟨#[99, 100, 121, 120]⟩ else if k = 9 then ⟨#[99, 115, 98]⟩ else if k = 10 then ⟨#[99, 115, 98, 111, 121, 120]⟩ else if k = 11 then ⟨#[99, 115, 98, 120]⟩ else if k = 12 then ⟨#[99, 115, 98, 111, 121]⟩ else if k = 13 then ⟨#[115, 120]⟩ else if k = 14 then ⟨#[99, 115]⟩ else if k = 15 then ⟨#[99, 115, 121, 120]⟩ else if k = 16 then ⟨#[99, 115, 100, 120]⟩ else if k = 17 then ⟨#[99, 115, 100]⟩ else if k = 18 then ⟨#[115, 105]⟩ else if k = 19 then ⟨#[115, 105]⟩ else ⟨#[]⟩
def kYes (k : Int) : ByteArray := if k = 12 then ⟨#[111]⟩ else ⟨#[]⟩
def kNo (k : Int) : ByteArray := if k = 8 ∨ k = 10 ∨ k = 15 then ⟨#[120]⟩ else ⟨#[]⟩
theorem kHas_no (k : Int) (hk : ¬ (1 ≤ k ∧ k ≤ 19)) : kHas k = ⟨#[]⟩ := by
  unfold kHas
  rw [if_neg (by omega), if_neg (by omega), if_neg (by omega), if_neg (by omega), if_neg (by omega), if_neg (by omega), if_neg (by omega), if_neg (by omega), if_neg (by omega), if_neg (by omega), if_neg (by omega), if_neg (by omega), if_neg (by omega), if_neg (by omega), if_neg (by omega), if_neg (by omega), if_neg (by omega), if_neg (by omega), if_neg (by omega)]
theorem letters_no (k : Int) (hk : ¬ (1 ≤ k ∧ k ≤ 19)) : letters k = [] := by
  unfold letters
  rw [if_neg (by omega), if_neg (by omega), if_neg (by omega), if_neg (by omega), if_neg (by omega), if_neg (by omega), if_neg (by omega), if_neg (by omega), if_neg (by omega), if_neg (by omega), if_neg (by omega), if_neg (by omega), if_neg (by omega), if_neg (by omega), if_neg (by omega), if_neg (by omega), if_neg (by omega), if_neg (by omega), if_neg (by omega)]
theorem kHas_nums (k : Int) : nums (kHas k) = letters k := by
  by_cases hk : 1 ≤ k ∧ k ≤ 19
  · rcases kinds hk with rfl | rfl | rfl | rfl | rfl | rfl | rfl | rfl | rfl | rfl | rfl | rfl | rfl | rfl | rfl | rfl | rfl | rfl | rfl <;> decide +kernel
  · rw [kHas_no k hk, letters_no k hk]; decide +kernel
theorem kHas_size (k : Int) : (kHas k).size ≤ 6 := by
  by_cases hk : 1 ≤ k ∧ k ≤ 19
  · rcases kinds hk with rfl | rfl | rfl | rfl | rfl | rfl | rfl | rfl | rfl | rfl | rfl | rfl | rfl | rfl | rfl | rfl | rfl | rfl | rfl <;> decide
  · rw [kHas_no k hk]; decide
abbrev wform (k : Int) : Value := .agg #[.string (kHas k), .string (kYes k), .string (kNo k)]
/-- The table, as far as it is made. -/
def wtab : Nat → Array MapEntry
  | 0 => #[]
  | n + 1 => (wtab n).push ⟨.int .i64 ((n : Int) + 1), wform ((n : Int) + 1), n⟩
def WTab (w : World) (m : Value) : Prop := ∃ b, m = .map (some b) ∧ w.heap[b]? = some (.map (wtab 19) 19)
theorem WTab.below {w w' : World} {m : Value} (h : WTab w m) (hb : Below w.heap.size w w') : WTab w' m := by
  obtain ⟨b, rfl, h⟩ := h
  exact ⟨b, rfl, by rw [hb.block b (by exact (Array.getElem?_eq_some_iff.1 h).1)]; exact h⟩
theorem wtab_find (k : Int) (hk : 1 ≤ k ∧ k ≤ 19) : ∃ i, Instr.findNow (.int .i64) (.int .i64 k) (wtab 19).toList 0 = some (some (i, wform k)) := by
  rcases kinds hk with rfl | rfl | rfl | rfl | rfl | rfl | rfl | rfl | rfl | rfl | rfl | rfl | rfl | rfl | rfl | rfl | rfl | rfl | rfl <;> exact ⟨_, rfl⟩
theorem wtab_none (k : Int) (hk : ¬ (1 ≤ k ∧ k ≤ 19)) : Instr.findNow (.int .i64) (.int .i64 k) (wtab 19).toList 0 = some none := by
  have h1 : (k == 1) = false := by simp; omega
  have h2 : (k == 2) = false := by simp; omega
  have h3 : (k == 3) = false := by simp; omega
  have h4 : (k == 4) = false := by simp; omega
  have h5 : (k == 5) = false := by simp; omega
  have h6 : (k == 6) = false := by simp; omega
  have h7 : (k == 7) = false := by simp; omega
  have h8 : (k == 8) = false := by simp; omega
  have h9 : (k == 9) = false := by simp; omega
  have h10 : (k == 10) = false := by simp; omega
  have h11 : (k == 11) = false := by simp; omega
  have h12 : (k == 12) = false := by simp; omega
  have h13 : (k == 13) = false := by simp; omega
  have h14 : (k == 14) = false := by simp; omega
  have h15 : (k == 15) = false := by simp; omega
  have h16 : (k == 16) = false := by simp; omega
  have h17 : (k == 17) = false := by simp; omega
  have h18 : (k == 18) = false := by simp; omega
  have h19 : (k == 19) = false := by simp; omega
  simp [wtab, Instr.findNow, Instr.sameNow, h1, h2, h3, h4, h5, h6, h7, h8, h9, h10, h11, h12, h13, h14, h15, h16, h17, h18, h19]
theorem wform_zero (w : World) : (zeroValue 51).run Try.prog w = .ok (.agg #[.string ⟨#[]⟩, .string ⟨#[]⟩, .string ⟨#[]⟩]) w := by kernel_rfl
theorem wlook_yes {w : World} {m : Value} (h : WTab w m) (k : Int) (hk : 1 ≤ k ∧ k ≤ 19) (ok : Bool) : (Instr.lookup 53 m (.int .i64 k) ok).run Try.prog w = .ok (if ok then .tuple #[wform k, .bool true] else wform k) w := by
  obtain ⟨b, rfl, h⟩ := h
  obtain ⟨i, hf⟩ := wtab_find k hk
  exact wf_found w _ _ _ Try.underlying53 Try.underlying3 b _ _ h k i _ hf ok
theorem wlook_no {w : World} {m : Value} (h : WTab w m) (k : Int) (hk : ¬ (1 ≤ k ∧ k ≤ 19)) (ok : Bool) : (Instr.lookup 53 m (.int .i64 k) ok).run Try.prog w = .ok (if ok then .tuple #[.agg #[.string ⟨#[]⟩, .string ⟨#[]⟩, .string ⟨#[]⟩], .bool false] else .agg #[.string ⟨#[]⟩, .string ⟨#[]⟩, .string ⟨#[]⟩]) w := by
  obtain ⟨b, rfl, h⟩ := h
  exact wf_none w _ _ _ Try.underlying53 Try.underlying3 _ wform_zero b _ _ h k (wtab_none k hk) ok
theorem wins_step (w : World) (n : Nat) (v : Value) (k : Int) (hk : k = (n : Int) + 1) (hv : v = wform k) (hf : Instr.findNow (.int .i64) (.int .i64 k) (wtab n).toList 0 = some none) :
    (Instr.mapUpdate 53 (.map (some w.heap.size)) (.int .i64 k) v).run Try.prog (w.alloc (.map (wtab n) n)) = .ok () (w.alloc (.map (wtab (n + 1)) (n + 1))) := by
  subst hk hv
  exact wf_insert w _ _ _ Try.underlying53 Try.underlying3 _ n _ _ hf
set_option maxRecDepth 100000 in
set_option maxHeartbeats 2000000 in
theorem wforms_any (w : World) : Calls Try.prog 18 #[] w fun e w' => ∃ m, e = .returned m ∧ WTab w' m ∧ Below w.heap.size w w' := by
  have hmm : (Instr.makeMap 53 none).run Try.prog w = .ok (.map (some w.heap.size)) (w.alloc (.map (wtab 0) 0)) := run_makeMap _ w
  have i1 := wins_step w 0 (.agg #[.string ⟨#[99, 119]⟩, .string ⟨#[]⟩, .string ⟨#[]⟩]) 1 rfl rfl rfl
  have i2 := wins_step w 1 (.agg #[.string ⟨#[99, 119]⟩, .string ⟨#[]⟩, .string ⟨#[]⟩]) 2 rfl rfl rfl
  have i3 := wins_step w 2 (.agg #[.string ⟨#[99, 104, 119]⟩, .string ⟨#[]⟩, .string ⟨#[]⟩]) 3 rfl rfl rfl
  have i4 := wins_step w 3 (.agg #[.string ⟨#[119]⟩, .string ⟨#[]⟩, .string ⟨#[]⟩]) 4 rfl rfl rfl
  have i5 := wins_step w 4 (.agg #[.string ⟨#[99, 115, 100, 104, 120]⟩, .string ⟨#[]⟩, .string ⟨#[]⟩]) 5 rfl rfl rfl
  have i6 := wins_step w 5 (.agg #[.string ⟨#[99, 115, 100, 104, 121]⟩, .string ⟨#[]⟩, .string ⟨#[]⟩]) 6 rfl rfl rfl
  have i7 := wins_step w 6 (.agg #[.string ⟨#[99, 100]⟩, .string ⟨#[]⟩, .string ⟨#[]⟩]) 7 rfl rfl rfl
  have i8 := wins_step w 7 (.agg #[.string ⟨#[99, 100, 121, 120]⟩, .string ⟨#[]⟩, .string ⟨#[120]⟩]) 8 rfl rfl rfl
  have i9 := wins_step w 8 (.agg #[.string ⟨#[99, 115, 98]⟩, .string ⟨#[]⟩, .string ⟨#[]⟩]) 9 rfl rfl rfl
  have i10 := wins_step w 9 (.agg #[.string ⟨#[99, 115, 98, 111, 121, 120]⟩, .string ⟨#[]⟩, .string ⟨#[120]⟩]) 10 rfl rfl rfl
  have i11 := wins_step w 10 (.agg #[.string ⟨#[99, 115, 98, 120]⟩, .string ⟨#[]⟩, .string ⟨#[]⟩]) 11 rfl rfl rfl
  have i12 := wins_step w 11 (.agg #[.string ⟨#[99, 115, 98, 111, 121]⟩, .string ⟨#[111]⟩, .string ⟨#[]⟩]) 12 rfl rfl rfl
  have i13 := wins_step w 12 (.agg #[.string ⟨#[115, 120]⟩, .string ⟨#[]⟩, .string ⟨#[]⟩]) 13 rfl rfl rfl
  have i14 := wins_step w 13 (.agg #[.string ⟨#[99, 115]⟩, .string ⟨#[]⟩, .string ⟨#[]⟩]) 14 rfl rfl rfl
  have i15 := wins_step w 14 (.agg #[.string ⟨#[99, 115, 121, 120]⟩, .string ⟨#[]⟩, .string ⟨#[120]⟩]) 15 rfl rfl rfl
  have i16 := wins_step w 15 (.agg #[.string ⟨#[99, 115, 100, 120]⟩, .string ⟨#[]⟩, .string ⟨#[]⟩]) 16 rfl rfl rfl
  have i17 := wins_step w 16 (.agg #[.string ⟨#[99, 115, 100]⟩, .string ⟨#[]⟩, .string ⟨#[]⟩]) 17 rfl rfl rfl
  have i18 := wins_step w 17 (.agg #[.string ⟨#[115, 105]⟩, .string ⟨#[]⟩, .string ⟨#[]⟩]) 18 rfl rfl rfl
  have i19 := wins_step w 18 (.agg #[.string ⟨#[115, 105]⟩, .string ⟨#[]⟩, .string ⟨#[]⟩]) 19 rfl rfl rfl
  have hT := Lib.hid (show WTab (w.alloc (.map (wtab 19) 19)) (.map (some w.heap.size)) from ⟨_, rfl, heap_alloc_new _ _⟩)
  have hB := Lib.hid ((Below.refl w.heap.size w).alloc (Nat.le_refl _) (.map (wtab 19) 19))
  simp only [Nat.reduceAdd] at i1 i2 i3 i4 i5 i6 i7 i8 i9 i10 i11 i12 i13 i14 i15 i16 i17 i18 i19
  generalize w.alloc (.map (wtab 0) 0) = w0 at *
  generalize w.alloc (.map (wtab 1) 1) = w1 at *
  generalize w.alloc (.map (wtab 2) 2) = w2 at *
  generalize w.alloc (.map (wtab 3) 3) = w3 at *
  generalize w.alloc (.map (wtab 4) 4) = w4 at *
  generalize w.alloc (.map (wtab 5) 5) = w5 at *
  generalize w.alloc (.map (wtab 6) 6) = w6 at *
  generalize w.alloc (.map (wtab 7) 7) = w7 at *
  generalize w.alloc (.map (wtab 8) 8) = w8 at *
  generalize w.alloc (.map (wtab 9) 9) = w9 at *
  generalize w.alloc (.map (wtab 10) 10) = w10 at *
  generalize w.alloc (.map (wtab 11) 11) = w11 at *
  generalize w.alloc (.map (wtab 12) 12) = w12 at *
  generalize w.alloc (.map (wtab 13) 13) = w13 at *
  generalize w.alloc (.map (wtab 14) 14) = w14 at *
  generalize w.alloc (.map (wtab 15) 15) = w15 at *
  generalize w.alloc (.map (wtab 16) 16) = w16 at *
  generalize w.alloc (.map (wtab 17) 17) = w17 at *
  generalize w.alloc (.map (wtab 18) 18) = w18 at *
  generalize w.alloc (.map (wtab 19) 19) = w19 at *
  go_enter Try.func18, Try.ntmps18
  go_wp2_with fail
  go_ret
  exact ⟨_, rfl, hT.out, hB.out⟩
end
section
set_option linter.unusedSimpArgs false
set_option linter.unusedVariables false
open Go.RowKit Sha
/-- The letters of a text, as numbers. -/
theorem fnums_get (s : ByteArray) (k : Nat) (h : k < s.size) : (nums s)[k]? = some ((s[k]'h).toNat : Int) := by
  unfold nums
  rw [List.getElem?_map, Array.getElem?_toList, Array.getElem?_eq_getElem (by exact h)]
  rfl
theorem nums_drop (s : ByteArray) (k : Nat) (h : k < s.size) : (nums s).drop k = ((s[k]'h).toNat : Int) :: (nums s).drop (k + 1) := by
  have hl : k < (nums s).length := by rw [nums_length]; exact h
  have := fnums_get s k h
  rw [List.getElem?_eq_getElem hl] at this
  rw [List.drop_eq_getElem_cons hl, Option.some.inj this]
theorem chkL_no {c : Int} {r : List Int} {o k : Bool} (h1 : c ≠ 110) (h2 : c ≠ 98) (h3 : c ≠ 100) (h4 : ¬ (c = 40 ∧ o = false)) (h5 : ¬ (c = 41 ∧ o = true ∧ k = true)) : Fld.chkL (c :: r) o k = false := by
  unfold Fld.chkL
  rw [if_neg (by omega), if_neg h4, if_neg h5]
/-- The next letter of a text: itself, or one from 128 on, which is none of a shape's. -/
structure NextL (P : Program) (s : ByteArray) (k k' : Nat) (c : Int) : Prop where
  run : ∀ (w : World) (g : Nat) (ty : TypeId), w.heap[g]? = some (.stringIter s k) → (Instr.next (.pointer (some ⟨g, 0, none⟩)) true ty).run P w = .ok (.tuple #[.bool true, .int .i64 k, .int .i32 c]) (w.iterAt g s k')
  lt : k < k'
  c0 : 0 ≤ c
  is : (c < 128 ∧ k' = k + 1 ∧ (nums s).drop k = c :: (nums s).drop (k + 1)) ∨ (128 ≤ c ∧ ∃ d, 128 ≤ d ∧ (nums s).drop k = d :: (nums s).drop (k + 1))
theorem next_of (P : Program) (s : ByteArray) (k : Nat) (h : k < s.size) : ∃ c k', NextL P s k k' c := by
  by_cases ha : (s[k]'h).toNat < 128
  · refine ⟨((s[k]'h).toNat : Int), k + 1, fun w g ty hg => Lib.run_next_ascii_at w g s k ty hg h ha, by omega, by omega, Or.inl ⟨by omega, rfl, nums_drop s k h⟩⟩
  · have hd := decode_high s k h (by omega)
    exact ⟨((Utf8.decode s k).1 : Int), k + (Utf8.decode s k).2, fun w g ty hg => Lib.run_next_any_at w g s k ty hg h, by omega, by omega, Or.inr ⟨by omega, _, by omega, nums_drop s k h⟩⟩
theorem chk_le (s : ByteArray) (h : s.size ≤ 40) : Fld.chk (nums s) = Fld.chkL (nums s) false false := by
  unfold Fld.chk; rw [nums_length]; simp; intro _; exact h
theorem chk_gt (s : ByteArray) (h : 40 < s.size) : Fld.chk (nums s) = false := by
  unfold Fld.chk; rw [nums_length]; simp; intro h'; omega
theorem chkL_letter {c : Int} {r : List Int} {o k : Bool} (h : c = 110 ∨ c = 98 ∨ c = 100) : Fld.chkL (c :: r) o k = Fld.chkL r o true := by
  rw [Fld.chkL, if_pos h]
theorem chkL_open {r : List Int} {k : Bool} : Fld.chkL (40 :: r) false k = Fld.chkL r true false := by
  rw [Fld.chkL, if_neg (by omega), if_pos ⟨rfl, rfl⟩]
theorem chkL_close {r : List Int} : Fld.chkL (41 :: r) true true = Fld.chkL r false true := by
  rw [Fld.chkL, if_neg (by omega), if_neg (by simp), if_pos ⟨rfl, rfl, rfl⟩]
/-- What the loop over a text knows. -/
structure ChkRel (s : ByteArray) (w : World) (ob : Bool) (m k : Nat) : Prop where
  le : m ≤ k
  chk : Fld.chkL (nums s) false false = Fld.chkL ((nums s).drop k) ob (decide (0 < m))
theorem iterPos_of' {w : World} {k : Nat} {s : ByteArray} {p : Nat} (h : w.heap[k]? = some (.stringIter s p)) : w.iterPos k = p := by simp [World.iterPos, h]
theorem iterPos_at {w : World} {k : Nat} {s : ByteArray} {p p' : Nat} (h : w.heap[k]? = some (.stringIter s p)) : (w.iterAt k s p').iterPos k = p' := iterPos_of' (Lib.iterAt_heap w k s p p' h)
set_option maxRecDepth 100000 in
set_option maxHeartbeats 2000000 in
theorem check_any (s : ByteArray) (w : World) (hs : s.size ≤ maxLen) :
    Calls Try.prog 33 #[.string s] w fun e w' => e = .returned (.int .i64 (Fld.chkE (nums s))) ∧ Below w.heap.size w w' := by
  unfold maxLen at hs
  by_cases hlt : 40 < s.size
  · have HR := Lib.hid (Fld.chkE_no (chk_gt s hlt))
    go_enter Try.func33, Try.ntmps33
    go_wp2_with fail
    go_ret
    exact ⟨ret_int HR.out.symm, Below.refl _ _⟩
  · have HC := Lib.hid (chk_le s (by omega))
    go_enter Try.func33, Try.ntmps33
    go_wp2_with fail
    go_loopw [3, 4] (fun o n wr => ∃ (k m : Nat) (ob : Bool), k ≤ s.size ∧ wr.heap[w.heap.size]? = some (.stringIter s k) ∧ Below w.heap.size w wr ∧ o = .bool ob ∧ n = .int .i64 m ∧ ChkRel s w ob m k) (fun _ _ wr => s.size - wr.iterPos w.heap.size)
    case atStart => exact ⟨0, 0, false, by omega, World.iter_heap w s 0, (Below.refl _ w).alloc (by simp) _, rfl, rfl, by omega, by simp⟩
    case round =>
      obtain ⟨k, m, ob, hk, hit, hb, rfl, rfl, hr⟩ := hrel
      have hm := hr.le
      have HR := Lib.hid hr.chk
      have HI := Lib.hid hit
      clear hr hit
      by_cases hp : k < s.size
      · obtain ⟨c, k', hn⟩ := next_of Try.prog s k hp
        have hlt' := hn.lt
        have c0 := hn.c0
        have hnx := fun ty => hn.run wr w.heap.size ty HI.out
        rcases hn.is with ⟨c1, rfl, hd⟩ | ⟨c1, d, hd1, hd⟩
        · clear hn
          have HD := Lib.hid hd
          clear hd
          by_cases hL : c = 110 ∨ c = 98 ∨ c = 100
          · have HN := Lib.hid (HR.out.trans (by rw [HD.out]; exact chkL_letter hL : _ = Fld.chkL ((nums s).drop (k + 1)) ob true))
            rcases hL with rfl | rfl | rfl
            all_goals
              go_wp2_with fail
              go_roundw
              case rel => exact ⟨k + 1, m + 1, ob, by omega, Lib.iterAt_heap _ _ _ _ _ HI.out, Lib.below_iterAt hb (Nat.le_refl _) _ _, rfl, by go_num, by omega, by rw [HN.out]; simp⟩
              case measure => rw [iterPos_at HI.out, iterPos_of' HI.out]; omega
          · by_cases h40 : c = 40
            · subst h40
              clear hL
              cases ob with
              | false =>
                have HN := Lib.hid (HR.out.trans (by rw [HD.out]; exact chkL_open : _ = Fld.chkL ((nums s).drop (k + 1)) true false))
                go_wp2_with fail
                go_roundw
                case rel => exact ⟨k + 1, 0, true, by omega, Lib.iterAt_heap _ _ _ _ _ HI.out, Lib.below_iterAt hb (Nat.le_refl _) _ _, rfl, rfl, by omega, by rw [HN.out]; simp⟩
                case measure => rw [iterPos_at HI.out, iterPos_of' HI.out]; omega
              | true =>
                have HE := Lib.hid (Fld.chkE_no (HC.out.trans (HR.out.trans (by rw [HD.out]; exact chkL_no (by omega) (by omega) (by omega) (by simp) (by simp)))))
                go_wp2_with fail
                go_ret
                exact ⟨ret_int HE.out.symm, Lib.below_iterAt hb (Nat.le_refl _) _ _⟩
            · by_cases h41 : c = 41
              · subst h41
                clear hL h40
                cases ob with
                | false =>
                  have HE := Lib.hid (Fld.chkE_no (HC.out.trans (HR.out.trans (by rw [HD.out]; exact chkL_no (by omega) (by omega) (by omega) (by simp) (by simp)))))
                  go_wp2_with fail
                  go_ret
                  exact ⟨ret_int HE.out.symm, Lib.below_iterAt hb (Nat.le_refl _) _ _⟩
                | true =>
                  by_cases h0 : 0 < m
                  · have HN := Lib.hid (HR.out.trans (by rw [HD.out, decide_eq_true h0]; exact chkL_close : _ = Fld.chkL ((nums s).drop (k + 1)) false true))
                    go_wp2_with fail
                    go_roundw
                    case rel => exact ⟨k + 1, m, false, by omega, Lib.iterAt_heap _ _ _ _ _ HI.out, Lib.below_iterAt hb (Nat.le_refl _) _ _, rfl, rfl, by omega, by rw [HN.out, decide_eq_true h0]⟩
                    case measure => rw [iterPos_at HI.out, iterPos_of' HI.out]; omega
                  · have HE := Lib.hid (Fld.chkE_no (HC.out.trans (HR.out.trans (by rw [HD.out, decide_eq_false h0]; exact chkL_no (by omega) (by omega) (by omega) (by simp) (by simp)))))
                    go_wp2_with fail
                    go_ret
                    exact ⟨ret_int HE.out.symm, Lib.below_iterAt hb (Nat.le_refl _) _ _⟩
              · have HE := Lib.hid (Fld.chkE_no (HC.out.trans (HR.out.trans (by rw [HD.out]; exact chkL_no (by omega) (by omega) (by omega) (by omega) (by omega)))))
                have t1 : (c == 110) = false := by rw [beq_eq_false_iff_ne]; omega
                have t2 : (c == 98) = false := by rw [beq_eq_false_iff_ne]; omega
                have t3 : (c == 100) = false := by rw [beq_eq_false_iff_ne]; omega
                have t4 : (c == 40) = false := by rw [beq_eq_false_iff_ne]; omega
                have t5 : (c == 41) = false := by rw [beq_eq_false_iff_ne]; omega
                clear hL h40 h41
                go_wp2_with fail
                go_ret
                exact ⟨ret_int HE.out.symm, Lib.below_iterAt hb (Nat.le_refl _) _ _⟩
        · clear hn
          have HE := Lib.hid (Fld.chkE_no (HC.out.trans (HR.out.trans (by rw [hd]; exact chkL_no (by omega) (by omega) (by omega) (by omega) (by omega)))))
          have t1 : (c == 110) = false := by rw [beq_eq_false_iff_ne]; omega
          have t2 : (c == 98) = false := by rw [beq_eq_false_iff_ne]; omega
          have t3 : (c == 100) = false := by rw [beq_eq_false_iff_ne]; omega
          have t4 : (c == 40) = false := by rw [beq_eq_false_iff_ne]; omega
          have t5 : (c == 41) = false := by rw [beq_eq_false_iff_ne]; omega
          clear hd hd1
          go_wp2_with fail
          go_ret
          exact ⟨ret_int HE.out.symm, Lib.below_iterAt hb (Nat.le_refl _) _ _⟩
      · obtain rfl : k = s.size := by omega
        have hnx := fun ty => Lib.run_next_end_at (P := Try.prog) wr w.heap.size s s.size ty HI.out (by omega)
        have HD := Lib.hid (show (nums s).drop s.size = [] by rw [← nums_length, List.drop_length])
        cases ob with
        | false =>
          have HE := Lib.hid (Fld.chkE_ok (HC.out.trans (HR.out.trans (by rw [HD.out]; rfl))))
          go_wp2_with fail
          go_ret
          exact ⟨ret_int HE.out.symm, hb⟩
        | true =>
          have HE := Lib.hid (Fld.chkE_no (HC.out.trans (HR.out.trans (by rw [HD.out]; rfl))))
          go_wp2_with fail
          go_ret
          exact ⟨ret_int HE.out.symm, hb⟩
end
end Go.Proofs.Yteepaoklibflpaa
