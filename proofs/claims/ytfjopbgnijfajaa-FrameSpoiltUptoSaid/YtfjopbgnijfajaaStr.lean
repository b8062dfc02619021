/-
  Strings as bytes in a walk: '[]byte(s)'; a region that draws its order and whose operations leave old memory alone.
-/
import Derived.Test.YtfjopbgnijfajaaOwn
import Derived.Laws.IdiomStrings
import Derived.Laws.BytesArg
namespace Go.Proofs.Ytfjopbgnijfajaa
set_option linter.unusedSimpArgs false
set_option linter.unusedVariables false
variable {P : Program}
/-- A string's bytes as numbers. -/
def nums (s : ByteArray) : List Int := s.data.toList.map fun b => (b.toNat : Int)
theorem nums_length (s : ByteArray) : (nums s).length = s.size := by
  unfold nums; rw [List.length_map, Array.length_toList]; rfl
theorem nums_bd (s : ByteArray) : ∀ n ∈ nums s, 0 ≤ n ∧ n ≤ 255 := by
  intro n hn
  simp only [nums, List.mem_map] at hn
  obtain ⟨b, _, rfl⟩ := hn
  have := b.toNat_lt
  omega
attribute [irreducible] nums
section
variable {ops : Array Oper} {rest : List Oper} {o : Oper} {a : Act} {w : World} {Q : Exit → Act → World → Prop} {K : Act → World → Prop}
theorem wp_strbytes (src dst e : TypeId) (x : Operand) (ho : o.op = .convert src dst x) (s : ByteArray) (hx : a.eval x = .string s) (hs : P.underlying src = some .string) (hd : P.underlying dst = some (.slice e)) (he : P.underlying e = some (.int .u8))
    (hm : s.size ≤ maxLen)
    (h : ∀ p cap w', At w' p ((nums s).map (Value.int .u8)) → (p = none → cap = 0) → s.size ≤ cap → cap ≤ maxLen → RowKit.Below w.heap.size w w' → K (a.put o.dst (.slice p s.size cap)) w') : o.wp P a w K Q := by
  unfold Oper.wp execOp
  have hr := run_bytes_of_string (P := P) w src dst e s hs hd he
  simp only [ho, hx, Sem.run_bind, hr, Result.andThen_ok, Sem.run_pure]
  refine h _ _ _ (Or.inr ⟨w.heap.size, 0, rfl, fun i v hi => ?_⟩) (fun h => by cases h) (grownCap_ge _ _ _ _) (grownCap_le_maxLen _ _ _ _ hm) ((RowKit.Below.refl _ w).drew.alloc (Nat.le_refl _) _)
  have hb : (w.drew.alloc (.cells (bytesRow s (grownCap w s.size 0 e)) e ((bytesRow s (grownCap w s.size 0 e)).size, (bytesRow s (grownCap w s.size 0 e)).size + 1))).heap[w.heap.size]? = some (.cells (bytesRow s (grownCap w s.size 0 e)) e ((bytesRow s (grownCap w s.size 0 e)).size, (bytesRow s (grownCap w s.size 0 e)).size + 1)) := heap_alloc_new w.drew _
  rw [Nat.zero_add, cell_of_row _ _ i _ _ _ hb]
  have hlt : i < s.size := by
    rcases Nat.lt_or_ge i s.size with h | h
    · exact h
    · rw [List.getElem?_eq_none (by rw [List.length_map, nums_length]; exact h)] at hi; cases hi
  unfold bytesRow
  rw [Array.getElem?_append_left (by simpa using hlt)]
  simpa [nums] using hi
theorem wpList_strbytes (hgd : o.guard = none) (src dst e : TypeId) (x : Operand) (ho : o.op = .convert src dst x) (s : ByteArray) (hx : a.eval x = .string s) (hs : P.underlying src = some .string) (hd : P.underlying dst = some (.slice e)) (he : P.underlying e = some (.int .u8))
    (hm : s.size ≤ maxLen)
    (h : ∀ p cap w', At w' p ((nums s).map (Value.int .u8)) → (p = none → cap = 0) → s.size ≤ cap → cap ≤ maxLen → RowKit.Below w.heap.size w w' → wpList P ops Q rest (a.put o.dst (.slice p s.size cap)) w') : wpList P ops Q (o :: rest) a w :=
  wpList_plain hgd fun _ hK => wp_strbytes src dst e x ho s hx hs hd he hm fun p cap w' h1 h2 h3 h4 h5 => hK _ _ (h p cap w' h1 h2 h3 h4 h5)
/-- ONE WALK SERVES EVERY ORDER where every operation leaves old memory alone and yields what is no address of new memory. -/
theorem region_grown {id : Nat} {l : List Oper} (hm : P.follows .mixedOrders = true) (hB : Region.lexB .any l.toArray = true)
    (h : wpQuiet P l.toArray (fun w' => RowKit.Below w.heap.size w w') (fun a' => ∀ w', RowKit.Below w.heap.size w w' → Q .normal a' w') l a) : (Code.region id l.toArray true).wp P Q a w :=
  wp_region_quiet (C := fun w' => RowKit.Below w.heap.size w w') hm hB ((RowKit.Below.refl _ w).drew) (by simpa using h)
end
end Go.Proofs.Ytfjopbgnijfajaa
