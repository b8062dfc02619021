/-
  What a journal is asked to do: a structure over the program's functions' numbers, over whatever disks do what disks are asked to do; records in memory and the blocks they lie in.
  Strings as bytes in a walk: '[]byte(s)'; a region that draws its order and whose operations leave old memory alone.
  Records that a call gathers in new memory, wherever their bytes come from (a text's, a copy's); a text's bytes at a block that is named.
-/
import Derived.Test.YthopfpfmliookaaJp4
import Derived.Test.YthopfpfmliookaaJp7
import Derived.Test.YthopfpfmliookaaJp6
import Derived.Laws.IdiomStrings
import Derived.Laws.BytesArg
namespace Go.Proofs.Ythopfpfmliookaa
section
set_option linter.unusedSimpArgs false
set_option linter.unusedVariables false
open Go.RowKit Sha Dsk Jrn
/-- Records in memory, over the blocks bs. -/
structure RecsIn (w : World) (p : Option Addr) (n c : Nat) (l : Rs) (bs : List Nat) : Prop where
  len : n = l.length
  le : n ≤ c
  max : c ≤ 9223372036854775807
  nil : p = none → c = 0
  recs : ∃ ys : List SHdr, ys.map (·.1) = l ∧ At w p (ys.map cellS) ∧ (∀ y ∈ ys, GoodS w y ∧ (y.1 ≠ [] → ∀ a, y.2.1 = some a → a.block ∈ bs)) ∧ (l ≠ [] → ∀ a, p = some a → a.block ∈ bs)
  low : ∀ k ∈ bs, k < w.heap.size
theorem RecsIn.plain {w : World} {p : Option Addr} {n c : Nat} {l : Rs} {bs : List Nat} (h : RecsIn w p n c l bs) : Recs w p n c l := by
  obtain ⟨ys, h1, h2, h3, _⟩ := h.recs
  exact ⟨h.len, h.le, h.max, h.nil, ys, h1, h2, fun y hy => (h3 y hy).1⟩
theorem at_keep {w w' : World} {p : Option Addr} {cs : List Value} (h : At w p cs) (hk : cs ≠ [] → ∀ a, p = some a → w'.heap[a.block]? = w.heap[a.block]?) : At w' p cs := by
  by_cases e : cs = []
  · rw [e]; exact At.nil _ _
  · exact h.blocks (hk e)
theorem RecsIn.keep {w w' : World} {p : Option Addr} {n c : Nat} {l : Rs} {bs : List Nat} (h : RecsIn w p n c l bs) (hk : ∀ k ∈ bs, w'.heap[k]? = w.heap[k]?) : RecsIn w' p n c l bs := by
  obtain ⟨ys, h1, h2, h3, h4⟩ := h.recs
  refine ⟨h.len, h.le, h.max, h.nil, ⟨ys, h1, at_keep h2 fun e a ha => hk _ (h4 (by rw [← h1]; intro e'; exact e (by rw [List.map_eq_nil_iff] at e'; rw [e']; rfl)) a ha), fun y hy => ?_, h4⟩, fun k hb => ?_⟩
  · obtain ⟨g, hb⟩ := h3 y hy
    exact ⟨⟨g.bytes, at_keep g.at_ fun e a ha => hk _ (hb (fun e' => e (by rw [e']; rfl)) a ha), g.le, g.max, g.nil⟩, hb⟩
  · have h5 := hk k hb
    rw [Array.getElem?_eq_getElem (h.low k hb)] at h5
    exact (Array.getElem?_eq_some_iff.1 h5).1
theorem RecsIn.on {w w' : World} {p : Option Addr} {n c : Nat} {l : Rs} {bs : List Nat} (h : RecsIn w p n c l bs) (hb : Below w.heap.size w w') : RecsIn w' p n c l bs := h.keep fun k hk => hb.block k (h.low k hk)
theorem RecsIn.touch {w w' : World} {p : Option Addr} {n c : Nat} {l : Rs} {bs fp : List Nat} (h : RecsIn w p n c l bs) (ht : Touch fp w w') (ha : Apart bs fp) : RecsIn w' p n c l bs := h.keep fun k hk => ht.block k (h.low k hk) fun e => ha k hk e
theorem RecsIn.take {w : World} {p : Option Addr} {n c : Nat} {l : Rs} {bs : List Nat} (h : RecsIn w p n c l bs) (k : Nat) (hk : k ≤ n) : RecsIn w p k c (l.take k) bs := by
  obtain ⟨ys, h1, h2, h3, h4⟩ := h.recs
  refine ⟨by rw [List.length_take, ← h.len]; omega, by have := h.le; omega, h.max, h.nil, ⟨ys.take k, by rw [List.map_take, h1], ?_, fun y hy => h3 y (List.mem_of_mem_take hy), fun e => h4 fun e' => e (by rw [e']; simp)⟩, h.low⟩
  rw [List.map_take]
  have e : ys.map cellS = (ys.map cellS).take k ++ (ys.map cellS).drop k := (List.take_append_drop ..).symm
  rw [e] at h2
  exact h2.front
theorem RecsIn.get {w : World} {p : Option Addr} {n c : Nat} {l : Rs} {bs : List Nat} (h : RecsIn w p n c l bs) (i : Nat) (hi : i < l.length) :
    ∃ b off q d, p = some ⟨b, off, none⟩ ∧ w.cell? ⟨b, off + i, none⟩ = some (.slice q l[i].length d) ∧ GoodC w l[i] q d ∧ (l[i] ≠ [] → ∀ a, q = some a → a.block ∈ bs) := by
  obtain ⟨ys, rfl, h2, h3, _⟩ := h.recs
  rw [List.length_map] at hi
  obtain ⟨b, off, rfl, hc⟩ := h2.addr (by rw [List.length_map]; omega)
  obtain ⟨g, hb⟩ := h3 ys[i] (List.getElem_mem hi)
  refine ⟨b, off, (ys[i]).2.1, (ys[i]).2.2, rfl, ?_, ?_, by simpa using hb⟩
  · rw [hc i (cellS ys[i]) (by rw [List.getElem?_map, List.getElem?_eq_getElem hi]; rfl)]
    simp [cellS]
  · have h5 : GoodC w (ys[i]).1 (ys[i]).2.1 (ys[i]).2.2 := ⟨g.bytes, g.at_, g.le, g.max, g.nil⟩
    simpa using h5
/-- Records that came in lie in blocks that were there. -/
theorem recs_in {w : World} {p : Option Addr} {n c : Nat} {l : Rs} (h : Recs w p n c l) : ∃ bs, RecsIn w p n c l bs := by
  obtain ⟨ys, h1, h2, h3⟩ := h.recs
  refine ⟨(if l = [] then [] else (p.map (·.block)).toList) ++ ys.flatMap (fun y => if y.1 = [] then [] else (y.2.1.map (·.block)).toList), h.len, h.le, h.max, h.nil, ⟨ys, h1, h2, fun y hy => ⟨h3 y hy, fun e a ha => ?_⟩, fun e a ha => ?_⟩, fun k hk => ?_⟩
  · exact List.mem_append_right _ (List.mem_flatMap.2 ⟨y, hy, by rw [if_neg e, ha]; simp⟩)
  · exact List.mem_append_left _ (by rw [if_neg e, ha]; simp)
  · rcases List.mem_append.1 hk with hk | hk
    · split at hk
      · simp at hk
      · rename_i e
        have hl : 0 < (ys.map cellS).length := by
          rw [List.length_map]
          rcases Nat.eq_zero_or_pos ys.length with h0 | h0
          · exact absurd (by rw [← h1, List.eq_nil_of_length_eq_zero h0]; rfl) e
          · exact h0
        obtain ⟨b, off, rfl, hc⟩ := h2.addr hl
        simp at hk; subst hk
        exact World.block_lt_of_cell? w _ (hc 0 _ (List.getElem?_eq_getElem hl))
    · obtain ⟨y, hy, hk⟩ := List.mem_flatMap.1 hk
      split at hk
      · simp at hk
      · rename_i e
        have hl : 0 < (y.1.map v8).length := by rw [List.length_map]; exact List.length_pos_iff.2 e
        obtain ⟨b, off, ha, hc⟩ := (h3 y hy).at_.addr hl
        rw [ha] at hk; simp at hk; subst hk
        exact World.block_lt_of_cell? w _ (hc 0 _ (List.getElem?_eq_getElem hl))
/-- How a journal lies in memory: its records, the block of its disk. -/
abbrev JRep := ObjRep (Rs × Nat)
/-- A call on a journal: what it answers, what both are behind it. -/
def JDone (RD : DiskRep) (RJ : JRep) (bd : Nat) (fd : List Nat) (bj : Nat) (fj : List Nat) (s' : DState) (L' : Rs) (v : Value) (w : World) (e : Ending) (w' : World) : Prop :=
  e = .returned v ∧ ∃ fd' fj', RD w' bd fd' s' ∧ RJ w' bj fj' (L', bd) ∧ Apart fd' fj' ∧ Touch (fd ++ fj) w w' ∧ From (fd ++ fj) (fd' ++ fj') w
def JOpenDone (RD : DiskRep) (RJ : JRep) (bd : Nat) (fd : List Nat) (s : DState) (w : World) (e : Ending) (w' : World) : Prop :=
  (opE s = 0 ∧ ∃ bj fj fd', e = .returned (.tuple #[optr bj, i64v 0]) ∧ RD w' bd fd' (opS s) ∧ RJ w' bj fj (opL s, bd) ∧ Apart fd' fj ∧ (∀ k ∈ fj, w.heap.size ≤ k) ∧ Touch fd w w' ∧ From fd fd' w) ∨
  (opE s ≠ 0 ∧ ∃ fd', e = .returned (.tuple #[.pointer none, i64v (opE s)]) ∧ RD w' bd fd' (opS s) ∧ Touch fd w w' ∧ From fd fd' w)
def JAllDone (L : Rs) (w : World) (e : Ending) (w' : World) : Prop := ∃ p n c bs, e = .returned (.slice p n c) ∧ RecsIn w' p n c L bs ∧ (∀ k ∈ bs, w.heap.size ≤ k) ∧ Below w.heap.size w w'
def SaysB (v : Value) (w : World) (e : Ending) (w' : World) : Prop := e = .returned v ∧ Below w.heap.size w w'
/-- What a law of journals asks of disks itself. -/
structure DisksFew (R : DiskRep) : Prop where
  held : Held R
  ok : ∀ {w b fp s}, R w b fp s → Ok s
  new : ∀ (n : Int) (w : World), fit64 n → Calls Try.prog 40 #[i64v n] w (DNewDone R n w)
  fuse : ∀ (b : Nat) (fp : List Nat) (s : DState) (n : Int) (w : World), R w b fp s → fit64 n → Calls Try.prog 18 #[optr b, i64v n] w (ODone R b fp (fuseS s n) (i64v (fuseE n)) w)
  crash : ∀ (b : Nat) (fp : List Nat) (s : DState) (n : Int) (w : World), R w b fp s → fit64 n → Calls Try.prog 22 #[optr b, i64v n] w (ODone R b fp (crashS s n) (i64v (crashE n)) w)
structure JournalOK (RD : DiskRep) (RJ : JRep) : Prop where
  held : Held RJ
  open_ : ∀ (bd : Nat) (fd : List Nat) (s : DState) (w : World), RD w bd fd s → s.steps ≤ 1000000 → (s.out = false → s.next = []) → Calls Try.prog 14 #[optr bd] w (JOpenDone RD RJ bd fd s w)
  open0 : ∀ (w : World), Calls Try.prog 14 #[.pointer none] w (SaysB (.tuple #[.pointer none, i64v 1]) w)
  append : ∀ (bd : Nat) (fd : List Nat) (s : DState) (bj : Nat) (fj : List Nat) (L : Rs) (zs : List Int) (n : Nat) (p : Option Addr) (cap : Nat) (w : World), RD w bd fd s → RJ w bj fj (L, bd) → Apart fd fj → Tied L s → s.steps ≤ 1000000 →
    zs.length = n → n ≤ 1000000 → GoodC w zs p cap → ApartC zs p (fd ++ fj) → Calls Try.prog 8 #[optr bj, .slice p n cap] w (JDone RD RJ bd fd bj fj (japS s zs) (japL L s zs) (i64v (japE s zs)) w)
  sync : ∀ (bd : Nat) (fd : List Nat) (s : DState) (bj : Nat) (fj : List Nat) (L : Rs) (w : World), RD w bd fd s → RJ w bj fj (L, bd) → Apart fd fj → Tied L s → s.steps ≤ 1000000 →
    Calls Try.prog 9 #[optr bj] w (JDone RD RJ bd fd bj fj (syncS s) L (i64v (syncE s)) w)
  rewrite : ∀ (bd : Nat) (fd : List Nat) (s : DState) (bj : Nat) (fj : List Nat) (L l : Rs) (p : Option Addr) (n c : Nat) (bs : List Nat) (w : World), RD w bd fd s → RJ w bj fj (L, bd) → Apart fd fj → Tied L s → s.steps ≤ 1000000 →
    RecsIn w p n c l bs → Apart bs (fd ++ fj) → n ≤ 1000 → (∀ x ∈ l, x.length ≤ 100000) → Calls Try.prog 10 #[optr bj, .slice p n c] w (JDone RD RJ bd fd bj fj (jrwS s l) (jrwL L s l) (i64v (jrwE s l)) w)
  all : ∀ (bd bj : Nat) (fj : List Nat) (L : Rs) (w : World), RJ w bj fj (L, bd) → (Frm.frs L).length ≤ 1000000 → Rec2 L → Calls Try.prog 11 #[optr bj] w (JAllDone L w)
  len : ∀ (bd bj : Nat) (fj : List Nat) (L : Rs) (w : World), RJ w bj fj (L, bd) → (Frm.frs L).length ≤ 1000000 → Rec2 L → Calls Try.prog 12 #[optr bj] w (SaysB (i64v L.length) w)
  firm : ∀ (bd : Nat) (fd : List Nat) (s : DState) (bj : Nat) (fj : List Nat) (L : Rs) (w : World), RD w bd fd s → RJ w bj fj (L, bd) → Apart fd fj → Tied L s → Calls Try.prog 13 #[optr bj] w (SaysB (i64v (firmN L s.firm)) w)
section
variable {RD : DiskRep} {RJ : JRep} {w0 w w' : World} {bd bj : Nat} {fd fj : List Nat} {s s' : DState} {L L' : Rs}
/-- A disk and a journal over it, both made since w0. -/
abbrev Duo (RD : DiskRep) (RJ : JRep) (w0 w : World) (bd : Nat) (fd : List Nat) (s : DState) (bj : Nat) (fj : List Nat) (L : Rs) : Prop := Pair RD RJ w0 w bd fd s bj fj (L, bd)
theorem apart_app {a b c : List Nat} (h1 : Apart a b) (h2 : Apart a c) : Apart a (b ++ c) := fun k hk hm => by
  rcases List.mem_append.1 hm with hm | hm
  · exact h1 k hk hm
  · exact h2 k hk hm
theorem Pair.new12 (h : Duo RD RJ w0 w bd fd s bj fj L) : ∀ k ∈ fd ++ fj, w0.heap.size ≤ k := fun k hk => by
  rcases List.mem_append.1 hk with hk | hk
  · exact h.new1 k hk
  · exact h.new2 k hk
/-- Behind a call of the journal's. -/
theorem Pair.jstep (h : Duo RD RJ w0 w bd fd s bj fj L) {fd' fj' : List Nat} (hd : RD w' bd fd' s') (hj : RJ w' bj fj' (L', bd)) (ha : Apart fd' fj') (ht : Touch (fd ++ fj) w w') (hf : From (fd ++ fj) (fd' ++ fj') w) : Duo RD RJ w0 w' bd fd' s' bj fj' L' := by
  have hn := hf.low h.new12 h.below.size
  exact ⟨hd, hj, ha, fun k hk => hn k (List.mem_append_left _ hk), fun k hk => hn k (List.mem_append_right _ hk), h.below.trans (ht.below h.new12 h.below.size)⟩
/-- What lies below w0 is apart from both. -/
theorem Pair.apart0 (h : Duo RD RJ w0 w bd fd s bj fj L) {bs : List Nat} (hb : ∀ k ∈ bs, k < w0.heap.size) : Apart bs (fd ++ fj) := fun k h1 h2 => by have := hb k h1; have := h.new12 k h2; omega
theorem Pair.apartC (h : Duo RD RJ w0 w bd fd s bj fj L) {zs : List Int} {p : Option Addr} (hb : zs ≠ [] → ∀ a, p = some a → a.block < w0.heap.size) : ApartC zs p (fd ++ fj) := fun hz a ha hm => by have := hb hz a ha; have := h.new12 _ hm; omega
/-- Opened over a new disk's state. -/
theorem Solo.opened (S : Solo RD w0 w bd fd s) {fd' : List Nat} (hd : RD w' bd fd' s') (hj : RJ w' bj fj (L, bd)) (ha : Apart fd' fj) (hn : ∀ k ∈ fj, w.heap.size ≤ k) (ht : Touch fd w w') (hf : From fd fd' w) : Duo RD RJ w0 w' bd fd' s' bj fj L :=
  ⟨hd, hj, ha, hf.low S.new S.below.size, fun k hk => Nat.le_trans S.below.size (hn k hk), S.below.trans (ht.below S.new S.below.size)⟩
end
end
section
set_option linter.unusedSimpArgs false
set_option linter.unusedVariables false
variable {P : Program}
/-- A string's bytes as numbers. -/
def nums (s : ByteArray) : List Int := s.data.toList.map fun b => (b.toNat : Int)
theorem nums_length (s : ByteArray) : (nums s).length = s.size := by
  unfold nums; rw [List.length_map, Array.length_toList]; rfl
theorem nums_bd (s : ByteArray) : ∀ n ∈ nums s, 0 ≤ n ∧ n ≤ 255 := by
  intro n hn
  simp only [nums, List.mem_map] at hn
  obtain ⟨b, _, rfl⟩ := hn
  have := b.toNat_lt
  omega
theorem nums_get (s : ByteArray) (i : Nat) (h : i < s.size) : ((nums s).map (Value.int .u8))[i]? = some (Value.int .u8 (s.data.toList[i]'(by simpa using h)).toNat) := by
  simp [nums, h]
attribute [irreducible] nums
section
variable {ops : Array Oper} {rest : List Oper} {o : Oper} {a : Act} {w : World} {Q : Exit → Act → World → Prop} {K : Act → World → Prop}
theorem wp_strbytes (src dst e : TypeId) (x : Operand) (ho : o.op = .convert src dst x) (s : ByteArray) (hx : a.eval x = .string s) (hs : P.underlying src = some .string) (hd : P.underlying dst = some (.slice e)) (he : P.underlying e = some (.int .u8))
    (hm : s.size ≤ maxLen)
    (h : ∀ p cap w', At w' p ((nums s).map (Value.int .u8)) → (p = none → cap = 0) → s.size ≤ cap → cap ≤ maxLen → RowKit.Below w.heap.size w w' → K (a.put o.dst (.slice p s.size cap)) w') : o.wp P a w K Q := by
  unfold Oper.wp execOp
  have hr := run_bytes_of_string (P := P) w src dst e s hs hd he
  simp only [ho, hx, Sem.run_bind, hr, Result.andThen_ok, Sem.run_pure]
  refine h _ _ _ (Or.inr ⟨w.heap.size, 0, rfl, fun i v hi => ?_⟩) (fun h => by cases h) (grownCap_ge _ _ _ _) (grownCap_le_maxLen _ _ _ _ hm) ((RowKit.Below.refl _ w).drew.alloc (Nat.le_refl _) _)
  have hb : (w.drew.alloc (.cells (bytesRow s (grownCap w s.size 0 e)) e ((bytesRow s (grownCap w s.size 0 e)).size, (bytesRow s (grownCap w s.size 0 e)).size + 1))).heap[w.heap.size]? = some (.cells (bytesRow s (grownCap w s.size 0 e)) e ((bytesRow s (grownCap w s.size 0 e)).size, (bytesRow s (grownCap w s.size 0 e)).size + 1)) := heap_alloc_new w.drew _
  rw [Nat.zero_add, cell_of_row _ _ i _ _ _ hb]
  have hlt : i < s.size := by
    rcases Nat.lt_or_ge i s.size with h | h
    · exact h
    · rw [List.getElem?_eq_none (by rw [List.length_map, nums_length]; exact h)] at hi; cases hi
  unfold bytesRow
  rw [Array.getElem?_append_left (by simpa using hlt)]
  simpa [nums] using hi
theorem wpList_strbytes (hgd : o.guard = none) (src dst e : TypeId) (x : Operand) (ho : o.op = .convert src dst x) (s : ByteArray) (hx : a.eval x = .string s) (hs : P.underlying src = some .string) (hd : P.underlying dst = some (.slice e)) (he : P.underlying e = some (.int .u8))
    (hm : s.size ≤ maxLen)
    (h : ∀ p cap w', At w' p ((nums s).map (Value.int .u8)) → (p = none → cap = 0) → s.size ≤ cap → cap ≤ maxLen → RowKit.Below w.heap.size w w' → wpList P ops Q rest (a.put o.dst (.slice p s.size cap)) w') : wpList P ops Q (o :: rest) a w :=
  wpList_plain hgd fun _ hK => wp_strbytes src dst e x ho s hx hs hd he hm fun p cap w' h1 h2 h3 h4 h5 => hK _ _ (h p cap w' h1 h2 h3 h4 h5)
/-- ONE WALK SERVES EVERY ORDER where every operation leaves old memory alone and yields what is no address of new memory. -/
theorem region_grown {id : Nat} {l : List Oper} (hm : P.follows .mixedOrders = true) (hB : Region.lexB .any l.toArray = true)
    (h : wpQuiet P l.toArray (fun w' => RowKit.Below w.heap.size w w') (fun a' => ∀ w', RowKit.Below w.heap.size w w' → Q .normal a' w') l a) : (Code.region id l.toArray true).wp P Q a w :=
  wp_region_quiet (C := fun w' => RowKit.Below w.heap.size w w') hm hB ((RowKit.Below.refl _ w).drew) (by simpa using h)
end
end
section
set_option linter.unusedSimpArgs false
set_option linter.unusedVariables false
open Go.RowKit Sha Jrn
/-- A record in a block of bytes that is new. -/
def NewRec (B : Nat) (w : World) (y : SHdr) : Prop := GoodS w y ∧ ∀ a, y.2.1 = some a → B ≤ a.block ∧ ∃ c fz, w.heap[a.block]? = some (Obj.cells c 5 fz)
structure RecsNew (B : Nat) (w : World) (v : Value) (ys : List SHdr) : Prop where
  own : w.ownsRow B 22 1 v ys.length (ys.map cellS)
  good : ∀ y ∈ ys, NewRec B w y
theorem RecsNew.nil (B : Nat) (w : World) : RecsNew B w (.slice none 0 0) [] := ⟨World.ownsRow_nil _ _ _ _, by simp⟩
theorem NewRec.keep {B : Nat} {w w' : World} {y : SHdr} (h : NewRec B w y) (hk : ∀ (k : Nat) (c : Array Value) (fz : Nat × Nat), w.heap[k]? = some (Obj.cells c 5 fz) → w'.heap[k]? = some (Obj.cells c 5 fz)) : NewRec B w' y := by
  obtain ⟨g, hb⟩ := h
  have hh : ∀ a, y.2.1 = some a → w'.heap[a.block]? = w.heap[a.block]? := fun a ha => by obtain ⟨_, c, fz, e⟩ := hb a ha; rw [hk _ _ _ e, e]
  exact ⟨⟨g.bytes, g.at_.blocks hh, g.le, g.max, g.nil⟩, fun a ha => ⟨(hb a ha).1, by obtain ⟨_, c, fz, e⟩ := hb a ha; exact ⟨c, fz, hk _ _ _ e⟩⟩⟩
theorem NewRec.on {B : Nat} {w w' : World} {y : SHdr} (h : NewRec B w y) (hb : Below w.heap.size w w') : NewRec B w' y := h.keep fun k c fz e => by rw [hb.block k (Array.getElem?_eq_some_iff.1 e).1]; exact e
theorem RecsNew.on {B : Nat} {w w' : World} {v : Value} {ys : List SHdr} (h : RecsNew B w v ys) (hb : Below w.heap.size w w') : RecsNew B w' v ys := by
  refine ⟨⟨h.own.1, ?_⟩, fun y hy => (h.good y hy).on hb⟩
  rcases h.own.2 with h' | ⟨g, cap, cur, hv, hg, hh, h4⟩
  · exact Or.inl h'
  · exact Or.inr ⟨g, cap, cur, hv, hg, by rw [hb.block g (h.own.lt g (by rw [hv]; rfl)).2]; exact hh, h4⟩
theorem RecsNew.snoc {B : Nat} {w w' : World} {v v' : Value} {ys : List SHdr} {y : SHdr} {o : Obj} (h : RecsNew B w v ys) (hy : NewRec B w y) (hg : (w.alloc o).grownBy w' v.ownBlock) (hown : w'.ownsRow B 22 1 v' (ys.length + 1) (ys.map cellS ++ [cellS y])) : RecsNew B w' v' (ys ++ [y]) := by
  have hc : ∀ (k : Nat) (c : Array Value) (fz : Nat × Nat), w.heap[k]? = some (Obj.cells c 5 fz) → w'.heap[k]? = some (Obj.cells c 5 fz) := by
    intro k c fz hh
    have hk : k < w.heap.size := (Array.getElem?_eq_some_iff.1 hh).1
    have hne : some k ≠ v.ownBlock := by
      intro e
      rcases h.own.2 with ⟨hv, _⟩ | ⟨g, cap, cur, hv, _, hh', _⟩
      · rw [hv] at e; cases e
      · rw [hv] at e
        cases e
        rw [hh'] at hh
        injection hh with hh; injection hh with _ ht
        exact us_ne ht.symm
    rw [hg.block k (by simp; omega) hne, (World.grownBy_alloc w o none).block k hk (by simp)]
    exact hh
  refine ⟨by simpa using hown, fun z hz => ?_⟩
  rcases List.mem_append.1 hz with hz | hz
  · exact (h.good z hz).keep hc
  · rw [List.mem_singleton.1 hz]; exact hy.keep hc
/-- What is told of them. -/
theorem RecsNew.told {B : Nat} {w : World} {v : Value} {ys : List SHdr} (h : RecsNew B w v ys) : ∃ p c bs, v = .slice p ys.length c ∧ RecsIn w p ys.length c (ys.map (·.1)) bs ∧ ∀ k ∈ bs, B ≤ k := by
  obtain ⟨p, cap, hv, hl, hm, hA, _, hn⟩ := own_at h.own
  refine ⟨p, cap, (p.map (·.block)).toList ++ ys.flatMap (fun y => (y.2.1.map (·.block)).toList), hv, ⟨by simp, hl, by unfold maxLen at hm; omega, hn, ⟨ys, rfl, hA, fun y hy => ⟨(h.good y hy).1, fun _ a ha => ?_⟩, fun _ a ha => ?_⟩, fun k hk => ?_⟩, fun k hk => ?_⟩
  · exact List.mem_append_right _ (List.mem_flatMap.2 ⟨y, hy, by rw [ha]; simp⟩)
  · exact List.mem_append_left _ (by rw [ha]; simp)
  all_goals
    rcases List.mem_append.1 hk with hk | hk
    · have hk2 : v.ownBlock = some k := by
        rw [hv]
        cases p with
        | none => simp at hk
        | some a => simp at hk; rw [hk]; rfl
      have := h.own.lt k hk2
      omega
    · obtain ⟨y, hy, hk⟩ := List.mem_flatMap.1 hk
      cases hq : y.2.1 with
      | none => rw [hq] at hk; simp at hk
      | some a =>
        rw [hq] at hk; simp at hk; subst hk
        obtain ⟨h1, c, fz, h2⟩ := (h.good y hy).2 a hq
        have := (Array.getElem?_eq_some_iff.1 h2).1
        omega
section
variable {P : Program} {ops : Array Oper} {rest : List Oper} {o : Oper} {a : Act} {w : World} {Q : Exit → Act → World → Prop}
/-- A text's bytes: in a new block. -/
theorem wpList_textbytes (hgd : o.guard = none) (src dst e : TypeId) (x : Operand) (ho : o.op = .convert src dst x) (s : ByteArray) (hx : a.eval x = .string s) (hs : P.underlying src = some .string) (hd : P.underlying dst = some (.slice e)) (he : P.underlying e = some (.int .u8))
    (hm : s.size ≤ maxLen)
    (h : ∀ cap w', At w' (some ⟨w.heap.size, 0, none⟩) ((nums s).map (Value.int .u8)) → s.size ≤ cap → cap ≤ maxLen → (∃ c fz, w'.heap[w.heap.size]? = some (.cells c e fz)) → RowKit.Below w.heap.size w w' → wpList P ops Q rest (a.put o.dst (.slice (some ⟨w.heap.size, 0, none⟩) s.size cap)) w') : wpList P ops Q (o :: rest) a w := by
  refine wpList_plain hgd fun K hK => ?_
  unfold Oper.wp execOp
  have hr := run_bytes_of_string (P := P) w src dst e s hs hd he
  simp only [ho, hx, Sem.run_bind, hr, Result.andThen_ok, Sem.run_pure]
  have hb : (w.drew.alloc (.cells (bytesRow s (grownCap w s.size 0 e)) e ((bytesRow s (grownCap w s.size 0 e)).size, (bytesRow s (grownCap w s.size 0 e)).size + 1))).heap[w.heap.size]? = some (.cells (bytesRow s (grownCap w s.size 0 e)) e ((bytesRow s (grownCap w s.size 0 e)).size, (bytesRow s (grownCap w s.size 0 e)).size + 1)) := heap_alloc_new w.drew _
  refine hK _ _ (h _ _ (Or.inr ⟨w.heap.size, 0, rfl, fun i v hi => ?_⟩) (grownCap_ge _ _ _ _) (grownCap_le_maxLen _ _ _ _ hm) ⟨_, _, hb⟩ ((RowKit.Below.refl _ w).drew.alloc (Nat.le_refl _) _))
  rw [Nat.zero_add, cell_of_row _ _ i _ _ _ hb]
  have hlt : i < s.size := by
    rcases Nat.lt_or_ge i s.size with h | h
    · exact h
    · rw [List.getElem?_eq_none (by rw [List.length_map, nums_length]; exact h)] at hi; cases hi
  unfold bytesRow
  rw [Array.getElem?_append_left (by simpa using hlt)]
  rw [nums_get s i hlt] at hi
  have hlt' : i < s.data.size := hlt
  rw [Array.getElem?_map, Array.getElem?_eq_getElem hlt']
  simpa using hi
end
end
end Go.Proofs.Ythopfpfmliookaa
