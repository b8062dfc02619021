/-
  Plain mathematics of notes, three: what the program reads of items, whether they may be or not; what comes of bytes.
  The table of forms in the wire package: made, and looked into (written by mknwa15.py).
  Which texts are shapes: the contract of Check.
  The writer's memory; how a number is written.
  What goes through a shape's letters asks of whatever is done with each: a doer. Letters one by one.
-/
import Derived.Test.YtbogjfmefkhglaaGreatP1
import Derived.Test.YtbogjfmefkhglaaGreatP4
import Derived.Test.YtbogjfmefkhglaaGreatP2
import Derived.Test.YtbogjfmefkhglaaGreatP3
import Derived.MapKept
import Derived.Laws.Rows
import Derived.Test.YtbogjfmefkhglaaGreatRows
import Derived.Lib.OthersKept
import Derived.Deep.LoopGhost
import Derived.WalkSpells
import Derived.IntWalk
import Derived.WalkLawsBesides
namespace Go.Proofs.YtbogjfmefkhglaaGreat
section
set_option linter.unusedSimpArgs false
set_option linter.unusedVariables false
namespace Nte
open Fld (Itm zero32 putS walkL rep once okFor bound enc)
open Frm (Bytes)
def pairOk (a b : Int) : Prop := (0 ≤ a ∧ a ≤ 2147483647) ∧ (0 ≤ b ∧ b ≤ 64) ∧ (a = 0 ↔ b = 0)
instance (a b : Int) : Decidable (pairOk a b) := by unfold pairOk; infer_instance
/-- A letter's items, where that of Yes is any number. -/
def itsR (x : Not) (v : Int) (c : Int) : List Itm := if c = 121 then [iN v] else its x c
def setR (x : Not) (v : Int) (y : Not) (c : Int) : Not := if c = 121 then { y with Y := decide (v = 1) } else setf x y c
def okR (x : Not) (v : Int) (c : Int) : Prop :=
  if c = 99 then Call x else if c = 115 then setOk x.S else if c = 104 then nodeOk x.H else if c = 98 then pairOk x.B1 x.B2 ∧ ¬ (x.B1 = 0 ∧ x.B2 = 0) else if c = 111 then pairOk x.O1 x.O2 else
  if c = 121 then 0 ≤ v ∧ v ≤ 1 else if c = 105 then x.I.length ≤ 64 else if c = 119 then x.W.length ≤ 64 ∧ ∀ m ∈ x.W, m.May else True
instance (x : Not) (v c : Int) : Decidable (okR x v c) := by unfold okR; infer_instance
def itemsR (x : Not) (v : Int) : List Itm := iN x.K :: iN x.F :: iN x.T :: (letters x.K).flatMap (itsR x v)
def noteR (x : Not) (v : Int) : Not := (letters x.K).foldl (setR x v) (base x.K x.F x.T)
/-- Does what a note has agree with what it says? -/
def agr (y : Not) : Prop := ((y.K = 8 ∨ y.K = 10 ∨ y.K = 15) → y.Y = false → y.X = []) ∧ (y.K = 12 → y.Y = true → y.O1 = 0 ∧ y.O2 = 0)
instance (y : Not) : Decidable (agr y) := by unfold agr; infer_instance
def headR (x : Not) : Prop := nodeOk x.F ∧ nodeOk x.T ∧ x.F ≠ x.T
instance (x : Not) : Decidable (headR x) := by unfold headR; infer_instance
def mayR (x : Not) (v : Int) : Prop := headR x ∧ (∀ c ∈ letters x.K, okR x v c) ∧ agr (noteR x v)
instance (x : Not) (v : Int) : Decidable (mayR x v) := by unfold mayR; infer_instance
theorem yes_one (y : Bool) : decide (yes y = 1) = y := by unfold yes; cases y <;> simp
theorem itsR_yes (x : Not) {c : Int} (hc : isT c) : itsR x (yes x.Y) c = its x c := by
  rcases hc with rfl | rfl | rfl | rfl | rfl | rfl | rfl | rfl | rfl | rfl <;> simp [itsR, its]
theorem setR_yes (x y : Not) {c : Int} (hc : isT c) : setR x (yes x.Y) y c = setf x y c := by
  rcases hc with rfl | rfl | rfl | rfl | rfl | rfl | rfl | rfl | rfl | rfl <;> simp [setR, setf, yes_one]
theorem flat_on {α β : Type} (f g : α → List β) (l : List α) (h : ∀ c ∈ l, f c = g c) : l.flatMap f = l.flatMap g := by
  induction l with
  | nil => rfl
  | cons a l ih => rw [List.flatMap_cons, List.flatMap_cons, h a (List.mem_cons_self ..), ih (fun c hc => h c (List.mem_cons_of_mem _ hc))]
theorem itemsR_yes (x : Not) : itemsR x (yes x.Y) = items x := by
  unfold itemsR items
  congr 3
  exact flat_on _ _ _ fun c hc => itsR_yes x (letters_isT _ c hc)
theorem foldl_on {α β : Type} (f g : β → α → β) (l : List α) : ∀ (b : β), (∀ c ∈ l, ∀ b, f b c = g b c) → l.foldl f b = l.foldl g b := by
  induction l with
  | nil => intro b _; rfl
  | cons a l ih => intro b h; rw [List.foldl_cons, List.foldl_cons, h a (List.mem_cons_self ..), ih _ (fun c hc => h c (List.mem_cons_of_mem _ hc))]
theorem noteR_yes (x : Not) : noteR x (yes x.Y) = (letters x.K).foldl (setf x) (base x.K x.F x.T) :=
  foldl_on _ _ _ _ fun c hc b => setR_yes x b (letters_isT _ c hc)
theorem kinds {K : Int} (h : 1 ≤ K ∧ K ≤ 19) : K = 1 ∨ K = 2 ∨ K = 3 ∨ K = 4 ∨ K = 5 ∨ K = 6 ∨ K = 7 ∨ K = 8 ∨ K = 9 ∨ K = 10 ∨ K = 11 ∨ K = 12 ∨ K = 13 ∨ K = 14 ∨ K = 15 ∨ K = 16 ∨ K = 17 ∨ K = 18 ∨ K = 19 := by omega
/-- A note that may be is read as it is, and may be. -/
theorem can_may {x : Not} (h : Can x) : mayR x (yes x.Y) ∧ noteR x (yes x.Y) = x := by
  have he : noteR x (yes x.Y) = x := by rw [noteR_yes, set_all h]
  refine ⟨?_, he⟩
  unfold mayR
  rw [he]
  obtain ⟨hk, hf, ht, hne, ⟨hc, hs, hh, hb, ho⟩, hy, hd, hX, hi, hI, hw, hW, hm⟩ := h
  have hyy : 0 ≤ yes x.Y ∧ yes x.Y ≤ 1 := by unfold yes; split <;> omega
  refine ⟨⟨hf, ht, hne⟩, ?_, ?_⟩
  · intro c hcl
    rcases letters_isT _ c hcl with rfl | rfl | rfl | rfl | rfl | rfl | rfl | rfl | rfl | rfl
    · simpa [okR, hcl] using hc
    · rw [if_pos hcl] at hb
      simp [okR]
      unfold pairOk setOk nodeOk at *
      omega
    · simp [okR]
      unfold pairOk setOk nodeOk at *
      omega
    · simp [okR]
    · simp [okR]
    · simpa [okR] using hI
    · simp [okR]; exact ⟨hW, hm⟩
    · simpa [okR, hcl] using hs
    · simpa [okR, hcl] using hh
    · simpa [okR] using hyy
  · unfold agr
    constructor
    · intro hk hY
      rcases hX with hX | ⟨_, hX⟩
      · exact hX
      · have : (121 : Int) ∈ letters x.K := by rcases hk with e | e | e <;> rw [e] <;> decide
        rw [hX this] at hY; cases hY
    · intro hk hY
      rcases ho with ho | ho
      · exact ho
      · exact absurd ⟨hk, hY⟩ ho.2.2.2
theorem K_fold (x : Not) (v : Int) (ls : List Int) : ∀ (hl : ∀ c ∈ ls, isT c) (y : Not), (ls.foldl (setR x v) y).K = y.K ∧ (ls.foldl (setR x v) y).F = y.F ∧ (ls.foldl (setR x v) y).T = y.T := by
  induction ls with
  | nil => intro _ y; exact ⟨rfl, rfl, rfl⟩
  | cons c ls ih =>
    intro hl y
    rw [List.foldl_cons]
    obtain ⟨h1, h2, h3⟩ := ih (fun c hc => hl c (List.mem_cons_of_mem _ hc)) (setR x v y c)
    rw [h1, h2, h3]
    rcases hl c (List.mem_cons_self ..) with rfl | rfl | rfl | rfl | rfl | rfl | rfl | rfl | rfl | rfl <;> simp [setR, setf]
theorem noteR_K (x : Not) (v : Int) : (noteR x v).K = x.K := (K_fold x v _ (letters_isT _) _).1
/-- What is read, and may be, is a note that may be. -/
theorem may_can {x : Not} {v : Int} (hk : 1 ≤ x.K ∧ x.K ≤ 19) (h : mayR x v) : Can (noteR x v) := by
  obtain ⟨⟨hf, ht, hne⟩, hl, ha⟩ := h
  have c99 := hl 99
  have c115 := hl 115
  have c104 := hl 104
  have c98 := hl 98
  have c111 := hl 111
  have c121 := hl 121
  have c105 := hl 105
  have c119 : 119 ∈ letters x.K → x.W.length ≤ 64 := fun h => by have := hl 119 h; simp [okR] at this; exact this.1
  have m119 : 119 ∈ letters x.K → ∀ m ∈ x.W, m.May := fun h => by have := hl 119 h; simp [okR] at this; exact this.2
  clear hl
  obtain ⟨K, F, T, C1, C2, C3, S, H, B1, B2, O1, O2, Y, D, X, I, W⟩ := x
  simp only [okR] at *
  rcases kinds hk with rfl | rfl | rfl | rfl | rfl | rfl | rfl | rfl | rfl | rfl | rfl | rfl | rfl | rfl | rfl | rfl | rfl | rfl | rfl <;>
    (simp [letters, Call, pairOk] at c99 c115 c104 c98 c111 c121 c105 c119 m119
     simp [noteR, letters, setR, setf, base, none_, agr] at ha
     simp [Can, Nums, Rest, letters, noteR, setR, setf, base, none_, hf, ht, hne, Call, NoCall]
     try unfold setOk nodeOk at *
     (repeat' refine And.intro ?_ ?_) <;> first | omega | exact m119 | exact ha | (intro e; first | omega | exact ha e) | (by_cases hv : v = 1; exact Or.inr hv; exact Or.inl (ha hv)) | (cases Y <;> simp_all) | skip)
theorem walk_long {x : Not} (hf : Fits { x with X := [] }) (hX : 4000 < x.X.length) (ls : List Int) : ∀ (hl : ∀ c ∈ ls, isT c) (h120 : 120 ∈ ls) (t : Int) (out : List Int) (l : List Itm),
    (walkL putS none t (ls.flatMap shp) (out, ls.flatMap (its x) ++ l)).2 = 3 := by
  induction ls with
  | nil => intro _ h; simp at h
  | cons c ls ih =>
    intro hl h120 t out l
    rw [List.flatMap_cons, List.flatMap_cons, List.append_assoc]
    by_cases hc : c = 120
    · subst hc
      have hp : putS 98 (out, iB x.X :: (ls.flatMap (its x) ++ l)) = ((out, iB x.X :: (ls.flatMap (its x) ++ l)), 0, 3) := by
        have h1 : okFor 98 (iB x.X) = true := by simp [okFor, iB]
        have h2 : bound 98 (iB x.X) = 3 := by unfold bound; rw [if_neg (by simp [iB]), if_pos (Or.inl (by simpa [iB] using hX))]
        simp [putS, h1, h2]
      have e1 : shp 120 = [98] := by simp [shp]
      have e2 : its x 120 = [iB x.X] := by simp [its]
      rw [e1, e2, List.singleton_append, List.singleton_append, walkL, hp]
      simp
    · have e : its x c = its { x with X := [] } c := by
        rcases hl c (List.mem_cons_self ..) with rfl | rfl | rfl | rfl | rfl | rfl | rfl | rfl | rfl | rfl <;> first | (exact absurd rfl hc) | simp [its]
      rw [e, walk_letter hf (hl c (List.mem_cons_self ..))]
      exact ih (fun c hc => hl c (List.mem_cons_of_mem _ hc)) (by rcases List.mem_cons.1 h120 with h | h; exact absurd h.symm hc; exact h) 0 _ l
/-- .. are refused as that. -/
theorem put_long {x : Not} (h : Can x) (hX : 4000 < x.X.length) : Fld.put (shape x.K) (items x) = ([], 3) := by
  have h120 : 120 ∈ letters x.K := by
    rcases h.2.2.2.2.2.2.2.1 with e | e
    · rw [e] at hX; simp at hX
    · exact e.1
  have hf : Fits { x with X := [] } := by
    have h2 : Can { x with X := [] } := by
      obtain ⟨hk, hf, ht, hne, hn, hy, hd, _, hi⟩ := h
      exact ⟨hk, hf, ht, hne, hn, hy, hd, Or.inl rfl, hi⟩
    exact h2.fits (by simp)
  have hw : (walkL putS none 0 (shape x.K) ([], items x)).2 = 3 := by
    unfold shape items
    rw [walk_step (put_n hf.K _ _) (by decide), walk_step (put_n hf.F _ _) (by decide), walk_step (put_n hf.T _ _) (by decide)]
    have := walk_long hf hX (letters x.K) (letters_isT _) h120 0 ([] ++ n8 x.K ++ n8 x.F ++ n8 x.T) []
    rw [List.append_nil] at this
    exact this
  unfold Fld.put
  rw [if_pos (shape_chk _)]
  simp only [hw]
  simp
theorem setf_ok {x y : Not} (hx : x.ok) (hy : y.ok) (c : Int) : (setf x y c).ok := by
  unfold setf
  (repeat' split) <;> constructor <;> first | exact hy.K | exact hy.F | exact hy.T | exact hx.C | exact hy.C | exact hx.S | exact hy.S | exact hx.H | exact hy.H | exact hx.B | exact hy.B | exact hx.O | exact hy.O | exact hx.D | exact hy.D | exact hx.len | exact hy.len | exact hx.X | exact hy.X | exact hx.Xl | exact hy.Xl | exact hx.I | exact hy.I | exact hx.Il | exact hy.Il | exact hx.W | exact hy.W | exact hx.Wl | exact hy.Wl
theorem setf_few {x y : Not} (hx : x.I.length ≤ 4000 ∧ x.W.length ≤ 4000) (hy : y.I.length ≤ 4000 ∧ y.W.length ≤ 4000) (c : Int) : (setf x y c).I.length ≤ 4000 ∧ (setf x y c).W.length ≤ 4000 := by
  unfold setf
  (repeat' split) <;> first | exact hy | exact hx | exact ⟨hx.1, hy.2⟩ | exact ⟨hy.1, hx.2⟩
theorem letters_nodup (k : Int) : (letters k).Nodup := letters_ind (p := fun l => l.Nodup) k (by simp) (by unfold all_; decide)
theorem noteR_ok {x : Not} (hx : x.ok) (v : Int) : (noteR x v).ok := by
  have hs : ∀ (ls : List Int) (y : Not), y.ok → (ls.foldl (setR x v) y).ok := by
    intro ls
    induction ls with
    | nil => intro y hy; exact hy
    | cons c ls ih =>
      intro y hy
      refine ih _ ?_
      unfold setR
      split
      · exact ⟨hy.K, hy.F, hy.T, hy.C, hy.S, hy.H, hy.B, hy.O, hy.D, hy.len, hy.X, hy.Xl, hy.I, hy.Il, hy.W, hy.Wl⟩
      · exact setf_ok hx hy c
  have nk := none_ok
  exact hs _ _ ⟨hx.K, hx.F, hx.T, nk.C, nk.S, nk.H, nk.B, nk.O, nk.D, nk.len, nk.X, nk.Xl, nk.I, nk.Il, nk.W, nk.Wl⟩
/-- What body comes to: 0 and the bytes within, or an error. -/
theorem body_few {x : Not} (h : 64 < x.I.length ∨ 64 < x.W.length ∨ ¬ (1 ≤ x.K ∧ x.K ≤ 19)) : check x = 2 := by
  refine check_no fun hc => ?_
  obtain ⟨hk, _, _, _, _, _, _, _, _, hi, _, hw, _⟩ := hc
  rcases h with h | h | h
  · omega
  · omega
  · exact h hk
theorem body_not {x : Not} (h : ¬ (mayR x (yes x.Y) ∧ noteR x (yes x.Y) = x)) : check x = 2 := check_no fun hc => h (can_may hc)
theorem body_can {x : Not} (hk : 1 ≤ x.K ∧ x.K ≤ 19) (h : mayR x (yes x.Y)) (he : noteR x (yes x.Y) = x) : Can x := by
  have := may_can hk h
  rwa [he] at this
theorem body_long {x : Not} (h : Can x) (hX : 4000 < x.X.length) : check x = 3 ∧ Fld.put (shape x.K) (items x) = ([], 3) := ⟨check_long h (by have := inner_data h; omega), put_long h hX⟩
theorem body_put {x : Not} (h : Can x) (hX : x.X.length ≤ 4000) : Fld.put (shape x.K) (items x) = (inner x, 0) := put_items (h.fits hX)
end Nte
end
section
set_option linter.unusedSimpArgs false
set_option linter.unusedVariables false
open Go.RowKit Sha Nte
section
variable {P : Program}
theorem wf_set (w : World) (o o' : Obj) : ({ (w.alloc o) with heap := (w.alloc o).heap.setIfInBounds w.heap.size o' } : World) = w.alloc o' := by
  have h : (w.heap.push o).setIfInBounds w.heap.size o' = w.heap.push o' := by simp [← Array.toList_inj]
  show ({ (w.alloc o) with heap := (w.heap.push o).setIfInBounds w.heap.size o' } : World) = _
  rw [h]; rfl
theorem wf_insert (w : World) (mty kt et : TypeId) (hm : P.underlying mty = some (.map kt et)) (hk : P.underlying kt = some (.int .i64)) (es : Array MapEntry) (c : Nat) (k : Int) (v : Value) (hf : Instr.findNow (.int .i64) (.int .i64 k) es.toList 0 = some none) :
    (Instr.mapUpdate mty (.map (some w.heap.size)) (.int .i64 k) v).run P (w.alloc (.map es c)) = .ok () (w.alloc (.map (es.push ⟨.int .i64 k, v, c⟩) (c + 1))) := by
  have hb : (w.alloc (.map es c)).heap[w.heap.size]? = some (.map es c) := heap_alloc_new _ _
  have hc : (Instr.checkKey false 10000 kt (.int .i64 k)).run P (w.alloc (.map es c)) = .ok () (w.alloc (.map es c)) := MapKept.run_checkKey (k := .int .i64 k) hk (by simp [MapKept.IsKey]) false 9999
  simp [Instr.mapUpdate, run_underlying hm, MapKept.run_getObj_map hb, hc, MapKept.run_findKey hk hf, MapKept.run_setObj_map _ hb, Result.andThen, -World.alloc_eq]
  exact wf_set _ _ _
theorem wf_found (w : World) (mty kt et : TypeId) (hm : P.underlying mty = some (.map kt et)) (hk : P.underlying kt = some (.int .i64)) (b : Nat) (es : Array MapEntry) (c : Nat) (hb : w.heap[b]? = some (.map es c)) (k : Int) (i : Nat) (v : Value) (hf : Instr.findNow (.int .i64) (.int .i64 k) es.toList 0 = some (some (i, v))) (ok : Bool) :
    (Instr.lookup mty (.map (some b)) (.int .i64 k) ok).run P w = .ok (if ok then .tuple #[v, .bool true] else v) w := by
  have hc : ∀ e, (Instr.checkKey e 10000 kt (.int .i64 k)).run P w = .ok () w := fun e => MapKept.run_checkKey (k := .int .i64 k) hk (by simp [MapKept.IsKey]) e 9999
  simp [Instr.lookup, run_underlying hm, MapKept.run_getObj_map hb, hc, MapKept.run_findKey hk hf, Result.andThen]
theorem wf_none (w : World) (mty kt et : TypeId) (hm : P.underlying mty = some (.map kt et)) (hk : P.underlying kt = some (.int .i64)) (z : Value) (hz : ∀ w, (zeroValue et).run P w = .ok z w) (b : Nat) (es : Array MapEntry) (c : Nat) (hb : w.heap[b]? = some (.map es c)) (k : Int) (hf : Instr.findNow (.int .i64) (.int .i64 k) es.toList 0 = some none) (ok : Bool) :
    (Instr.lookup mty (.map (some b)) (.int .i64 k) ok).run P w = .ok (if ok then .tuple #[z, .bool false] else z) w := by
  have hc : ∀ e, (Instr.checkKey e 10000 kt (.int .i64 k)).run P w = .ok () w := fun e => MapKept.run_checkKey (k := .int .i64 k) hk (by simp [MapKept.IsKey]) e 9999
  simp [Instr.lookup, run_underlying hm, MapKept.run_getObj_map hb, hc, MapKept.run_findKey hk hf, Result.andThen, hz]
end
/-- What a kind has; what of that is empty in those that say yes, in those that say no. -/
def kHas (k : Int) : ByteArray :=
  if k = 1 then ⟨#[99, 119]⟩ else if k = 2 then ⟨#[99, 119]⟩ else if k = 3 then ⟨#[99, 104, 119]⟩ else if k = 4 then ⟨#[119]⟩ else if k = 5 then ⟨#[99, 115, 100, 104, 120]⟩ else if k = 6 then ⟨#[99, 115, 100, 104, 121]⟩ else if k = 7 then ⟨#[99, 100]⟩ else if k = 8 then ⟨#[99, 100, 121, 120]⟩ else if k = 9 then ⟨#[99, 115, 98]⟩ else if k = 10 then ⟨#[99, 115, 98, 111, 121, 120]⟩ else if k = 11 then ⟨#[99, 115, 98, 120]⟩ else if k = 12 then ⟨#[99, 115, 98, 111, 121]⟩ else if k = 13 then ⟨#[115, 120]⟩ else if k = 14 then ⟨#[99, 115]⟩ else if k = 15 then ⟨#[99, 115, 121, 120]⟩ else if k = 16 then ⟨#[99, 115, 100, 120]⟩ else if k = 17 then ⟨#[99, 115, 100]⟩ else if k = 18 then ⟨#[115, 105]⟩ else if k = 19 then ⟨#[115, 105]⟩ else ⟨#[]⟩
def kYes (k : Int) : ByteArray := if k = 12 then ⟨#[111]⟩ else ⟨#[]⟩
def kNo (k : Int) : ByteArray := if k = 8 ∨ k = 10 ∨ k = 15 then ⟨#[120]⟩ else ⟨#[]⟩
theorem kHas_no (k : Int) (hk : ¬ (1 ≤ k ∧ k ≤ 19)) : kHas k = ⟨#[]⟩ := by
  unfold kHas
  rw [if_neg (by omega), if_neg (by omega), if_neg (by omega), if_neg (by omega), if_neg (by omega), if_neg (by omega), if_neg (by omega), if_neg (by omega), if_neg (by omega), if_neg (by omega), if_neg (by omega), if_neg (by omega), if_neg (by omega), if_neg (by omega), if_neg (by omega), if_neg (by omega), if_neg (by omega), if_neg (by omega), if_neg (by omega)]
theorem letters_no (k : Int) (hk : ¬ (1 ≤ k ∧ k ≤ 19)) : letters k = [] := by
  unfold letters
  rw [if_neg (by omega), if_neg (by omega), if_neg (by omega), if_neg (by omega), if_neg (by omega), if_neg (by omega), if_neg (by omega), if_neg (by omega), if_neg (by omega), if_neg (by omega), if_neg (by omega), if_neg (by omega), if_neg (by omega), if_neg (by omega), if_neg (by omega), if_neg (by omega), if_neg (by omega), if_neg (by omega), if_neg (by omega)]
theorem kHas_nums (k : Int) : nums (kHas k) = letters k := by
  by_cases hk : 1 ≤ k ∧ k ≤ 19
  · rcases kinds hk with rfl | rfl | rfl | rfl | rfl | rfl | rfl | rfl | rfl | rfl | rfl | rfl | rfl | rfl | rfl | rfl | rfl | rfl | rfl <;> decide +kernel
  · rw [kHas_no k hk, letters_no k hk]; decide +kernel
theorem kHas_size (k : Int) : (kHas k).size ≤ 6 := by
  by_cases hk : 1 ≤ k ∧ k ≤ 19
  · rcases kinds hk with rfl | rfl | rfl | rfl | rfl | rfl | rfl | rfl | rfl | rfl | rfl | rfl | rfl | rfl | rfl | rfl | rfl | rfl | rfl <;> decide
  · rw [kHas_no k hk]; decide
abbrev wform (k : Int) : Value := .agg #[.string (kHas k), .string (kYes k), .string (kNo k)]
/-- The table, as far as it is made. -/
def wtab : Nat → Array MapEntry
  | 0 => #[]
  | n + 1 => (wtab n).push ⟨.int .i64 ((n : Int) + 1), wform ((n : Int) + 1), n⟩
def WTab (w : World) (m : Value) : Prop := ∃ b, m = .map (some b) ∧ w.heap[b]? = some (.map (wtab 19) 19)
theorem WTab.below {w w' : World} {m : Value} (h : WTab w m) (hb : Below w.heap.size w w') : WTab w' m := by
  obtain ⟨b, rfl, h⟩ := h
  exact ⟨b, rfl, by rw [hb.block b (by exact (Array.getElem?_eq_some_iff.1 h).1)]; exact h⟩
theorem wtab_find (k : Int) (hk : 1 ≤ k ∧ k ≤ 19) : ∃ i, Instr.findNow (.int .i64) (.int .i64 k) (wtab 19).toList 0 = some (some (i, wform k)) := by
  rcases kinds hk with rfl | rfl | rfl | rfl | rfl | rfl | rfl | rfl | rfl | rfl | rfl | rfl | rfl | rfl | rfl | rfl | rfl | rfl | rfl <;> exact ⟨_, rfl⟩
theorem wtab_none (k : Int) (hk : ¬ (1 ≤ k ∧ k ≤ 19)) : Instr.findNow (.int .i64) (.int .i64 k) (wtab 19).toList 0 = some none := by
  have h1 : (k == 1) = false := by simp; omega
  have h2 : (k == 2) = false := by simp; omega
  have h3 : (k == 3) = false := by simp; omega
  have h4 : (k == 4) = false := by simp; omega
  have h5 : (k == 5) = false := by simp; omega
  have h6 : (k == 6) = false := by simp; omega
  have h7 : (k == 7) = false := by simp; omega
  have h8 : (k == 8) = false := by simp; omega
  have h9 : (k == 9) = false := by simp; omega
  have h10 : (k == 10) = false := by simp; omega
  have h11 : (k == 11) = false := by simp; omega
  have h12 : (k == 12) = false := by simp; omega
  have h13 : (k == 13) = false := by simp; omega
  have h14 : (k == 14) = false := by simp; omega
  have h15 : (k == 15) = false := by simp; omega
  have h16 : (k == 16) = false := by simp; omega
  have h17 : (k == 17) = false := by simp; omega
  have h18 : (k == 18) = false := by simp; omega
  have h19 : (k == 19) = false := by simp; omega
  simp [wtab, Instr.findNow, Instr.sameNow, h1, h2, h3, h4, h5, h6, h7, h8, h9, h10, h11, h12, h13, h14, h15, h16, h17, h18, h19]
theorem wform_zero (w : World) : (zeroValue 63).run Tryz.prog w = .ok (.agg #[.string ⟨#[]⟩, .string ⟨#[]⟩, .string ⟨#[]⟩]) w := by kernel_rfl
theorem wlook_yes {w : World} {m : Value} (h : WTab w m) (k : Int) (hk : 1 ≤ k ∧ k ≤ 19) (ok : Bool) : (Instr.lookup 65 m (.int .i64 k) ok).run Tryz.prog w = .ok (if ok then .tuple #[wform k, .bool true] else wform k) w := by
  obtain ⟨b, rfl, h⟩ := h
  obtain ⟨i, hf⟩ := wtab_find k hk
  exact wf_found w _ _ _ Tryz.underlying65 Tryz.underlying3 b _ _ h k i _ hf ok
theorem wlook_no {w : World} {m : Value} (h : WTab w m) (k : Int) (hk : ¬ (1 ≤ k ∧ k ≤ 19)) (ok : Bool) : (Instr.lookup 65 m (.int .i64 k) ok).run Tryz.prog w = .ok (if ok then .tuple #[.agg #[.string ⟨#[]⟩, .string ⟨#[]⟩, .string ⟨#[]⟩], .bool false] else .agg #[.string ⟨#[]⟩, .string ⟨#[]⟩, .string ⟨#[]⟩]) w := by
  obtain ⟨b, rfl, h⟩ := h
  exact wf_none w _ _ _ Tryz.underlying65 Tryz.underlying3 _ wform_zero b _ _ h k (wtab_none k hk) ok
theorem wins_step (w : World) (n : Nat) (v : Value) (k : Int) (hk : k = (n : Int) + 1) (hv : v = wform k) (hf : Instr.findNow (.int .i64) (.int .i64 k) (wtab n).toList 0 = some none) :
    (Instr.mapUpdate 65 (.map (some w.heap.size)) (.int .i64 k) v).run Tryz.prog (w.alloc (.map (wtab n) n)) = .ok () (w.alloc (.map (wtab (n + 1)) (n + 1))) := by
  subst hk hv
  exact wf_insert w _ _ _ Tryz.underlying65 Tryz.underlying3 _ n _ _ hf
set_option maxRecDepth 100000 in
set_option maxHeartbeats 2000000 in
theorem wforms_any (w : World) : Calls Tryz.prog 40 #[] w fun e w' => ∃ m, e = .returned m ∧ WTab w' m ∧ Below w.heap.size w w' := by
  have hmm : (Instr.makeMap 65 none).run Tryz.prog w = .ok (.map (some w.heap.size)) (w.alloc (.map (wtab 0) 0)) := run_makeMap _ w
  have i1 := wins_step w 0 (.agg #[.string ⟨#[99, 119]⟩, .string ⟨#[]⟩, .string ⟨#[]⟩]) 1 rfl rfl rfl
  have i2 := wins_step w 1 (.agg #[.string ⟨#[99, 119]⟩, .string ⟨#[]⟩, .string ⟨#[]⟩]) 2 rfl rfl rfl
  have i3 := wins_step w 2 (.agg #[.string ⟨#[99, 104, 119]⟩, .string ⟨#[]⟩, .string ⟨#[]⟩]) 3 rfl rfl rfl
  have i4 := wins_step w 3 (.agg #[.string ⟨#[119]⟩, .string ⟨#[]⟩, .string ⟨#[]⟩]) 4 rfl rfl rfl
  have i5 := wins_step w 4 (.agg #[.string ⟨#[99, 115, 100, 104, 120]⟩, .string ⟨#[]⟩, .string ⟨#[]⟩]) 5 rfl rfl rfl
  have i6 := wins_step w 5 (.agg #[.string ⟨#[99, 115, 100, 104, 121]⟩, .string ⟨#[]⟩, .string ⟨#[]⟩]) 6 rfl rfl rfl
  have i7 := wins_step w 6 (.agg #[.string ⟨#[99, 100]⟩, .string ⟨#[]⟩, .string ⟨#[]⟩]) 7 rfl rfl rfl
  have i8 := wins_step w 7 (.agg #[.string ⟨#[99, 100, 121, 120]⟩, .string ⟨#[]⟩, .string ⟨#[120]⟩]) 8 rfl rfl rfl
  have i9 := wins_step w 8 (.agg #[.string ⟨#[99, 115, 98]⟩, .string ⟨#[]⟩, .string ⟨#[]⟩]) 9 rfl rfl rfl
  have i10 := wins_step w 9 (.agg #[.string ⟨#[99, 115, 98, 111, 121, 120]⟩, .string ⟨#[]⟩, .string ⟨#[120]⟩]) 10 rfl rfl rfl
  have i11 := wins_step w 10 (.agg #[.string ⟨#[99, 115, 98, 120]⟩, .string ⟨#[]⟩, .string ⟨#[]⟩]) 11 rfl rfl rfl
  have i12 := wins_step w 11 (.agg #[.string ⟨#[99, 115, 98, 111, 121]⟩, .string ⟨#[111]⟩, .string ⟨#[]⟩]) 12 rfl rfl rfl
  have i13 := wins_step w 12 (.agg #[.string ⟨#[115, 120]⟩, .string ⟨#[]⟩, .string ⟨#[]⟩]) 13 rfl rfl rfl
  have i14 := wins_step w 13 (.agg #[.string ⟨#[99, 115]⟩, .string ⟨#[]⟩, .string ⟨#[]⟩]) 14 rfl rfl rfl
  have i15 := wins_step w 14 (.agg #[.string ⟨#[99, 115, 121, 120]⟩, .string ⟨#[]⟩, .string ⟨#[120]⟩]) 15 rfl rfl rfl
  have i16 := wins_step w 15 (.agg #[.string ⟨#[99, 115, 100, 120]⟩, .string ⟨#[]⟩, .string ⟨#[]⟩]) 16 rfl rfl rfl
  have i17 := wins_step w 16 (.agg #[.string ⟨#[99, 115, 100]⟩, .string ⟨#[]⟩, .string ⟨#[]⟩]) 17 rfl rfl rfl
  have i18 := wins_step w 17 (.agg #[.string ⟨#[115, 105]⟩, .string ⟨#[]⟩, .string ⟨#[]⟩]) 18 rfl rfl rfl
  have i19 := wins_step w 18 (.agg #[.string ⟨#[115, 105]⟩, .string ⟨#[]⟩, .string ⟨#[]⟩]) 19 rfl rfl rfl
  have hT := Lib.hid (show WTab (w.alloc (.map (wtab 19) 19)) (.map (some w.heap.size)) from ⟨_, rfl, heap_alloc_new _ _⟩)
  have hB := Lib.hid ((Below.refl w.heap.size w).alloc (Nat.le_refl _) (.map (wtab 19) 19))
  simp only [Nat.reduceAdd] at i1 i2 i3 i4 i5 i6 i7 i8 i9 i10 i11 i12 i13 i14 i15 i16 i17 i18 i19
  generalize w.alloc (.map (wtab 0) 0) = w0 at *
  generalize w.alloc (.map (wtab 1) 1) = w1 at *
  generalize w.alloc (.map (wtab 2) 2) = w2 at *
  generalize w.alloc (.map (wtab 3) 3) = w3 at *
  generalize w.alloc (.map (wtab 4) 4) = w4 at *
  generalize w.alloc (.map (wtab 5) 5) = w5 at *
  generalize w.alloc (.map (wtab 6) 6) = w6 at *
  generalize w.alloc (.map (wtab 7) 7) = w7 at *
  generalize w.alloc (.map (wtab 8) 8) = w8 at *
  generalize w.alloc (.map (wtab 9) 9) = w9 at *
  generalize w.alloc (.map (wtab 10) 10) = w10 at *
  generalize w.alloc (.map (wtab 11) 11) = w11 at *
  generalize w.alloc (.map (wtab 12) 12) = w12 at *
  generalize w.alloc (.map (wtab 13) 13) = w13 at *
  generalize w.alloc (.map (wtab 14) 14) = w14 at *
  generalize w.alloc (.map (wtab 15) 15) = w15 at *
  generalize w.alloc (.map (wtab 16) 16) = w16 at *
  generalize w.alloc (.map (wtab 17) 17) = w17 at *
  generalize w.alloc (.map (wtab 18) 18) = w18 at *
  generalize w.alloc (.map (wtab 19) 19) = w19 at *
  go_enter Tryz.func40, Tryz.ntmps40
  go_wp2_with fail
  go_ret
  exact ⟨_, rfl, hT.out, hB.out⟩
end
section
set_option linter.unusedSimpArgs false
set_option linter.unusedVariables false
open Go.RowKit Sha
/-- The letters of a text, as numbers. -/
theorem fnums_get (s : ByteArray) (k : Nat) (h : k < s.size) : (nums s)[k]? = some ((s[k]'h).toNat : Int) := by
  unfold nums
  rw [List.getElem?_map, Array.getElem?_toList, Array.getElem?_eq_getElem (by exact h)]
  rfl
theorem nums_drop (s : ByteArray) (k : Nat) (h : k < s.size) : (nums s).drop k = ((s[k]'h).toNat : Int) :: (nums s).drop (k + 1) := by
  have hl : k < (nums s).length := by rw [nums_length]; exact h
  have := fnums_get s k h
  rw [List.getElem?_eq_getElem hl] at this
  rw [List.drop_eq_getElem_cons hl, Option.some.inj this]
theorem chkL_no {c : Int} {r : List Int} {o k : Bool} (h1 : c ≠ 110) (h2 : c ≠ 98) (h3 : c ≠ 100) (h4 : ¬ (c = 40 ∧ o = false)) (h5 : ¬ (c = 41 ∧ o = true ∧ k = true)) : Fld.chkL (c :: r) o k = false := by
  unfold Fld.chkL
  rw [if_neg (by omega), if_neg h4, if_neg h5]
/-- The next letter of a text: itself, or one from 128 on, which is none of a shape's. -/
structure NextL (P : Program) (s : ByteArray) (k k' : Nat) (c : Int) : Prop where
  run : ∀ (w : World) (g : Nat) (ty : TypeId), w.heap[g]? = some (.stringIter s k) → (Instr.next (.pointer (some ⟨g, 0, none⟩)) true ty).run P w = .ok (.tuple #[.bool true, .int .i64 k, .int .i32 c]) (w.iterAt g s k')
  lt : k < k'
  c0 : 0 ≤ c
  is : (c < 128 ∧ k' = k + 1 ∧ (nums s).drop k = c :: (nums s).drop (k + 1)) ∨ (128 ≤ c ∧ ∃ d, 128 ≤ d ∧ (nums s).drop k = d :: (nums s).drop (k + 1))
theorem next_of (P : Program) (s : ByteArray) (k : Nat) (h : k < s.size) : ∃ c k', NextL P s k k' c := by
  by_cases ha : (s[k]'h).toNat < 128
  · refine ⟨((s[k]'h).toNat : Int), k + 1, fun w g ty hg => Lib.run_next_ascii_at w g s k ty hg h ha, by omega, by omega, Or.inl ⟨by omega, rfl, nums_drop s k h⟩⟩
  · have hd := decode_high s k h (by omega)
    exact ⟨((Utf8.decode s k).1 : Int), k + (Utf8.decode s k).2, fun w g ty hg => Lib.run_next_any_at w g s k ty hg h, by omega, by omega, Or.inr ⟨by omega, _, by omega, nums_drop s k h⟩⟩
theorem chk_le (s : ByteArray) (h : s.size ≤ 40) : Fld.chk (nums s) = Fld.chkL (nums s) false false := by
  unfold Fld.chk; rw [nums_length]; simp; intro _; exact h
theorem chk_gt (s : ByteArray) (h : 40 < s.size) : Fld.chk (nums s) = false := by
  unfold Fld.chk; rw [nums_length]; simp; intro h'; omega
theorem chkL_letter {c : Int} {r : List Int} {o k : Bool} (h : c = 110 ∨ c = 98 ∨ c = 100) : Fld.chkL (c :: r) o k = Fld.chkL r o true := by
  rw [Fld.chkL, if_pos h]
theorem chkL_open {r : List Int} {k : Bool} : Fld.chkL (40 :: r) false k = Fld.chkL r true false := by
  rw [Fld.chkL, if_neg (by omega), if_pos ⟨rfl, rfl⟩]
theorem chkL_close {r : List Int} : Fld.chkL (41 :: r) true true = Fld.chkL r false true := by
  rw [Fld.chkL, if_neg (by omega), if_neg (by simp), if_pos ⟨rfl, rfl, rfl⟩]
/-- What the loop over a text knows. -/
structure ChkRel (s : ByteArray) (w : World) (ob : Bool) (m k : Nat) : Prop where
  le : m ≤ k
  chk : Fld.chkL (nums s) false false = Fld.chkL ((nums s).drop k) ob (decide (0 < m))
theorem iterPos_of' {w : World} {k : Nat} {s : ByteArray} {p : Nat} (h : w.heap[k]? = some (.stringIter s p)) : w.iterPos k = p := by simp [World.iterPos, h]
theorem iterPos_at {w : World} {k : Nat} {s : ByteArray} {p p' : Nat} (h : w.heap[k]? = some (.stringIter s p)) : (w.iterAt k s p').iterPos k = p' := iterPos_of' (Lib.iterAt_heap w k s p p' h)
set_option maxRecDepth 100000 in
set_option maxHeartbeats 2000000 in
theorem check_any (s : ByteArray) (w : World) (hs : s.size ≤ maxLen) :
    Calls Tryz.prog 67 #[.string s] w fun e w' => e = .returned (.int .i64 (Fld.chkE (nums s))) ∧ Below w.heap.size w w' := by
  unfold maxLen at hs
  by_cases hlt : 40 < s.size
  · have HR := Lib.hid (Fld.chkE_no (chk_gt s hlt))
    go_enter Tryz.func67, Tryz.ntmps67
    go_wp2_with fail
    go_ret
    exact ⟨ret_int HR.out.symm, Below.refl _ _⟩
  · have HC := Lib.hid (chk_le s (by omega))
    go_enter Tryz.func67, Tryz.ntmps67
    go_wp2_with fail
    go_loopw [3, 4] (fun o n wr => ∃ (k m : Nat) (ob : Bool), k ≤ s.size ∧ wr.heap[w.heap.size]? = some (.stringIter s k) ∧ Below w.heap.size w wr ∧ o = .bool ob ∧ n = .int .i64 m ∧ ChkRel s w ob m k) (fun _ _ wr => s.size - wr.iterPos w.heap.size)
    case atStart => exact ⟨0, 0, false, by omega, World.iter_heap w s 0, (Below.refl _ w).alloc (by simp) _, rfl, rfl, by omega, by simp⟩
    case round =>
      obtain ⟨k, m, ob, hk, hit, hb, rfl, rfl, hr⟩ := hrel
      have hm := hr.le
      have HR := Lib.hid hr.chk
      have HI := Lib.hid hit
      clear hr hit
      by_cases hp : k < s.size
      · obtain ⟨c, k', hn⟩ := next_of Tryz.prog s k hp
        have hlt' := hn.lt
        have c0 := hn.c0
        have hnx := fun ty => hn.run wr w.heap.size ty HI.out
        rcases hn.is with ⟨c1, rfl, hd⟩ | ⟨c1, d, hd1, hd⟩
        · clear hn
          have HD := Lib.hid hd
          clear hd
          by_cases hL : c = 110 ∨ c = 98 ∨ c = 100
          · have HN := Lib.hid (HR.out.trans (by rw [HD.out]; exact chkL_letter hL : _ = Fld.chkL ((nums s).drop (k + 1)) ob true))
            rcases hL with rfl | rfl | rfl
            all_goals
              go_wp2_with fail
              go_roundw
              case rel => exact ⟨k + 1, m + 1, ob, by omega, Lib.iterAt_heap _ _ _ _ _ HI.out, Lib.below_iterAt hb (Nat.le_refl _) _ _, rfl, by go_num, by omega, by rw [HN.out]; simp⟩
              case measure => rw [iterPos_at HI.out, iterPos_of' HI.out]; omega
          · by_cases h40 : c = 40
            · subst h40
              clear hL
              cases ob with
              | false =>
                have HN := Lib.hid (HR.out.trans (by rw [HD.out]; exact chkL_open : _ = Fld.chkL ((nums s).drop (k + 1)) true false))
                go_wp2_with fail
                go_roundw
                case rel => exact ⟨k + 1, 0, true, by omega, Lib.iterAt_heap _ _ _ _ _ HI.out, Lib.below_iterAt hb (Nat.le_refl _) _ _, rfl, rfl, by omega, by rw [HN.out]; simp⟩
                case measure => rw [iterPos_at HI.out, iterPos_of' HI.out]; omega
              | true =>
                have HE := Lib.hid (Fld.chkE_no (HC.out.trans (HR.out.trans (by rw [HD.out]; exact chkL_no (by omega) (by omega) (by omega) (by simp) (by simp)))))
                go_wp2_with fail
                go_ret
                exact ⟨ret_int HE.out.symm, Lib.below_iterAt hb (Nat.le_refl _) _ _⟩
            · by_cases h41 : c = 41
              · subst h41
                clear hL h40
                cases ob with
                | false =>
                  have HE := Lib.hid (Fld.chkE_no (HC.out.trans (HR.out.trans (by rw [HD.out]; exact chkL_no (by omega) (by omega) (by omega) (by simp) (by simp)))))
                  go_wp2_with fail
                  go_ret
                  exact ⟨ret_int HE.out.symm, Lib.below_iterAt hb (Nat.le_refl _) _ _⟩
                | true =>
                  by_cases h0 : 0 < m
                  · have HN := Lib.hid (HR.out.trans (by rw [HD.out, decide_eq_true h0]; exact chkL_close : _ = Fld.chkL ((nums s).drop (k + 1)) false true))
                    go_wp2_with fail
                    go_roundw
                    case rel => exact ⟨k + 1, m, false, by omega, Lib.iterAt_heap _ _ _ _ _ HI.out, Lib.below_iterAt hb (Nat.le_refl _) _ _, rfl, rfl, by omega, by rw [HN.out, decide_eq_true h0]⟩
                    case measure => rw [iterPos_at HI.out, iterPos_of' HI.out]; omega
                  · have HE := Lib.hid (Fld.chkE_no (HC.out.trans (HR.out.trans (by rw [HD.out, decide_eq_false h0]; exact chkL_no (by omega) (by omega) (by omega) (by simp) (by simp)))))
                    go_wp2_with fail
                    go_ret
                    exact ⟨ret_int HE.out.symm, Lib.below_iterAt hb (Nat.le_refl _) _ _⟩
              · have HE := Lib.hid (Fld.chkE_no (HC.out.trans (HR.out.trans (by rw [HD.out]; exact chkL_no (by omega) (by omega) (by omega) (by omega) (by omega)))))
                have t1 : (c == 110) = false := by rw [beq_eq_false_iff_ne]; omega
                have t2 : (c == 98) = false := by rw [beq_eq_false_iff_ne]; omega
                have t3 : (c == 100) = false := by rw [beq_eq_false_iff_ne]; omega
                have t4 : (c == 40) = false := by rw [beq_eq_false_iff_ne]; omega
                have t5 : (c == 41) = false := by rw [beq_eq_false_iff_ne]; omega
                clear hL h40 h41
                go_wp2_with fail
                go_ret
                exact ⟨ret_int HE.out.symm, Lib.below_iterAt hb (Nat.le_refl _) _ _⟩
        · clear hn
          have HE := Lib.hid (Fld.chkE_no (HC.out.trans (HR.out.trans (by rw [hd]; exact chkL_no (by omega) (by omega) (by omega) (by omega) (by omega)))))
          have t1 : (c == 110) = false := by rw [beq_eq_false_iff_ne]; omega
          have t2 : (c == 98) = false := by rw [beq_eq_false_iff_ne]; omega
          have t3 : (c == 100) = false := by rw [beq_eq_false_iff_ne]; omega
          have t4 : (c == 40) = false := by rw [beq_eq_false_iff_ne]; omega
          have t5 : (c == 41) = false := by rw [beq_eq_false_iff_ne]; omega
          clear hd hd1
          go_wp2_with fail
          go_ret
          exact ⟨ret_int HE.out.symm, Lib.below_iterAt hb (Nat.le_refl _) _ _⟩
      · obtain rfl : k = s.size := by omega
        have hnx := fun ty => Lib.run_next_end_at (P := Tryz.prog) wr w.heap.size s s.size ty HI.out (by omega)
        have HD := Lib.hid (show (nums s).drop s.size = [] by rw [← nums_length, List.drop_length])
        cases ob with
        | false =>
          have HE := Lib.hid (Fld.chkE_ok (HC.out.trans (HR.out.trans (by rw [HD.out]; rfl))))
          go_wp2_with fail
          go_ret
          exact ⟨ret_int HE.out.symm, hb⟩
        | true =>
          have HE := Lib.hid (Fld.chkE_no (HC.out.trans (HR.out.trans (by rw [HD.out]; rfl))))
          go_wp2_with fail
          go_ret
          exact ⟨ret_int HE.out.symm, hb⟩
end
section
set_option linter.unusedSimpArgs false
set_option linter.unusedVariables false
open Go.RowKit Sha
open Fld (Itm)
section
variable {w w' : World} {B g ga n size : Nat} {e t : TypeId} {v u : Value} {xs cs : List Value}
theorem own_kind (h : w.ownsRow B e size v n xs) : ∀ k, v.ownBlock = some k → ∃ c fz, w.heap[k]? = some (.cells c e fz) := by
  intro k hk
  rcases h.2 with ⟨hv, _⟩ | ⟨g, cap, cur, hv, _, hh, _⟩
  · rw [hv] at hk; cases hk
  · rw [hv] at hk; cases hk; exact ⟨_, _, hh⟩
theorem own_ne (h : w.ownsRow B e size v n xs) (hb : Blk w ga cs t) (hne : e ≠ t) : v.ownBlock ≠ some ga := by
  intro hk
  obtain ⟨c, fz, hc⟩ := own_kind h ga hk
  unfold Blk at hb
  rw [hb] at hc
  cases hc
  exact hne rfl
/-- A row of the call's own under whatever leaves blocks of cells as they are. -/
theorem own_carry (h : w.ownsRow B e size v n xs) (hc : ∀ k c fz, v.ownBlock = some k → w.heap[k]? = some (.cells c e fz) → w'.heap[k]? = some (.cells c e fz)) : w'.ownsRow B e size v n xs := by
  refine ⟨h.1, ?_⟩
  rcases h.2 with h | ⟨g, cap, cur, hv, hg, hh, h4⟩
  · exact Or.inl h
  · exact Or.inr ⟨g, cap, cur, hv, hg, hc g _ _ (by rw [hv]; rfl) hh, h4⟩
theorem own_set (h : w.ownsRow B e size v n xs) (hb : Blk w ga cs t) (hne : e ≠ t) (i : Nat) (u : Value) : (w.setCell ⟨ga, i, none⟩ u).ownsRow B e size v n xs :=
  own_carry h fun k c fz hk hh => by
    rw [Below.heap_setCell _ _ _ _ (fun e1 => own_ne h hb hne (by rw [hk]; exact congrArg some e1))]; exact hh
theorem own8_set (h : Own8 w B e v n xs) (hb : Blk w ga cs t) (hne : e ≠ t) (i : Nat) (u : Value) : Own8 (w.setCell ⟨ga, i, none⟩ u) B e v n xs :=
  ⟨own_set h.row hb hne i u, h.ints.carry fun g hg => Below.heap_setCell _ _ _ _ (fun e1 => own_ne h.row hb hne (by rw [hg]; exact congrArg some e1))⟩
theorem own8_carry (h : Own8 w B e v n xs) (hc : ∀ k c fz, v.ownBlock = some k → w.heap[k]? = some (.cells c e fz) → w'.heap[k]? = some (.cells c e fz)) : Own8 w' B e v n xs :=
  ⟨own_carry h.row hc, h.ints.carry fun g hg => by obtain ⟨c, fz, hh⟩ := own_kind h.row g hg; rw [hc g c fz hg hh, hh]⟩
theorem Own8.drew (h : Own8 w B e v n xs) : Own8 w.drew B e v n xs := ⟨h.row.drew, h.ints.carry fun _ _ => rfl⟩
theorem Blk.grow (hb : Blk w ga cs t) {row : Option Nat} (hg : w.grownBy w' row) (hne : row ≠ some ga) : Blk w' ga cs t := by
  unfold Blk at *
  rw [hg.block ga (Blk.lt hb) (fun e => hne e.symm)]; exact hb
theorem others_set {a : World} (h : Lib.OthersKept e (some ga) a w) (i : Nat) (u : Value) : Lib.OthersKept e (some ga) a (w.setCell ⟨ga, i, none⟩ u) := h.setCell _ rfl u
end
/-- Blocks of cells are as they were. -/
def CellsKept (w w' : World) : Prop := w.heap.size ≤ w'.heap.size ∧ ∀ (k : Nat) (c : Array Value) (e : TypeId) (fz : Nat × Nat), w.heap[k]? = some (Obj.cells c e fz) → w'.heap[k]? = some (Obj.cells c e fz)
/-- A writer at ga: its items L, its bytes v, which are 'out'. -/
structure WMem (B ga : Nat) (L v : Value) (out : List Int) (w : World) : Prop where
  blk : Blk w ga [L, v] 124
  own : Own8 w B 5 v out.length (out.map v8)
  base : B ≤ ga
  size : B ≤ w.heap.size
theorem WMem.carry {B ga : Nat} {L v : Value} {out : List Int} {w w' : World} (h : WMem B ga L v out w) (hc : CellsKept w w') : WMem B ga L v out w' :=
  ⟨hc.2 _ _ _ _ h.blk, own8_carry h.own fun k c fz _ hh => hc.2 _ _ _ _ hh, h.base, Nat.le_trans h.size hc.1⟩
theorem w_ne : (5 : TypeId) ≠ 124 := by decide
theorem WMem.grow {B ga : Nat} {L v : Value} {out : List Int} {w w' : World} {o : Obj} (h : WMem B ga L v out w) (hg : (w.alloc o).grownBy w' v.ownBlock) : Blk w' ga [L, v] 124 :=
  (h.blk.old o).grow hg (own_ne (h.own.alloc o).row (h.blk.old o) w_ne)
theorem WMem.grow0 {B ga : Nat} {L v : Value} {out : List Int} {w w' : World} (h : WMem B ga L v out w) (hg : w.grownBy w' v.ownBlock) : Blk w' ga [L, v] 124 :=
  h.blk.grow hg (own_ne h.own.row h.blk w_ne)
theorem WMem.others {B ga : Nat} {L v : Value} {out : List Int} {a w w' : World} {o : Obj} (h : WMem B ga L v out w) (hO : Lib.OthersKept 5 (some ga) a w) (hg : (w.alloc o).grownBy w' v.ownBlock) : Lib.OthersKept 5 (some ga) a w' :=
  (hO.alloc o).grown hg (own_kind (h.own.alloc o).row)
theorem WMem.others0 {B ga : Nat} {L v : Value} {out : List Int} {a w w' : World} (h : WMem B ga L v out w) (hO : Lib.OthersKept 5 (some ga) a w) (hg : w.grownBy w' v.ownBlock) : Lib.OthersKept 5 (some ga) a w' :=
  hO.grown hg (own_kind h.own.row)
def WDone (B ga : Nat) (L : Value) (out : List Int) (ret : Value) (w : World) (e : Ending) (w' : World) : Prop :=
  e = .returned ret ∧ ∃ v, WMem B ga L v out w' ∧ Below B w w' ∧ Lib.OthersKept 5 (some ga) w w'
theorem num_next {cur out : List Int} {k n : Nat} (h : cur ++ Fld.num k = out ++ Fld.num n) (hk : 128 ≤ k) : (cur ++ [((k % 128 + 128 : Nat) : Int)]) ++ Fld.num (k / 128) = out ++ Fld.num n := by
  rw [← h, Fld.num_ge hk]; simp
theorem num_last {cur out : List Int} {k n : Nat} (h : cur ++ Fld.num k = out ++ Fld.num n) (hk : k < 128) : cur ++ [(k : Int)] = out ++ Fld.num n := by
  rw [← h, Fld.num_lt hk]
set_option maxRecDepth 100000 in
set_option maxHeartbeats 2000000 in
theorem wnum_any (B ga : Nat) (L v : Value) (out : List Int) (n : Nat) (w : World) (h : WMem B ga L v out w) (hn : n ≤ 9223372036854775807) (hm : out.length ≤ 1000000000) :
    Calls Tryz.prog 119 #[.pointer (some ⟨ga, 0, none⟩), .int .i64 n] w (WDone B ga L (out ++ Fld.num n) (.tuple #[]) w) := by
  have HW := Lib.hid h
  clear h
  go_enter Tryz.func119, Tryz.ntmps119
  go_wp2_with fail
  go_loopw [1] (fun i wr => ∃ (k : Nat) (cur : List Int) (v : Value), i = .int .i64 k ∧ k ≤ n ∧ Hid (cur ++ Fld.num k = out ++ Fld.num n) ∧ Hid (WMem B ga L v cur wr) ∧ Hid (Below B w wr) ∧ Hid (Lib.OthersKept 5 (some ga) w wr)) (fun i _ => (intOf i).toNat)
  case atStart => exact ⟨n, out, v, rfl, Nat.le_refl _, rfl, HW, Below.refl _ _, Lib.OthersKept.refl _ _ _⟩
  case round =>
    obtain ⟨k, cur, v, rfl, hk, HE, HM, HB, HO⟩ := hrel
    have hcl : cur.length ≤ 1000000009 := by
      have h1 := congrArg List.length HE.out
      have h2 := Fld.num_len n (by rw [show (128 : Nat) ^ 9 = 9223372036854775808 by decide]; omega)
      simp at h1; omega
    have c1 : wr.cell? ⟨ga, 1, none⟩ = some v := HM.out.blk.cell 1
    have f1 : wr.frozen? ⟨ga, 1, none⟩ = false := HM.out.blk.free 1
    have s1 := HM.out.size
    by_cases hge : 128 ≤ k
    · have HN := Lib.hid (num_next HE.out hge)
      go_wp2_with (at_builtin; refine wpList_app8 rfl (.tmp 10) (.tmp 15) 28 rfl B 5 Tryz.underlying28 kbyte_info v _ _ rfl (HM.out.own.alloc _) _ 1 1 [v8 ((k : Int) % 128 + 128)] rfl ?_ rfl (fun h => by cases h) (by omega) (by intro u hu; rw [List.mem_singleton.1 hu]; exact ⟨_, rfl⟩) (by omega) (by unfold maxLen; omega) (by simp; omega) ?_; exact at_one _ _ _; intro v2 w2 hown2 hg2 hb2 hs2; obtain ⟨g2, c2, rfl, hg0, hg1, hg3, hg4⟩ := own_form hown2.row (by omega); have K2 := HM.out.grow hg2; have c2' : w2.cell? ⟨ga, 1, none⟩ = some v := K2.cell 1; have f2' : w2.frozen? ⟨ga, 1, none⟩ = false := K2.free 1; have HK2 := Lib.hid K2; have HO2 := Lib.hid hown2; have HG2 := Lib.hid hg2; have HB2 := Lib.hid hb2; clear K2 hown2 hg2 hb2)
      have HM2 : WMem B ga L (.slice (some ⟨g2, 0, none⟩) (cur.length + 1) c2) (cur ++ [(k : Int) % 128 + 128]) (w2.setCell ⟨ga, 1, none⟩ (.slice (some ⟨g2, 0, none⟩) (cur.length + 1) c2)) :=
        ⟨HK2.out.set 1 _, by simpa using own8_set HO2.out HK2.out w_ne 1 _, HM.out.base, by simpa using hs2⟩
      have HB3 : Below B w (w2.setCell ⟨ga, 1, none⟩ (.slice (some ⟨g2, 0, none⟩) (cur.length + 1) c2)) := ((HB.out.alloc HM.out.size _).trans HB2.out).setCell HM.out.base _
      have HO3 : Lib.OthersKept 5 (some ga) w (w2.setCell ⟨ga, 1, none⟩ (.slice (some ⟨g2, 0, none⟩) (cur.length + 1) c2)) :=
        others_set (HM.out.others HO.out HG2.out) 1 _
      go_roundw
      case rel => exact ⟨k / 128, _, _, by go_num, by omega, Lib.hid (by have := HN.out; simpa using this), HM2, HB3, HO3⟩
      case measure => simp [intOf]; omega
    · have HN := Lib.hid (num_last HE.out (by omega))
      go_wp2_with (at_builtin; refine wpList_app8 rfl (.tmp 25) (.tmp 28) 28 rfl B 5 Tryz.underlying28 kbyte_info v _ _ rfl (HM.out.own.alloc _) _ 1 1 [v8 ((k : Int))] rfl ?_ rfl (fun h => by cases h) (by omega) (by intro u hu; rw [List.mem_singleton.1 hu]; exact ⟨_, rfl⟩) (by omega) (by unfold maxLen; omega) (by simp; omega) ?_; exact at_one _ _ _; intro v2 w2 hown2 hg2 hb2 hs2; obtain ⟨g2, c2, rfl, hg0, hg1, hg3, hg4⟩ := own_form hown2.row (by omega); have K2 := HM.out.grow hg2; have c2' : w2.cell? ⟨ga, 1, none⟩ = some v := K2.cell 1; have f2' : w2.frozen? ⟨ga, 1, none⟩ = false := K2.free 1; have HK2 := Lib.hid K2; have HO2 := Lib.hid hown2; have HG2 := Lib.hid hg2; have HB2 := Lib.hid hb2; clear K2 hown2 hg2 hb2)
      have HM2 : WMem B ga L (.slice (some ⟨g2, 0, none⟩) (cur.length + 1) c2) (cur ++ [(k : Int)]) (w2.setCell ⟨ga, 1, none⟩ (.slice (some ⟨g2, 0, none⟩) (cur.length + 1) c2)) :=
        ⟨HK2.out.set 1 _, by simpa using own8_set HO2.out HK2.out w_ne 1 _, HM.out.base, by simpa using hs2⟩
      have HB3 : Below B w (w2.setCell ⟨ga, 1, none⟩ (.slice (some ⟨g2, 0, none⟩) (cur.length + 1) c2)) := ((HB.out.alloc HM.out.size _).trans HB2.out).setCell HM.out.base _
      have HO3 : Lib.OthersKept 5 (some ga) w (w2.setCell ⟨ga, 1, none⟩ (.slice (some ⟨g2, 0, none⟩) (cur.length + 1) c2)) :=
        others_set (HM.out.others HO.out HG2.out) 1 _
      go_end0
      exact ⟨rfl, _, by rw [← HN.out]; exact HM2, HB3, HO3⟩
end
section
set_option linter.unusedSimpArgs false
set_option linter.unusedVariables false
open Go.RowKit Sha
/-- Iterators over texts are as they were. -/
def ItersKept (w w' : World) : Prop := ∀ (k : Nat) (s : ByteArray) (p : Nat), w.heap[k]? = some (Obj.stringIter s p) → w'.heap[k]? = some (Obj.stringIter s p)
theorem ItersKept.refl (w : World) : ItersKept w w := fun _ _ _ h => h
/-- .. and none of them is at gi. -/
def ItersBut (gi : Nat) (w w' : World) : Prop := ∀ (k : Nat) (s : ByteArray) (p : Nat), w.heap[k]? = some (Obj.stringIter s p) → k ≠ gi ∧ w'.heap[k]? = some (Obj.stringIter s p)
theorem ItersBut.new {a w : World} (h : ItersKept a w) (o : Obj) : ItersBut w.heap.size a (w.alloc o) := fun i s p hi => by
  have h1 := h i s p hi
  have hlt : i < w.heap.size := (Array.getElem?_eq_some_iff.1 h1).1
  exact ⟨by omega, by rw [Below.heap_alloc _ _ _ hlt]; exact h1⟩
theorem ItersBut.kept {gi : Nat} {a w : World} (h : ItersBut gi a w) : ItersKept a w := fun i s p hi => (h i s p hi).2
theorem ItersBut.move {gi : Nat} {a w : World} (h : ItersBut gi a w) (s : ByteArray) (p : Nat) : ItersBut gi a (w.iterAt gi s p) := fun i s' p' hi => by
  obtain ⟨h1, h2⟩ := h i s' p' hi
  exact ⟨h1, by rw [Lib.iterAt_other _ _ _ _ _ h1]; exact h2⟩
theorem ItersBut.on {gi : Nat} {a w w' : World} (h : ItersBut gi a w) (k : ItersKept w w') : ItersBut gi a w' := fun i s p hi => by
  obtain ⟨h1, h2⟩ := h i s p hi
  exact ⟨h1, k i s p h2⟩
def DDone {σ : Type} (f : Int → σ → σ × Int × Int) (R : σ → World → Prop) (c : Int) (st : σ) (w : World) (e : Ending) (w' : World) : Prop :=
  e = .returned (.tuple #[.int .i64 (f c st).2.1, .int .i64 (f c st).2.2]) ∧ R (f c st).1 w' ∧ ItersKept w w'
structure Doer {σ : Type} (P : Program) (F ga B : Nat) (f : Int → σ → σ × Int × Int) (R : σ → World → Prop) : Prop where
  step : ∀ c st w, Fld.isC c → R st w → Calls P F #[.pointer (some ⟨ga, 0, none⟩), .int .i32 c] w (DDone f R c st w)
  keepA : ∀ st w o, R st w → R st (World.alloc w o)
  keepI : ∀ st (w : World) gi s p p', R st w → B ≤ gi → w.heap[gi]? = some (Obj.stringIter s p) → R st (w.iterAt gi s p')
  base : ∀ st (w : World), R st w → B ≤ w.heap.size
  lim : ∀ c st w, R st w → (f c st).2.1 ≤ 9223372036854775807 ∧ -9223372036854775808 ≤ (f c st).2.1
theorem cells_iterAt {w : World} {k : Nat} {s : ByteArray} {p : Nat} (hk : w.heap[k]? = some (.stringIter s p)) (p' : Nat) : CellsKept w (w.iterAt k s p') :=
  ⟨by rw [Lib.iterAt_size]; exact Nat.le_refl _, fun i c e fz hi => by
    rw [Lib.iterAt_other _ _ _ _ _ (fun h => by rw [h, hk] at hi; cases hi)]; exact hi⟩
theorem cells_alloc (w : World) (o : Obj) : CellsKept w (w.alloc o) :=
  ⟨by simp, fun i c e fz hi => by
    have hlt : i < w.heap.size := (Array.getElem?_eq_some_iff.1 hi).1
    rw [Below.heap_alloc _ _ _ hlt]; exact hi⟩
theorem iters_of {ety : TypeId} {ga : Nat} {w w' : World} (h : Lib.OthersKept ety (some ga) w w') (hb : ∃ cs t, Blk w ga cs t) : ItersKept w w' := fun k s p hk =>
  h k _ hk (fun e => by
    obtain ⟨cs, t, hb⟩ := hb
    unfold Blk at hb
    rw [← Option.some.inj e, hk] at hb; cases hb) (fun c fz he => by cases he)
/-- The next letter, where all are letters or brackets. -/
theorem next_isL (P : Program) (s : ByteArray) (k : Nat) (h : k < s.size) (hl : ∀ c ∈ nums s, c < 128) : ∃ c, NextL P s k (k + 1) c ∧ (nums s).drop k = c :: (nums s).drop (k + 1) := by
  obtain ⟨c, k', hn⟩ := next_of P s k h
  rcases hn.is with ⟨h1, rfl, h2⟩ | ⟨h1, d, h2, h3⟩
  · exact ⟨c, hn, h2⟩
  · have : d ∈ nums s := List.mem_of_mem_drop (by rw [h3]; exact List.mem_cons_self ..)
    have := hl d this
    omega
theorem isC_lt {c : Int} (h : Fld.isC c) : c < 128 := by unfold Fld.isC at h; omega
section
variable {σ : Type} {f : Int → σ → σ × Int × Int} {g : List Int} {st : σ}
theorem rep_ok {n : Nat} {st' : σ} (h : Fld.once f g st = (st', 0)) : Fld.rep f g (n + 1) st = Fld.rep f g n st' := by
  rw [Fld.rep, h, if_pos rfl]
theorem rep_err {n : Nat} {st' : σ} {e : Int} (h : Fld.once f g st = (st', e)) (he : e ≠ 0) : Fld.rep f g (n + 1) st = (st', e) := by
  rw [Fld.rep, h, if_neg he]
theorem once_ok {c : Int} {r : List Int} (h : (f c st).2.2 = 0) : Fld.once f (c :: r) st = Fld.once f r (f c st).1 := by
  rw [Fld.once, if_pos h]
theorem once_err {c : Int} {r : List Int} (h : (f c st).2.2 ≠ 0) : Fld.once f (c :: r) st = ((f c st).1, (f c st).2.2) := by
  rw [Fld.once, if_neg h]
end
def RDone {σ : Type} (R : σ → World → Prop) (r : σ × Int) (w : World) (e : Ending) (w' : World) : Prop :=
  e = .returned (.int .i64 r.2) ∧ R r.1 w' ∧ ItersKept w w'
theorem chk_len {s : List Int} (h : Fld.chk s = true) : s.length ≤ 40 ∧ Fld.chkL s false false = true := by unfold Fld.chk at h; simpa using h
theorem nums_extract (s : ByteArray) (i j : Nat) : nums (s.extract i j) = ((nums s).take j).drop i := by
  unfold nums
  rw [← List.map_take, ← List.map_drop]
  congr 1
  rw [ByteArray.data_extract, Array.toList_extract, List.extract_eq_take_drop, List.drop_take]
theorem chkL_lt : ∀ (l : List Int) (o k : Bool), Fld.chkL l o k = true → ∀ c ∈ l, c < 128
  | [], _, _, _ => by simp
  | d :: r, o, k, h => by
    intro c hc
    unfold Fld.chkL at h
    rcases List.mem_cons.1 hc with rfl | hc
    · split at h
      · omega
      · split at h
        · omega
        · split at h
          · omega
          · simp at h
    · split at h
      · exact chkL_lt r _ _ h c hc
      · split at h
        · exact chkL_lt r _ _ h c hc
        · split at h
          · exact chkL_lt r _ _ h c hc
          · simp at h
theorem chkL_none {c : Int} {r : List Int} {k : Bool} (h : Fld.chkL (c :: r) false k = true) : (Fld.isC c ∧ c ≠ 40 ∧ Fld.chkL r false true = true) ∨ (c = 40 ∧ Fld.chkL r true false = true) := by
  unfold Fld.chkL at h
  split at h
  · rename_i h1
    exact Or.inl ⟨by unfold Fld.isC; omega, by omega, h⟩
  · split at h
    · rename_i h1 h2
      exact Or.inr ⟨h2.1, h⟩
    · simp at h
theorem chkL_some {c : Int} {r : List Int} {k : Bool} (h : Fld.chkL (c :: r) true k = true) : (Fld.isC c ∧ c ≠ 41 ∧ c ≠ 40 ∧ Fld.chkL r true true = true) ∨ (c = 41 ∧ Fld.chkL r false k = true) := by
  unfold Fld.chkL at h
  split at h
  · rename_i h1
    exact Or.inl ⟨by unfold Fld.isC; omega, by omega, by omega, h⟩
  · split at h
    · rename_i h1 h2
      simp at h2
    · split at h
      · rename_i h1 h2 h3
        exact Or.inr ⟨h3.1, h⟩
      · simp at h
section
variable {σ : Type} {f : Int → σ → σ × Int × Int} {st : σ} {c t : Int} {r cs : List Int}
theorem walk_ok (h : (f c st).2.2 = 0) : Fld.walkL f none t (c :: r) st = Fld.walkL f (if c = 40 then some [] else none) (f c st).2.1 r (f c st).1 := by rw [Fld.walkL, if_pos h]
theorem walk_err (h : (f c st).2.2 ≠ 0) : Fld.walkL f none t (c :: r) st = ((f c st).1, (f c st).2.2) := by rw [Fld.walkL, if_neg h]
theorem walk_in (h : c ≠ 41) : Fld.walkL f (some cs) t (c :: r) st = Fld.walkL f (some (cs ++ [c])) t r st := by rw [Fld.walkL, if_neg h]
theorem walk_shut {st' : σ} (h : Fld.rep f cs t.toNat st = (st', 0)) : Fld.walkL f (some cs) t (41 :: r) st = Fld.walkL f none t r st' := by rw [Fld.walkL, if_pos rfl, h, if_pos rfl]
theorem walk_bad {st' : σ} {e : Int} (h : Fld.rep f cs t.toNat st = (st', e)) (he : e ≠ 0) : Fld.walkL f (some cs) t (41 :: r) st = (st', e) := by rw [Fld.walkL, if_pos rfl, h, if_neg he]
theorem walk_end {g : Option (List Int)} : Fld.walkL f g t [] st = (st, 0) := by cases g <;> rfl
/-- Where one stands in a shape: behind k letters; a group's letters since bg. -/
structure WRel (f : Int → σ → σ × Int × Int) (l : List Int) (st : σ) (k bg : Nat) (t : Int) (gO : Option (List Int)) (kk : Bool) (sk : σ) : Prop where
  grp : (gO = none ∧ bg = 0) ∨ (∃ cs, gO = some cs ∧ 0 < bg ∧ bg ≤ k ∧ cs = (l.take k).drop bg)
  ok : ∀ cs, gO = some cs → ∀ c ∈ cs, Fld.isC c
  chk : Fld.chkL (l.drop k) gO.isSome kk = true
  walk : Fld.walkL f none 0 l st = Fld.walkL f gO t (l.drop k) sk
theorem WRel.open_ {l : List Int} {k bg : Nat} {t : Int} {kk : Bool} {sk st : σ} (h : WRel f l st k bg t none kk sk) (hd : l.drop k = c :: l.drop (k + 1)) (hc : c = 40) (h0 : (f c sk).2.2 = 0) :
    WRel f l st (k + 1) (k + 1) (f c sk).2.1 (some []) false (f c sk).1 := by
  have hk := h.chk
  rw [hd] at hk
  rcases chkL_none hk with ⟨_, h2, _⟩ | ⟨_, h2⟩
  · exact absurd hc h2
  · refine ⟨Or.inr ⟨[], rfl, by omega, Nat.le_refl _, ?_⟩, by simp, h2, ?_⟩
    · rw [List.drop_eq_nil_of_le (List.length_take_le _ _)]
    · rw [h.walk, hd, walk_ok h0, if_pos hc]
theorem WRel.one {l : List Int} {k bg : Nat} {t : Int} {kk : Bool} {sk st : σ} (h : WRel f l st k bg t none kk sk) (hd : l.drop k = c :: l.drop (k + 1)) (hc : c ≠ 40) (h0 : (f c sk).2.2 = 0) :
    WRel f l st (k + 1) 0 (f c sk).2.1 none true (f c sk).1 := by
  have hk := h.chk
  rw [hd] at hk
  rcases chkL_none hk with ⟨_, _, h2⟩ | ⟨h2, _⟩
  · exact ⟨Or.inl ⟨rfl, rfl⟩, by simp, h2, by rw [h.walk, hd, walk_ok h0, if_neg hc]⟩
  · exact absurd h2 hc
theorem WRel.in_ {l : List Int} {k bg : Nat} {t : Int} {kk : Bool} {sk st : σ} {cs : List Int} (h : WRel f l st k bg t (some cs) kk sk) (hd : l.drop k = c :: l.drop (k + 1)) (hc : c ≠ 41) :
    WRel f l st (k + 1) bg t (some (cs ++ [c])) true sk := by
  have hk := h.chk
  rw [hd] at hk
  rcases chkL_some hk with ⟨h1, _, _, h2⟩ | ⟨h2, _⟩
  · rcases h.grp with ⟨hn, _⟩ | ⟨cs', hn, h3, h4, h5⟩
    · cases hn
    · cases hn
      refine ⟨Or.inr ⟨_, rfl, h3, by omega, ?_⟩, ?_, h2, by rw [h.walk, hd, walk_in hc]⟩
      · have hlt : k < l.length := by
          rcases Nat.lt_or_ge k l.length with h | h
          · exact h
          · rw [List.drop_eq_nil_of_le h] at hd; cases hd
        have hg : l[k]? = some c := by
          have := congrArg (·[0]?) hd
          simpa using this
        rw [List.take_add_one, hg, h5, List.drop_append_of_le_length (by rw [List.length_take]; omega)]
        rfl
      · intro cs' hn c' hc'
        cases hn
        rcases List.mem_append.1 hc' with h6 | h6
        · exact h.ok cs rfl c' h6
        · simp at h6; subst h6; exact h1
  · exact absurd h2 hc
theorem WRel.shut {l : List Int} {k bg : Nat} {t : Int} {kk : Bool} {sk st sk' : σ} {cs : List Int} (h : WRel f l st k bg t (some cs) kk sk) (hd : l.drop k = 41 :: l.drop (k + 1)) (h0 : Fld.rep f cs t.toNat sk = (sk', 0)) :
    WRel f l st (k + 1) 0 t none kk sk' := by
  have hk := h.chk
  rw [hd] at hk
  rcases chkL_some hk with ⟨_, h2, _⟩ | ⟨_, h2⟩
  · exact absurd rfl h2
  · exact ⟨Or.inl ⟨rfl, rfl⟩, by simp, h2, by rw [h.walk, hd, walk_shut h0]⟩
end
end
end Go.Proofs.YtbogjfmefkhglaaGreat
