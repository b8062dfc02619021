/-
  Plain mathematics of notes, three: what the program reads of items, whether they may be or not; what comes of bytes.
-/
import Derived.Test.YteepaoklibflpaaR7
namespace Go.Proofs.Yteepaoklibflpaa
section
set_option linter.unusedSimpArgs false
set_option linter.unusedVariables false
namespace Nte
open Fld (Itm zero32 putS walkL rep once okFor bound enc)
open Frm (Bytes)
def pairOk (a b : Int) : Prop := (0 ≤ a ∧ a ≤ 2147483647) ∧ (0 ≤ b ∧ b ≤ 64) ∧ (a = 0 ↔ b = 0)
instance (a b : Int) : Decidable (pairOk a b) := by unfold pairOk; infer_instance
/-- A letter's items, where that of Yes is any number. -/
def itsR (x : Not) (v : Int) (c : Int) : List Itm := if c = 121 then [iN v] else its x c
def setR (x : Not) (v : Int) (y : Not) (c : Int) : Not := if c = 121 then { y with Y := decide (v = 1) } else setf x y c
def okR (x : Not) (v : Int) (c : Int) : Prop :=
  if c = 99 then Call x else if c = 115 then setOk x.S else if c = 104 then nodeOk x.H else if c = 98 then pairOk x.B1 x.B2 ∧ ¬ (x.B1 = 0 ∧ x.B2 = 0) else if c = 111 then pairOk x.O1 x.O2 else
  if c = 121 then 0 ≤ v ∧ v ≤ 1 else if c = 105 then x.I.length ≤ 64 else if c = 119 then x.W.length ≤ 64 ∧ ∀ m ∈ x.W, m.May else True
instance (x : Not) (v c : Int) : Decidable (okR x v c) := by unfold okR; infer_instance
def itemsR (x : Not) (v : Int) : List Itm := iN x.K :: iN x.F :: iN x.T :: (letters x.K).flatMap (itsR x v)
def noteR (x : Not) (v : Int) : Not := (letters x.K).foldl (setR x v) (base x.K x.F x.T)
/-- Does what a note has agree with what it says? -/
def agr (y : Not) : Prop := ((y.K = 8 ∨ y.K = 10 ∨ y.K = 15) → y.Y = false → y.X = []) ∧ (y.K = 12 → y.Y = true → y.O1 = 0 ∧ y.O2 = 0)
instance (y : Not) : Decidable (agr y) := by unfold agr; infer_instance
def headR (x : Not) : Prop := nodeOk x.F ∧ nodeOk x.T ∧ x.F ≠ x.T
instance (x : Not) : Decidable (headR x) := by unfold headR; infer_instance
def mayR (x : Not) (v : Int) : Prop := headR x ∧ (∀ c ∈ letters x.K, okR x v c) ∧ agr (noteR x v)
instance (x : Not) (v : Int) : Decidable (mayR x v) := by unfold mayR; infer_instance
theorem yes_one (y : Bool) : decide (yes y = 1) = y := by unfold yes; cases y <;> simp
theorem itsR_yes (x : Not) {c : Int} (hc : isT c) : itsR x (yes x.Y) c = its x c := by
  rcases hc with rfl | rfl | rfl | rfl | rfl | rfl | rfl | rfl | rfl | rfl <;> simp [itsR, its]
theorem setR_yes (x y : Not) {c : Int} (hc : isT c) : setR x (yes x.Y) y c = setf x y c := by
  rcases hc with rfl | rfl | rfl | rfl | rfl | rfl | rfl | rfl | rfl | rfl <;> simp [setR, setf, yes_one]
theorem flat_on {α β : Type} (f g : α → List β) (l : List α) (h : ∀ c ∈ l, f c = g c) : l.flatMap f = l.flatMap g := by
  induction l with
  | nil => rfl
  | cons a l ih => rw [List.flatMap_cons, List.flatMap_cons, h a (List.mem_cons_self ..), ih (fun c hc => h c (List.mem_cons_of_mem _ hc))]
theorem itemsR_yes (x : Not) : itemsR x (yes x.Y) = items x := by
  unfold itemsR items
  congr 3
  exact flat_on _ _ _ fun c hc => itsR_yes x (letters_isT _ c hc)
theorem foldl_on {α β : Type} (f g : β → α → β) (l : List α) : ∀ (b : β), (∀ c ∈ l, ∀ b, f b c = g b c) → l.foldl f b = l.foldl g b := by
  induction l with
  | nil => intro b _; rfl
  | cons a l ih => intro b h; rw [List.foldl_cons, List.foldl_cons, h a (List.mem_cons_self ..), ih _ (fun c hc => h c (List.mem_cons_of_mem _ hc))]
theorem noteR_yes (x : Not) : noteR x (yes x.Y) = (letters x.K).foldl (setf x) (base x.K x.F x.T) :=
  foldl_on _ _ _ _ fun c hc b => setR_yes x b (letters_isT _ c hc)
theorem kinds {K : Int} (h : 1 ≤ K ∧ K ≤ 19) : K = 1 ∨ K = 2 ∨ K = 3 ∨ K = 4 ∨ K = 5 ∨ K = 6 ∨ K = 7 ∨ K = 8 ∨ K = 9 ∨ K = 10 ∨ K = 11 ∨ K = 12 ∨ K = 13 ∨ K = 14 ∨ K = 15 ∨ K = 16 ∨ K = 17 ∨ K = 18 ∨ K = 19 := by omega
/-- A note that may be is read as it is, and may be. -/
theorem can_may {x : Not} (h : Can x) : mayR x (yes x.Y) ∧ noteR x (yes x.Y) = x := by
  have he : noteR x (yes x.Y) = x := by rw [noteR_yes, set_all h]
  refine ⟨?_, he⟩
  unfold mayR
  rw [he]
  obtain ⟨hk, hf, ht, hne, ⟨hc, hs, hh, hb, ho⟩, hy, hd, hX, hi, hI, hw, hW, hm⟩ := h
  have hyy : 0 ≤ yes x.Y ∧ yes x.Y ≤ 1 := by unfold yes; split <;> omega
  refine ⟨⟨hf, ht, hne⟩, ?_, ?_⟩
  · intro c hcl
    rcases letters_isT _ c hcl with rfl | rfl | rfl | rfl | rfl | rfl | rfl | rfl | rfl | rfl
    · simpa [okR, hcl] using hc
    · rw [if_pos hcl] at hb
      simp [okR]
      unfold pairOk setOk nodeOk at *
      omega
    · simp [okR]
      unfold pairOk setOk nodeOk at *
      omega
    · simp [okR]
    · simp [okR]
    · simpa [okR] using hI
    · simp [okR]; exact ⟨hW, hm⟩
    · simpa [okR, hcl] using hs
    · simpa [okR, hcl] using hh
    · simpa [okR] using hyy
  · unfold agr
    constructor
    · intro hk hY
      rcases hX with hX | ⟨_, hX⟩
      · exact hX
      · have : (121 : Int) ∈ letters x.K := by rcases hk with e | e | e <;> rw [e] <;> decide
        rw [hX this] at hY; cases hY
    · intro hk hY
      rcases ho with ho | ho
      · exact ho
      · exact absurd ⟨hk, hY⟩ ho.2.2.2
theorem K_fold (x : Not) (v : Int) (ls : List Int) : ∀ (hl : ∀ c ∈ ls, isT c) (y : Not), (ls.foldl (setR x v) y).K = y.K ∧ (ls.foldl (setR x v) y).F = y.F ∧ (ls.foldl (setR x v) y).T = y.T := by
  induction ls with
  | nil => intro _ y; exact ⟨rfl, rfl, rfl⟩
  | cons c ls ih =>
    intro hl y
    rw [List.foldl_cons]
    obtain ⟨h1, h2, h3⟩ := ih (fun c hc => hl c (List.mem_cons_of_mem _ hc)) (setR x v y c)
    rw [h1, h2, h3]
    rcases hl c (List.mem_cons_self ..) with rfl | rfl | rfl | rfl | rfl | rfl | rfl | rfl | rfl | rfl <;> simp [setR, setf]
theorem noteR_K (x : Not) (v : Int) : (noteR x v).K = x.K := (K_fold x v _ (letters_isT _) _).1
/-- What is read, and may be, is a note that may be. -/
theorem may_can {x : Not} {v : Int} (hk : 1 ≤ x.K ∧ x.K ≤ 19) (h : mayR x v) : Can (noteR x v) := by
  obtain ⟨⟨hf, ht, hne⟩, hl, ha⟩ := h
  have c99 := hl 99
  have c115 := hl 115
  have c104 := hl 104
  have c98 := hl 98
  have c111 := hl 111
  have c121 := hl 121
  have c105 := hl 105
  have c119 : 119 ∈ letters x.K → x.W.length ≤ 64 := fun h => by have := hl 119 h; simp [okR] at this; exact this.1
  have m119 : 119 ∈ letters x.K → ∀ m ∈ x.W, m.May := fun h => by have := hl 119 h; simp [okR] at this; exact this.2
  clear hl
  obtain ⟨K, F, T, C1, C2, C3, S, H, B1, B2, O1, O2, Y, D, X, I, W⟩ := x
  simp only [okR] at *
  rcases kinds hk with rfl | rfl | rfl | rfl | rfl | rfl | rfl | rfl | rfl | rfl | rfl | rfl | rfl | rfl | rfl | rfl | rfl | rfl | rfl <;>
    (simp [letters, Call, pairOk] at c99 c115 c104 c98 c111 c121 c105 c119 m119
     simp [noteR, letters, setR, setf, base, none_, agr] at ha
     simp [Can, Nums, Rest, letters, noteR, setR, setf, base, none_, hf, ht, hne, Call, NoCall]
     try unfold setOk nodeOk at *
     (repeat' refine And.intro ?_ ?_) <;> first | omega | exact m119 | exact ha | (intro e; first | omega | exact ha e) | (by_cases hv : v = 1; exact Or.inr hv; exact Or.inl (ha hv)) | (cases Y <;> simp_all) | skip)
theorem items_note {x : Not} {v : Int} (hk : 1 ≤ x.K ∧ x.K ≤ 19) (h : mayR x v) : items (noteR x v) = itemsR x v := by
  obtain ⟨_, hl, _⟩ := h
  obtain ⟨K, F, T, C1, C2, C3, S, H, B1, B2, O1, O2, Y, D, X, I, W⟩ := x
  simp only at *
  have hv : 0 ≤ v ∧ v ≤ 1 → yes (decide (v = 1)) = v := by intro h; unfold yes; by_cases e : v = 1 <;> simp [e]; omega
  rcases kinds hk with rfl | rfl | rfl | rfl | rfl | rfl | rfl | rfl | rfl | rfl | rfl | rfl | rfl | rfl | rfl | rfl | rfl | rfl | rfl <;>
    simp [letters, okR] at hl <;>
    simp [items, itemsR, noteR, letters, setR, setf, base, none_, itsR, its, *]
/-! ### Bytes too long -/
theorem walk_long {x : Not} (hf : Fits { x with X := [] }) (hX : 4000 < x.X.length) (ls : List Int) : ∀ (hl : ∀ c ∈ ls, isT c) (h120 : 120 ∈ ls) (t : Int) (out : List Int) (l : List Itm),
    (walkL putS none t (ls.flatMap shp) (out, ls.flatMap (its x) ++ l)).2 = 3 := by
  induction ls with
  | nil => intro _ h; simp at h
  | cons c ls ih =>
    intro hl h120 t out l
    rw [List.flatMap_cons, List.flatMap_cons, List.append_assoc]
    by_cases hc : c = 120
    · subst hc
      have hp : putS 98 (out, iB x.X :: (ls.flatMap (its x) ++ l)) = ((out, iB x.X :: (ls.flatMap (its x) ++ l)), 0, 3) := by
        have h1 : okFor 98 (iB x.X) = true := by simp [okFor, iB]
        have h2 : bound 98 (iB x.X) = 3 := by unfold bound; rw [if_neg (by simp [iB]), if_pos (Or.inl (by simpa [iB] using hX))]
        simp [putS, h1, h2]
      have e1 : shp 120 = [98] := by simp [shp]
      have e2 : its x 120 = [iB x.X] := by simp [its]
      rw [e1, e2, List.singleton_append, List.singleton_append, walkL, hp]
      simp
    · have e : its x c = its { x with X := [] } c := by
        rcases hl c (List.mem_cons_self ..) with rfl | rfl | rfl | rfl | rfl | rfl | rfl | rfl | rfl | rfl <;> first | (exact absurd rfl hc) | simp [its]
      rw [e, walk_letter hf (hl c (List.mem_cons_self ..))]
      exact ih (fun c hc => hl c (List.mem_cons_of_mem _ hc)) (by rcases List.mem_cons.1 h120 with h | h; exact absurd h.symm hc; exact h) 0 _ l
/-- .. are refused as that. -/
theorem put_long {x : Not} (h : Can x) (hX : 4000 < x.X.length) : Fld.put (shape x.K) (items x) = ([], 3) := by
  have h120 : 120 ∈ letters x.K := by
    rcases h.2.2.2.2.2.2.2.1 with e | e
    · rw [e] at hX; simp at hX
    · exact e.1
  have hf : Fits { x with X := [] } := by
    have h2 : Can { x with X := [] } := by
      obtain ⟨hk, hf, ht, hne, hn, hy, hd, _, hi⟩ := h
      exact ⟨hk, hf, ht, hne, hn, hy, hd, Or.inl rfl, hi⟩
    exact h2.fits (by simp)
  have hw : (walkL putS none 0 (shape x.K) ([], items x)).2 = 3 := by
    unfold shape items
    rw [walk_step (put_n hf.K _ _) (by decide), walk_step (put_n hf.F _ _) (by decide), walk_step (put_n hf.T _ _) (by decide)]
    have := walk_long hf hX (letters x.K) (letters_isT _) h120 0 ([] ++ n8 x.K ++ n8 x.F ++ n8 x.T) []
    rw [List.append_nil] at this
    exact this
  unfold Fld.put
  rw [if_pos (shape_chk _)]
  simp only [hw]
  simp
/-! ### Which items come of a shape -/
theorem not_of {c : Int} {x : Itm} (h1 : okFor c x = true) : (c = 110 → x = iN x.N) ∧ (c = 40 → x = iN x.N) ∧ (c = 98 → x = iB x.B) ∧ (c = 100 → x = iD x.D) := by
  obtain ⟨N, B, D⟩ := x
  refine ⟨?_, ?_, ?_, ?_⟩ <;> rintro rfl <;> simp [okFor] at h1 <;> simp [iN, iB, iD, h1]
theorem walk_inv {c : Int} (hc : c ≠ 40) {r : List Int} {t : Int} {out : List Int} {l : List Itm} {o : List Int} (h : walkL putS none t (c :: r) (out, l) = ((o, []), 0)) :
    ∃ x l' out', l = x :: l' ∧ okFor c x = true ∧ bound c x = 0 ∧ walkL putS none 0 r (out', l') = ((o, []), 0) := by
  rw [walkL] at h
  split at h
  · rename_i h0
    try rw [if_neg hc] at h
    obtain ⟨⟨o', l'⟩, n, e⟩ : ∃ st n, putS c (out, l) = (st, n, 0) := ⟨_, _, Fld.pair_eta rfl (Fld.pair_eta rfl h0)⟩
    rw [e] at h
    obtain ⟨x, h1, h2, h3, _, _⟩ := Fld.putS_ok e
    refine ⟨x, l', o', h1, h2, h3, ?_⟩
    rw [walk_t _ _ n]; exact h
  · rename_i h0
    exact absurd (congrArg Prod.snd h) h0
theorem once_inv {c : Int} {g : List Int} {out : List Int} {l : List Itm} {st : List Int × List Itm} (h : once putS (c :: g) (out, l) = (st, 0)) :
    ∃ x l' out', l = x :: l' ∧ okFor c x = true ∧ bound c x = 0 ∧ once putS g (out', l') = (st, 0) := by
  rw [once] at h
  split at h
  · rename_i h0
    obtain ⟨⟨o', l'⟩, n, e⟩ : ∃ st n, putS c (out, l) = (st, n, 0) := ⟨_, _, Fld.pair_eta rfl (Fld.pair_eta rfl h0)⟩
    rw [e] at h
    obtain ⟨x, h1, h2, h3, _, _⟩ := Fld.putS_ok e
    exact ⟨x, l', o', h1, h2, h3, h⟩
  · rename_i h0
    exact absurd (congrArg Prod.snd h) h0
theorem rep_inv {α : Type} (g : List Int) (f : α → List Itm) (hf : ∀ out l st, once putS g (out, l) = (st, 0) → ∃ a out' l', l = f a ++ l' ∧ st = (out', l')) : ∀ (n : Nat) (out : List Int) (l : List Itm) (st : List Int × List Itm), rep putS g n (out, l) = (st, 0) →
    ∃ (L : List α) (out' : List Int) (l' : List Itm), L.length = n ∧ l = L.flatMap f ++ l' ∧ st = (out', l') := by
  intro n
  induction n with
  | zero => intro out l st h; exact ⟨[], out, l, rfl, rfl, (congrArg Prod.fst h).symm⟩
  | succ n ih =>
    intro out l st h
    rw [rep] at h
    split at h
    · rename_i h0
      obtain ⟨a, out', l', e1, e2⟩ := hf out l _ (Fld.pair_eta rfl h0)
      rw [e2] at h
      obtain ⟨L, o2, l2, h1, h2, h3⟩ := ih _ _ _ h
      exact ⟨a :: L, o2, l2, by simp [h1], by rw [e1, h2]; simp, h3⟩
    · rename_i h0
      exact absurd (congrArg Prod.snd h) h0
theorem grp_inv (s : List Int) : ∀ (g acc : List Int) (t : Int) (st : List Int × List Itm), (∀ c ∈ g, c ≠ 41) → walkL putS (some acc) t (g ++ 41 :: s) st = walkL putS (some (acc ++ g)) t (41 :: s) st := by
  intro g
  induction g with
  | nil => intro acc t st _; simp
  | cons c g ih =>
    intro acc t st hc
    rw [List.cons_append, walkL, if_neg (hc c (List.mem_cons_self ..)), ih _ _ _ (fun c h => hc c (List.mem_cons_of_mem _ h))]
    simp
theorem group_inv {α : Type} (g : List Int) (hg : ∀ c ∈ g, c ≠ 41) (f : α → List Itm) (hf : ∀ out l st, once putS g (out, l) = (st, 0) → ∃ a out' l', l = f a ++ l' ∧ st = (out', l')) {s : List Int} {t : Int} {out o : List Int} {l : List Itm}
    (h : walkL putS none t (40 :: (g ++ 41 :: s)) (out, l) = ((o, []), 0)) :
    ∃ (L : List α) (l' : List Itm) (out' : List Int), l = iN L.length :: (L.flatMap f ++ l') ∧ L.length ≤ 4000 ∧ walkL putS none 0 s (out', l') = ((o, []), 0) := by
  rw [walkL] at h
  split at h
  · rename_i h0
    simp only [if_true] at h
    obtain ⟨⟨o1, l1⟩, n, e⟩ : ∃ st n, putS 40 (out, l) = (st, n, 0) := ⟨_, _, Fld.pair_eta rfl (Fld.pair_eta rfl h0)⟩
    rw [e] at h
    obtain ⟨x, h1, h2, h3, h4, h5⟩ := Fld.putS_ok e
    have hb := Fld.bound_zero h3
    rw [grp_inv s g [] _ _ hg, List.nil_append, walkL] at h
    simp only [if_true] at h
    split at h
    · rename_i h6
      obtain ⟨L, o2, l2, g1, g2, g3⟩ := rep_inv g f hf _ _ _ _ (Fld.pair_eta rfl h6)
      rw [g3] at h
      have hn : n = (L.length : Int) := by rw [g1]; have := hb.1; omega
      refine ⟨L, l2, o2, ?_, ?_, ?_⟩
      · rw [h1, (not_of h2).2.1 rfl, ← h5, hn, g2]
      · have := hb.2.2.2 rfl; rw [← h5, hn] at this; omega
      · rw [walk_t _ _ n]; exact h
    · rename_i h6
      exact absurd (congrArg Prod.snd h) h6
  · rename_i h0
    exact absurd (congrArg Prod.snd h) h0
theorem iN_big {c : Int} {x : Itm} (h1 : okFor c x = true) (hc : c = 110) : x = iN x.N := (not_of h1).1 hc
theorem fit_ok {x : Itm} (h : x.ok) : fit x.N := ⟨h.N0, h.N1⟩
/-- A letter's items. -/
theorem letter_inv {c : Int} (hc : isT c) {s : List Int} {t : Int} {out o : List Int} {l : List Itm} (hi : ∀ i ∈ l, i.ok) (h : walkL putS none t (shp c ++ s) (out, l) = ((o, []), 0)) :
    ∃ (x : Not) (v : Int) (l' : List Itm) (out' : List Int), x.ok ∧ fit v ∧ x.I.length ≤ 4000 ∧ x.W.length ≤ 4000 ∧ l = itsR x v c ++ l' ∧ walkL putS none 0 s (out', l') = ((o, []), 0) := by
  have n0 : fit 0 := ⟨by omega, by omega⟩
  have nk := none_ok
  rcases hc with rfl | rfl | rfl | rfl | rfl | rfl | rfl | rfl | rfl | rfl
  · obtain ⟨a, l1, o1, rfl, a1, a2, h⟩ := walk_inv (by decide) (show walkL putS none t (110 :: (110 :: (110 :: s))) (out, l) = _ from h)
    obtain ⟨b, l2, o2, rfl, b1, b2, h⟩ := walk_inv (by decide) h
    obtain ⟨d, l3, o3, rfl, d1, d2, h⟩ := walk_inv (by decide) h
    refine ⟨{ none_ with C1 := a.N, C2 := b.N, C3 := d.N }, 0, l3, o3, ⟨nk.K, nk.F, nk.T, ⟨fit_ok (hi a (by simp)), fit_ok (hi b (by simp)), fit_ok (hi d (by simp))⟩, nk.S, nk.H, nk.B, nk.O, nk.D, nk.len, nk.X, nk.Xl, nk.I, nk.Il, nk.W, nk.Wl⟩, n0, by simp [none_], by simp [none_], ?_, h⟩
    have e1 := iN_big a1 rfl
    have e2 := iN_big b1 rfl
    have e3 := iN_big d1 rfl
    simp [itsR, its, ← e1, ← e2, ← e3]
  · obtain ⟨a, l1, o1, rfl, a1, a2, h⟩ := walk_inv (by decide) (show walkL putS none t (110 :: (110 :: s)) (out, l) = _ from h)
    obtain ⟨b, l2, o2, rfl, b1, b2, h⟩ := walk_inv (by decide) h
    refine ⟨{ none_ with B1 := a.N, B2 := b.N }, 0, l2, o2, ⟨nk.K, nk.F, nk.T, nk.C, nk.S, nk.H, ⟨fit_ok (hi a (by simp)), fit_ok (hi b (by simp))⟩, nk.O, nk.D, nk.len, nk.X, nk.Xl, nk.I, nk.Il, nk.W, nk.Wl⟩, n0, by simp [none_], by simp [none_], ?_, h⟩
    have e1 := iN_big a1 rfl
    have e2 := iN_big b1 rfl
    simp [itsR, its, ← e1, ← e2]
  · obtain ⟨a, l1, o1, rfl, a1, a2, h⟩ := walk_inv (by decide) (show walkL putS none t (110 :: (110 :: s)) (out, l) = _ from h)
    obtain ⟨b, l2, o2, rfl, b1, b2, h⟩ := walk_inv (by decide) h
    refine ⟨{ none_ with O1 := a.N, O2 := b.N }, 0, l2, o2, ⟨nk.K, nk.F, nk.T, nk.C, nk.S, nk.H, nk.B, ⟨fit_ok (hi a (by simp)), fit_ok (hi b (by simp))⟩, nk.D, nk.len, nk.X, nk.Xl, nk.I, nk.Il, nk.W, nk.Wl⟩, n0, by simp [none_], by simp [none_], ?_, h⟩
    have e1 := iN_big a1 rfl
    have e2 := iN_big b1 rfl
    simp [itsR, its, ← e1, ← e2]
  · obtain ⟨a, l1, o1, rfl, a1, a2, h⟩ := walk_inv (by decide) (show walkL putS none t (100 :: s) (out, l) = _ from h)
    have ha := hi a (by simp)
    refine ⟨{ none_ with D := a.D }, 0, l1, o1, ⟨nk.K, nk.F, nk.T, nk.C, nk.S, nk.H, nk.B, nk.O, ha.D, ha.len, nk.X, nk.Xl, nk.I, nk.Il, nk.W, nk.Wl⟩, n0, by simp [none_], by simp [none_], ?_, h⟩
    have e1 := (not_of a1).2.2.2 rfl
    simp [itsR, its, ← e1]
  · obtain ⟨a, l1, o1, rfl, a1, a2, h⟩ := walk_inv (by decide) (show walkL putS none t (98 :: s) (out, l) = _ from h)
    have ha := hi a (by simp)
    have hb := Fld.bound_zero a2
    refine ⟨{ none_ with X := a.B }, 0, l1, o1, ⟨nk.K, nk.F, nk.T, nk.C, nk.S, nk.H, nk.B, nk.O, nk.D, nk.len, ha.B, by have := hb.2.2.1; show a.B.length ≤ _; omega, nk.I, nk.Il, nk.W, nk.Wl⟩, n0, by simp [none_], by simp [none_], ?_, h⟩
    have e1 := (not_of a1).2.2.1 rfl
    simp [itsR, its, ← e1]
  · have hf : ∀ out l st, once putS [100] (out, l) = (st, 0) → ∃ (d : List Int) (out' : List Int) (l' : List Itm), l = [iD d] ++ l' ∧ st = (out', l') := fun out l st h => by
      obtain ⟨a, l1, o1, rfl, a1, a2, h⟩ := once_inv h
      exact ⟨a.D, o1, l1, by rw [← (not_of a1).2.2.2 rfl]; rfl, (congrArg Prod.fst h).symm⟩
    obtain ⟨L, l', o', rfl, h1, h2⟩ := group_inv [100] (by simp) (fun d : List Int => [iD d]) hf (show walkL putS none t (40 :: ([100] ++ 41 :: s)) (out, l) = _ from h)
    refine ⟨{ none_ with I := L }, 0, l', o', ⟨nk.K, nk.F, nk.T, nk.C, nk.S, nk.H, nk.B, nk.O, nk.D, nk.len, nk.X, nk.Xl, ?_, by show L.length ≤ _; omega, nk.W, nk.Wl⟩, n0, h1, by simp [none_], by simp [itsR, its], h2⟩
    intro d hd
    have := hi (iD d) (List.mem_cons_of_mem _ (List.mem_append_left _ (List.mem_flatMap.2 ⟨d, hd, by simp⟩)))
    exact ⟨this.D, this.len⟩
  · have hf : ∀ out l st, once putS [110, 110, 110] (out, l) = (st, 0) → ∃ (m : Mb) (out' : List Int) (l' : List Itm), l = w3 m ++ l' ∧ st = (out', l') := fun out l st h => by
      obtain ⟨a, l1, o1, rfl, a1, a2, h⟩ := once_inv h
      obtain ⟨b, l2, o2, rfl, b1, b2, h⟩ := once_inv h
      obtain ⟨d, l3, o3, rfl, d1, d2, h⟩ := once_inv h
      have e1 := iN_big a1 rfl
      have e2 := iN_big b1 rfl
      have e3 := iN_big d1 rfl
      exact ⟨⟨a.N, b.N, d.N⟩, o3, l3, by simp [w3, ← e1, ← e2, ← e3], (congrArg Prod.fst h).symm⟩
    obtain ⟨L, l', o', rfl, h1, h2⟩ := group_inv [110, 110, 110] (by simp) w3 hf (show walkL putS none t (40 :: ([110, 110, 110] ++ 41 :: s)) (out, l) = _ from h)
    refine ⟨{ none_ with W := L }, 0, l', o', ⟨nk.K, nk.F, nk.T, nk.C, nk.S, nk.H, nk.B, nk.O, nk.D, nk.len, nk.X, nk.Xl, nk.I, nk.Il, ?_, by show L.length ≤ _; omega⟩, n0, by simp [none_], h1, by simp [itsR, its], h2⟩
    intro m hm
    have hw : ∀ i ∈ w3 m, i.ok := fun i hi' => hi i (List.mem_cons_of_mem _ (List.mem_append_left _ (List.mem_flatMap.2 ⟨m, hm, hi'⟩)))
    exact ⟨fit_ok (hw (iN m.I) (by simp [w3])), fit_ok (hw (iN m.S) (by simp [w3])), fit_ok (hw (iN m.N) (by simp [w3]))⟩
  · obtain ⟨a, l1, o1, rfl, a1, a2, h⟩ := walk_inv (by decide) (show walkL putS none t (110 :: s) (out, l) = _ from h)
    refine ⟨{ none_ with S := a.N }, 0, l1, o1, ⟨nk.K, nk.F, nk.T, nk.C, fit_ok (hi a (by simp)), nk.H, nk.B, nk.O, nk.D, nk.len, nk.X, nk.Xl, nk.I, nk.Il, nk.W, nk.Wl⟩, n0, by simp [none_], by simp [none_], ?_, h⟩
    have e1 := iN_big a1 rfl
    simp [itsR, its, ← e1]
  · obtain ⟨a, l1, o1, rfl, a1, a2, h⟩ := walk_inv (by decide) (show walkL putS none t (110 :: s) (out, l) = _ from h)
    refine ⟨{ none_ with H := a.N }, 0, l1, o1, ⟨nk.K, nk.F, nk.T, nk.C, nk.S, fit_ok (hi a (by simp)), nk.B, nk.O, nk.D, nk.len, nk.X, nk.Xl, nk.I, nk.Il, nk.W, nk.Wl⟩, n0, by simp [none_], by simp [none_], ?_, h⟩
    have e1 := iN_big a1 rfl
    simp [itsR, its, ← e1]
  · obtain ⟨a, l1, o1, rfl, a1, a2, h⟩ := walk_inv (by decide) (show walkL putS none t (110 :: s) (out, l) = _ from h)
    refine ⟨none_, a.N, l1, o1, nk, fit_ok (hi a (by simp)), by simp [none_], by simp [none_], ?_, h⟩
    have e1 := iN_big a1 rfl
    simp [itsR, ← e1]
theorem its_set {c d : Int} (hc : isT c) (hd : isT d) (hne : d ≠ c) (x y : Not) : its (setf x y c) d = its y d := by
  rcases hc with rfl | rfl | rfl | rfl | rfl | rfl | rfl | rfl | rfl | rfl <;> rcases hd with rfl | rfl | rfl | rfl | rfl | rfl | rfl | rfl | rfl | rfl <;> first | (exact absurd rfl hne) | simp [its, setf]
theorem its_own {c : Int} (hc : isT c) (x y : Not) : its (setf x y c) c = its x c := by
  rcases hc with rfl | rfl | rfl | rfl | rfl | rfl | rfl | rfl | rfl | rfl <;> simp [its, setf]
theorem setf_ok {x y : Not} (hx : x.ok) (hy : y.ok) (c : Int) : (setf x y c).ok := by
  unfold setf
  (repeat' split) <;> constructor <;> first | exact hy.K | exact hy.F | exact hy.T | exact hx.C | exact hy.C | exact hx.S | exact hy.S | exact hx.H | exact hy.H | exact hx.B | exact hy.B | exact hx.O | exact hy.O | exact hx.D | exact hy.D | exact hx.len | exact hy.len | exact hx.X | exact hy.X | exact hx.Xl | exact hy.Xl | exact hx.I | exact hy.I | exact hx.Il | exact hy.Il | exact hx.W | exact hy.W | exact hx.Wl | exact hy.Wl
theorem setf_few {x y : Not} (hx : x.I.length ≤ 4000 ∧ x.W.length ≤ 4000) (hy : y.I.length ≤ 4000 ∧ y.W.length ≤ 4000) (c : Int) : (setf x y c).I.length ≤ 4000 ∧ (setf x y c).W.length ≤ 4000 := by
  unfold setf
  (repeat' split) <;> first | exact hy | exact hx | exact ⟨hx.1, hy.2⟩ | exact ⟨hy.1, hx.2⟩
theorem setf_head (x y : Not) (c : Int) : (setf x y c).K = y.K ∧ (setf x y c).F = y.F ∧ (setf x y c).T = y.T := by
  unfold setf
  (repeat' split) <;> exact ⟨rfl, rfl, rfl⟩
theorem letters_inv (ls : List Int) : ∀ (hl : ∀ c ∈ ls, isT c) (hn : ls.Nodup) (t : Int) (out o : List Int) (l : List Itm) (hi : ∀ i ∈ l, i.ok) (h : walkL putS none t (ls.flatMap shp) (out, l) = ((o, []), 0)),
    ∃ (x : Not) (v : Int), x.ok ∧ fit v ∧ (x.I.length ≤ 4000 ∧ x.W.length ≤ 4000) ∧ l = ls.flatMap (itsR x v) := by
  induction ls with
  | nil =>
    intro _ _ t out o l _ h
    simp [walkL] at h
    exact ⟨none_, 0, none_ok, ⟨by omega, by omega⟩, ⟨by simp [none_], by simp [none_]⟩, by simp [h.2]⟩
  | cons c ls ih =>
    intro hl hn t out o l hi h
    rw [List.flatMap_cons] at h
    have hc := hl c (List.mem_cons_self ..)
    obtain ⟨x, v, l', o', hx, hv, hI, hW, rfl, h2⟩ := letter_inv hc hi h
    obtain ⟨hcn, hn⟩ := List.nodup_cons.1 hn
    obtain ⟨y, u, hy, hu, hyl, he⟩ := ih (fun d hd => hl d (List.mem_cons_of_mem _ hd)) hn 0 o' o l' (fun i h => hi i (List.mem_append_right _ h)) h2
    have ho : ∀ d ∈ ls, its (setf x y c) d = its y d := fun d hd => its_set hc (hl d (List.mem_cons_of_mem _ hd)) (by rintro rfl; exact hcn hd) x y
    by_cases h121 : c = 121
    · subst h121
      refine ⟨y, v, hy, hv, hyl, ?_⟩
      rw [List.flatMap_cons, he]
      congr 1
      refine flat_on _ _ _ fun d hd => ?_
      have : d ≠ 121 := by rintro rfl; exact hcn hd
      simp [itsR, this]
    · refine ⟨setf x y c, u, setf_ok hx hy c, hu, setf_few ⟨hI, hW⟩ hyl c, ?_⟩
      rw [List.flatMap_cons, he]
      congr 1
      · simp only [itsR, if_neg h121, its_own hc]
      · refine flat_on _ _ _ fun d hd => ?_
        unfold itsR
        rw [ho d hd]
theorem letters_nodup (k : Int) : (letters k).Nodup := letters_ind (p := fun l => l.Nodup) k (by simp) (by unfold all_; decide)
theorem its_head (x : Not) (k f t : Int) {c : Int} (hc : isT c) : its { x with K := k, F := f, T := t } c = its x c := by
  rcases hc with rfl | rfl | rfl | rfl | rfl | rfl | rfl | rfl | rfl | rfl <;> simp [its]
/-- What is read of a shape's bytes. -/
theorem get_items {k : Int} {b : List Int} {l : List Itm} {e : Nat} (hb : Bytes b) (h : Fld.get (shape k) b = (l, 0, e)) (hk : k < 128) {r : List Int} (hr : b = k :: r) : ∃ (x : Not) (v : Int), x.ok ∧ fit v ∧ (x.I.length ≤ 4000 ∧ x.W.length ≤ 4000) ∧
    x.K = k ∧ l = itemsR x v ∧ Fld.put (shape k) l = (b, 0) ∧ l.length ≤ b.length := by
  obtain ⟨hp, hi, _, hle⟩ := Fld.get_ok hb h
  obtain ⟨_, hw⟩ := Fld.put_fst hp
  unfold shape at hw
  have hcl : Fld.chkL (110 :: 110 :: ((letters k).flatMap shp)) false true = true := by
    have := Fld.chk_walk (shape_chk k)
    unfold shape at this
    rw [show (none : Option (List Int)).isSome = false from rfl, Fld.chkL, if_pos (by decide)] at this
    exact this
  have hka : ∃ a l1, l = a :: l1 ∧ okFor 110 a = true ∧ a.N = k := by
    rw [walkL] at hw
    split at hw
    · rename_i h0
      obtain ⟨⟨o', l'⟩, n, e⟩ : ∃ st n, putS 110 ([], l) = (st, n, 0) := ⟨_, _, Fld.pair_eta rfl (Fld.pair_eta rfl h0)⟩
      rw [e] at hw
      obtain ⟨a, rfl, a1, a2, rfl, rfl⟩ := Fld.putS_ok e
      try rw [if_neg (by decide : (110 : Int) ≠ 40)] at hw
      obtain ⟨xs, e2, _, g2, _⟩ := Fld.forth_walk _ none _ true (by intro cs hcs; simp at hcs) hcl _ _ _ _ (fun x hx => hi x (by simp [hx])) hw
      refine ⟨a, l', rfl, a1, ?_⟩
      have hb0 := Fld.bound_zero a2
      rw [hr] at g2
      simp only [List.nil_append] at g2
      have he : enc 110 a = Fld.num a.N.toNat := by simp [enc]
      rw [he] at g2
      by_cases hn : a.N.toNat < 128
      · rw [Fld.num_lt hn] at g2
        have := (List.cons.inj g2).1
        omega
      · rw [Fld.num_ge (by omega)] at g2
        have := (List.cons.inj g2).1
        omega
    · rename_i h0
      exact absurd (congrArg Prod.snd hw) h0
  obtain ⟨a, l1, rfl, a1, hak⟩ := hka
  obtain ⟨a', l1', o1, e0, _, a2, hw⟩ := walk_inv (by decide) hw
  obtain ⟨rfl, rfl⟩ := List.cons.inj e0
  clear e0
  obtain ⟨f, l2, o2, rfl, f1, f2, hw⟩ := walk_inv (by decide) hw
  obtain ⟨t, l3, o3, rfl, t1, t2, hw⟩ := walk_inv (by decide) hw
  obtain ⟨x, v, hx, hv, hxl, he⟩ := letters_inv (letters k) (letters_isT k) (letters_nodup k) 0 o3 b l3 (fun i h => hi i (by simp [h])) hw
  refine ⟨{ x with K := k, F := f.N, T := t.N }, v, ⟨?_, fit_ok (hi f (by simp)), fit_ok (hi t (by simp)), hx.C, hx.S, hx.H, hx.B, hx.O, hx.D, hx.len, hx.X, hx.Xl, hx.I, hx.Il, hx.W, hx.Wl⟩, hv, hxl, rfl, ?_, hp, hle⟩
  · show fit k
    rw [← hak]; exact fit_ok (hi a (by simp))
  · have e1 := iN_big a1 rfl
    have e2 := iN_big f1 rfl
    have e3 := iN_big t1 rfl
    unfold itemsR
    simp only [← e2, ← e3]
    rw [hak] at e1
    simp only [← e1]
    rw [he]
    congr 3
/-- The first byte is the kind. -/
theorem inner_first {x : Not} (h : 1 ≤ x.K ∧ x.K ≤ 19) : ∃ r, inner x = x.K :: r := by
  unfold inner
  have : n8 x.K = [x.K] := by unfold n8; rw [Fld.num_lt (by omega)]; simp; omega
  rw [this]
  exact ⟨_, rfl⟩
theorem noteR_ok {x : Not} (hx : x.ok) (v : Int) : (noteR x v).ok := by
  have hs : ∀ (ls : List Int) (y : Not), y.ok → (ls.foldl (setR x v) y).ok := by
    intro ls
    induction ls with
    | nil => intro y hy; exact hy
    | cons c ls ih =>
      intro y hy
      refine ih _ ?_
      unfold setR
      split
      · exact ⟨hy.K, hy.F, hy.T, hy.C, hy.S, hy.H, hy.B, hy.O, hy.D, hy.len, hy.X, hy.Xl, hy.I, hy.Il, hy.W, hy.Wl⟩
      · exact setf_ok hx hy c
  have nk := none_ok
  exact hs _ _ ⟨hx.K, hx.F, hx.T, nk.C, nk.S, nk.H, nk.B, nk.O, nk.D, nk.len, nk.X, nk.Xl, nk.I, nk.Il, nk.W, nk.Wl⟩
/-! ### Get, by cases -/
theorem get_yes {b l0 : List Int} {k : Int} {r : List Int} {x : Not} {v : Int} (hb : Bytes b) (hs : Frm.split b = ([l0], b.length)) (hk : 1 ≤ k ∧ k ≤ 19) (hl : l0 = k :: r) (hx : x.ok) (hK : x.K = k) (hp : Fld.put (shape k) (itemsR x v) = (l0, 0)) (hm : mayR x v) : get b = (noteR x v, 0) := by
  subst hK
  obtain ⟨h1, _, h3⟩ := Frm.split_sound _ b (Nat.le_refl _) hb
  rw [hs] at h1 h3
  have hrec : Frm.Rec l0 := (h1 l0 (by simp)).1
  have he : Frm.fr l0 = b := by simpa [Frm.frs, List.take_of_length_le] using h3
  have hc := may_can hk hm
  have hi := items_note hk hm
  have hX : (noteR x v).X.length ≤ 4000 := by
    by_cases h : 4000 < (noteR x v).X.length
    · have := put_long hc h
      rw [noteR_K, hi, hp] at this
      simp at this
    · omega
  have hin : inner (noteR x v) = l0 := by
    have := put_items (hc.fits hX)
    rw [noteR_K, hi, hp] at this
    exact (Prod.mk.inj this).1.symm
  have hck : check (noteR x v) = 0 := check_of hc (by rw [hin]; exact hrec.most)
  exact get_of (noteR_ok hx v) (by rw [put_ok hck, hin, he])
/-- What a note's bytes come to. -/
theorem put_comes {z : Not} {b : List Int} (hz : z.ok) (h : put z = (b, 0)) : Frm.split b = ([inner z], b.length) ∧ (1 ≤ z.K ∧ z.K ≤ 19) ∧ (∃ r, inner z = z.K :: r) ∧ Fld.get (shape z.K) (inner z) = (itemsR z (yes z.Y), 0, 0) ∧ mayR z (yes z.Y) := by
  obtain ⟨hc, rfl⟩ := put_zero h
  have hcan := (check_zero hc).1
  refine ⟨split_put hc, hcan.1, inner_first hcan.1, ?_, (can_may hcan).1⟩
  rw [itemsR_yes]
  exact (of_put hz hc).1
theorem get_split {b : List Int} (h : ∀ l0, Frm.split b ≠ ([l0], b.length)) : get b = (none_, 10) :=
  get_no fun z hz e => h _ (put_comes hz e).1
theorem get_kind {b l0 : List Int} (hs : Frm.split b = ([l0], b.length)) (h : ∀ k r, l0 = k :: r → ¬ (1 ≤ k ∧ k ≤ 19)) : get b = (none_, 10) :=
  get_no fun z hz e => by
    obtain ⟨h1, h2, ⟨r, h3⟩, _⟩ := put_comes hz e
    rw [hs] at h1
    have : l0 = inner z := by simpa using (Prod.mk.inj h1).1
    exact h z.K r (this.trans h3) h2
theorem get_field {b l0 : List Int} {k : Int} {r : List Int} (hs : Frm.split b = ([l0], b.length)) (hl : l0 = k :: r) (h : (Fld.get (shape k) l0).2.1 ≠ 0) : get b = (none_, 10) :=
  get_no fun z hz e => by
    obtain ⟨h1, _, ⟨r', h3⟩, h4, _⟩ := put_comes hz e
    rw [hs] at h1
    have h5 : l0 = inner z := by simpa using (Prod.mk.inj h1).1
    have h6 : k = z.K := by rw [← h5, hl] at h3; exact (List.cons.inj h3).1
    rw [← h5, ← h6] at h4
    rw [h4] at h
    exact h rfl
theorem its_inj {x z : Not} {v u : Int} {c : Int} (hc : isT c) {l l' : List Itm} (h : itsR x v c ++ l = itsR z u c ++ l') : (okR z u c → okR x v c) ∧ l = l' := by
  rcases hc with rfl | rfl | rfl | rfl | rfl | rfl | rfl | rfl | rfl | rfl
  · simp [itsR, its, iN] at h
    obtain ⟨e1, e2, e3, e⟩ := h
    exact ⟨by simp [okR, Call, e1, e2, e3], e⟩
  · simp [itsR, its, iN] at h
    obtain ⟨e1, e2, e⟩ := h
    exact ⟨by simp [okR, e1, e2], e⟩
  · simp [itsR, its, iN] at h
    obtain ⟨e1, e2, e⟩ := h
    exact ⟨by simp [okR, e1, e2], e⟩
  · simp [itsR, its, iD] at h
    exact ⟨by simp [okR], h.2⟩
  · simp [itsR, its, iB] at h
    exact ⟨by simp [okR], h.2⟩
  · simp only [itsR, its] at h
    simp at h
    obtain ⟨e, h⟩ := h
    have e : x.I.length = z.I.length := by simp [iN] at e; omega
    have h1 := ids_of x.I l
    have h2 := ids_of z.I l'
    rw [show (x.I.flatMap fun d => [iD d]) ++ l = (z.I.flatMap fun d => [iD d]) ++ l' from by simpa using h, e] at h1
    exact ⟨by simp [okR, e], h1.2.symm.trans h2.2⟩
  · simp only [itsR, its] at h
    simp at h
    obtain ⟨e, h⟩ := h
    have e : x.W.length = z.W.length := by simp [iN] at e; omega
    have h1 := words_of x.W l
    have h2 := words_of z.W l'
    rw [h, e] at h1
    have e3 : x.W = z.W := h1.1.symm.trans h2.1
    exact ⟨by simp [okR, e3], h1.2.symm.trans h2.2⟩
  · simp [itsR, its, iN] at h
    exact ⟨by simp [okR, h.1], h.2⟩
  · simp [itsR, its, iN] at h
    exact ⟨by simp [okR, h.1], h.2⟩
  · simp [itsR, its, iN] at h
    exact ⟨by simp [okR, h.1], h.2⟩
theorem all_inj {x z : Not} {v u : Int} (ls : List Int) : ∀ (hl : ∀ c ∈ ls, isT c) (h : ls.flatMap (itsR x v) = ls.flatMap (itsR z u)) (hz : ∀ c ∈ ls, okR z u c), ∀ c ∈ ls, okR x v c := by
  induction ls with
  | nil => intro _ _ _ c hc; simp at hc
  | cons d ls ih =>
    intro hl h hz c hc
    rw [List.flatMap_cons, List.flatMap_cons] at h
    obtain ⟨h1, h2⟩ := its_inj (hl d (List.mem_cons_self ..)) h
    rcases List.mem_cons.1 hc with rfl | hc
    · exact h1 (hz _ (List.mem_cons_self ..))
    · exact ih (fun c hc => hl c (List.mem_cons_of_mem _ hc)) h2 (fun c hc => hz c (List.mem_cons_of_mem _ hc)) c hc
theorem fld_itsR {c : Int} (hc : isT c) (x : Not) (v : Int) (y : Not) (l : List Itm) : fld c (y, itsR x v c ++ l) = (setR x v y c, l) := by
  by_cases h : c = 121
  · subst h
    simp [fld, itsR, setR, nN, iN]
  · simp only [itsR, setR, if_neg h]
    exact fld_its hc x y l
theorem fold_itsR (x : Not) (v : Int) (ls : List Int) : ∀ (hl : ∀ c ∈ ls, isT c) (y : Not) (l : List Itm), ls.foldl (fun st c => fld c st) (y, ls.flatMap (itsR x v) ++ l) = (ls.foldl (setR x v) y, l) := by
  induction ls with
  | nil => intro _ y l; rfl
  | cons c ls ih =>
    intro hl y l
    rw [List.flatMap_cons, List.append_assoc, List.foldl_cons, fld_itsR (hl c (List.mem_cons_self ..)), ih (fun c hc => hl c (List.mem_cons_of_mem _ hc)), List.foldl_cons]
theorem noteR_of (x : Not) (v : Int) : noteR x v = of (itemsR x v) := by
  have h0 : nN (itemsR x v) 0 = x.K := rfl
  have h1 : nN (itemsR x v) 1 = x.F := rfl
  have h2 : nN (itemsR x v) 2 = x.T := rfl
  have h3 : (itemsR x v).drop 3 = (letters x.K).flatMap (itsR x v) ++ [] := by simp [itemsR]
  unfold of
  rw [h0, h1, h2, h3, fold_itsR x v _ (letters_isT _)]
  rfl
theorem itemsR_may {x z : Not} {v u : Int} (h : itemsR x v = itemsR z u) (hz : mayR z u) : mayR x v := by
  have hn : noteR x v = noteR z u := by rw [noteR_of, noteR_of, h]
  unfold itemsR at h
  obtain ⟨e1, h⟩ := List.cons.inj h
  obtain ⟨e2, h⟩ := List.cons.inj h
  obtain ⟨e3, h⟩ := List.cons.inj h
  have e1 : x.K = z.K := congrArg Itm.N e1
  have e2 : x.F = z.F := congrArg Itm.N e2
  have e3 : x.T = z.T := congrArg Itm.N e3
  rw [e1] at h
  obtain ⟨h1, h2, h3⟩ := hz
  refine ⟨?_, ?_, by rw [hn]; exact h3⟩
  · unfold headR at *
    rw [e2, e3]; exact h1
  · rw [e1]
    exact all_inj _ (letters_isT _) h h2
theorem get_may {b l0 : List Int} {k : Int} {r : List Int} {x : Not} {v : Int} (hs : Frm.split b = ([l0], b.length)) (hl : l0 = k :: r) (hg : Fld.get (shape k) l0 = (itemsR x v, 0, 0)) (h : ¬ mayR x v) : get b = (none_, 10) :=
  get_no fun z hz e => by
    obtain ⟨h1, _, ⟨r', h3⟩, h4, h7⟩ := put_comes hz e
    rw [hs] at h1
    have h5 : l0 = inner z := by simpa using (Prod.mk.inj h1).1
    have h6 : k = z.K := by rw [← h5, hl] at h3; exact (List.cons.inj h3).1
    rw [← h5, ← h6, hg] at h4
    exact h (itemsR_may (Prod.mk.inj h4).1 h7)
/-- What body comes to: 0 and the bytes within, or an error. -/
theorem body_few {x : Not} (h : 64 < x.I.length ∨ 64 < x.W.length ∨ ¬ (1 ≤ x.K ∧ x.K ≤ 19)) : check x = 2 := by
  refine check_no fun hc => ?_
  obtain ⟨hk, _, _, _, _, _, _, _, _, hi, _, hw, _⟩ := hc
  rcases h with h | h | h
  · omega
  · omega
  · exact h hk
theorem body_not {x : Not} (h : ¬ (mayR x (yes x.Y) ∧ noteR x (yes x.Y) = x)) : check x = 2 := check_no fun hc => h (can_may hc)
theorem body_can {x : Not} (hk : 1 ≤ x.K ∧ x.K ≤ 19) (h : mayR x (yes x.Y)) (he : noteR x (yes x.Y) = x) : Can x := by
  have := may_can hk h
  rwa [he] at this
theorem body_long {x : Not} (h : Can x) (hX : 4000 < x.X.length) : check x = 3 ∧ Fld.put (shape x.K) (items x) = ([], 3) := ⟨check_long h (by have := inner_data h; omega), put_long h hX⟩
theorem body_put {x : Not} (h : Can x) (hX : x.X.length ≤ 4000) : Fld.put (shape x.K) (items x) = (inner x, 0) := put_items (h.fits hX)
end Nte
end
end Go.Proofs.Yteepaoklibflpaa
