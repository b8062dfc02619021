/-
  Plain mathematics of notes: which may be, their bytes, and back; no note's bytes begin with another one's. No program is named here.
-/
import Derived.Test.YteepaoklibflpaaR2
import Derived.Test.YteepaoklibflpaaR5
namespace Go.Proofs.Yteepaoklibflpaa
section
set_option linter.unusedSimpArgs false
set_option linter.unusedVariables false
namespace Nte
open Fld (Itm zero32)
/-- A note: kind, from, to; call, set, home; ballot, other; yes; id, bytes, ids, words. -/
structure Not where
  K : Int
  F : Int
  T : Int
  C1 : Int
  C2 : Int
  C3 : Int
  S : Int
  H : Int
  B1 : Int
  B2 : Int
  O1 : Int
  O2 : Int
  Y : Bool
  D : List Int
  X : List Int
  I : List (List Int)
  W : List Mb
deriving DecidableEq
def none_ : Not := ⟨0, 0, 0, 0, 0, 0, 0, 0, 0, 0, 0, 0, false, zero32, [], [], []⟩
/-- A number's, an id's, bytes' item. -/
def iN (n : Int) : Itm := ⟨n, [], zero32⟩
def iD (d : List Int) : Itm := ⟨0, [], d⟩
def iB (b : List Int) : Itm := ⟨0, b, zero32⟩
def n8 (n : Int) : List Int := Fld.num n.toNat
def w3 (m : Mb) : List Itm := [iN m.I, iN m.S, iN m.N]
def wb (m : Mb) : List Int := n8 m.I ++ n8 m.S ++ n8 m.N
/-- What a kind has, by letters. -/
def letters (k : Int) : List Int :=
  if k = 1 then [99, 119] else if k = 2 then [99, 119] else if k = 3 then [99, 104, 119] else if k = 4 then [119] else if k = 5 then [99, 115, 100, 104, 120] else
  if k = 6 then [99, 115, 100, 104, 121] else if k = 7 then [99, 100] else if k = 8 then [99, 100, 121, 120] else if k = 9 then [99, 115, 98] else if k = 10 then [99, 115, 98, 111, 121, 120] else
  if k = 11 then [99, 115, 98, 120] else if k = 12 then [99, 115, 98, 111, 121] else if k = 13 then [115, 120] else if k = 14 then [99, 115] else if k = 15 then [99, 115, 121, 120] else
  if k = 16 then [99, 115, 100, 120] else if k = 17 then [99, 115, 100] else if k = 18 then [115, 105] else if k = 19 then [115, 105] else []
def all_ : List (List Int) := [[99, 119], [99, 104, 119], [119], [99, 115, 100, 104, 120], [99, 115, 100, 104, 121], [99, 100], [99, 100, 121, 120], [99, 115, 98], [99, 115, 98, 111, 121, 120], [99, 115, 98, 120], [99, 115, 98, 111, 121], [115, 120], [99, 115], [99, 115, 121, 120], [99, 115, 100, 120], [99, 115, 100], [115, 105]]
theorem letters_ind {p : List Int → Prop} (k : Int) (h0 : p []) (h : ∀ l ∈ all_, p l) : p (letters k) := by
  obtain ⟨l, hl⟩ : ∃ l, l = letters k := ⟨_, rfl⟩
  rw [← hl]
  unfold letters at hl
  by_cases hk : 1 ≤ k ∧ k ≤ 19
  · have : k = 1 ∨ k = 2 ∨ k = 3 ∨ k = 4 ∨ k = 5 ∨ k = 6 ∨ k = 7 ∨ k = 8 ∨ k = 9 ∨ k = 10 ∨ k = 11 ∨ k = 12 ∨ k = 13 ∨ k = 14 ∨ k = 15 ∨ k = 16 ∨ k = 17 ∨ k = 18 ∨ k = 19 := by omega
    rcases this with rfl | rfl | rfl | rfl | rfl | rfl | rfl | rfl | rfl | rfl | rfl | rfl | rfl | rfl | rfl | rfl | rfl | rfl | rfl <;> (simp at hl; subst hl; exact h _ (by simp [all_]))
  · rw [if_neg (by omega), if_neg (by omega), if_neg (by omega), if_neg (by omega), if_neg (by omega), if_neg (by omega), if_neg (by omega), if_neg (by omega), if_neg (by omega), if_neg (by omega), if_neg (by omega), if_neg (by omega), if_neg (by omega), if_neg (by omega), if_neg (by omega), if_neg (by omega), if_neg (by omega), if_neg (by omega), if_neg (by omega)] at hl
    subst hl; exact h0
def shp (c : Int) : List Int :=
  if c = 99 then [110, 110, 110] else if c = 98 ∨ c = 111 then [110, 110] else if c = 100 then [100] else if c = 120 then [98] else if c = 105 then [40, 100, 41] else if c = 119 then [40, 110, 110, 110, 41] else [110]
def shape (k : Int) : List Int := 110 :: 110 :: 110 :: (letters k).flatMap shp
def yes (y : Bool) : Int := if y = true then 1 else 0
def its (x : Not) (c : Int) : List Itm :=
  if c = 99 then [iN x.C1, iN x.C2, iN x.C3] else if c = 98 then [iN x.B1, iN x.B2] else if c = 111 then [iN x.O1, iN x.O2] else if c = 100 then [iD x.D] else if c = 120 then [iB x.X] else
  if c = 105 then iN x.I.length :: x.I.flatMap (fun d => [iD d]) else if c = 119 then iN x.W.length :: x.W.flatMap w3 else if c = 115 then [iN x.S] else if c = 104 then [iN x.H] else [iN (yes x.Y)]
def items (x : Not) : List Itm := iN x.K :: iN x.F :: iN x.T :: (letters x.K).flatMap (its x)
def enb (x : Not) (c : Int) : List Int :=
  if c = 99 then n8 x.C1 ++ n8 x.C2 ++ n8 x.C3 else if c = 98 then n8 x.B1 ++ n8 x.B2 else if c = 111 then n8 x.O1 ++ n8 x.O2 else if c = 100 then x.D else if c = 120 then n8 x.X.length ++ x.X else
  if c = 105 then n8 x.I.length ++ x.I.flatMap (fun d => d) else if c = 119 then n8 x.W.length ++ x.W.flatMap wb else if c = 115 then n8 x.S else if c = 104 then n8 x.H else n8 (yes x.Y)
/-- The bytes within a note's frame. -/
def inner (x : Not) : List Int := n8 x.K ++ (n8 x.F ++ (n8 x.T ++ (letters x.K).flatMap (enb x)))

/-! ### Walking a shape -/
def big (n : Int) : Prop := 0 ≤ n ∧ n ≤ 4611686018427387903
def bigW (m : Mb) : Prop := big m.I ∧ big m.S ∧ big m.N
structure Fits (x : Not) : Prop where
  K : big x.K
  F : big x.F
  T : big x.T
  C : big x.C1 ∧ big x.C2 ∧ big x.C3
  S : big x.S
  H : big x.H
  B : big x.B1 ∧ big x.B2
  O : big x.O1 ∧ big x.O2
  X : x.X.length ≤ 4000
  I : x.I.length ≤ 4000
  W : x.W.length ≤ 4000
  w : ∀ m ∈ x.W, bigW m
open Fld (putS walkL rep once okFor bound enc)
theorem put_one {c : Int} {out : List Int} {x : Itm} {l : List Itm} (h1 : okFor c x = true) (h2 : bound c x = 0) : putS c (out, x :: l) = ((out ++ enc c x, l), x.N, 0) := by simp [putS, h1, h2]
theorem put_n {n : Int} (h : big n) (out : List Int) (l : List Itm) : putS 110 (out, iN n :: l) = ((out ++ n8 n, l), n, 0) := by
  rw [put_one (by simp [okFor, iN]) (Fld.bound_of (by simpa [iN] using h.1) (by simpa [iN] using h.2) (by simp [iN]) (by omega))]
  simp [enc, iN, n8]
theorem put_c {n : Int} (h0 : 0 ≤ n) (h1 : n ≤ 4000) (out : List Int) (l : List Itm) : putS 40 (out, iN n :: l) = ((out ++ n8 n, l), n, 0) := by
  rw [put_one (by simp [okFor, iN]) (Fld.bound_of (by simpa [iN] using h0) (by simp only [iN]; omega) (by simp [iN]) (by intro _; simpa [iN] using h1))]
  simp [enc, iN, n8]
theorem put_b {b : List Int} (h : b.length ≤ 4000) (out : List Int) (l : List Itm) : putS 98 (out, iB b :: l) = ((out ++ (n8 b.length ++ b), l), 0, 0) := by
  rw [put_one (by simp [okFor, iB]) (Fld.bound_of (by simp [iB]) (by simp [iB]) (by simpa [iB] using h) (by omega))]
  simp [enc, iB, n8]
theorem put_d (d : List Int) (out : List Int) (l : List Itm) : putS 100 (out, iD d :: l) = ((out ++ d, l), 0, 0) := by
  rw [put_one (by simp [okFor, iD]) (Fld.bound_of (by simp [iD]) (by simp [iD]) (by simp [iD]) (by omega))]
  simp [enc, iD]
theorem walk_t {σ : Type} (f : Int → σ → σ × Int × Int) (t t' : Int) (s : List Int) (st : σ) : walkL f none t s st = walkL f none t' s st := by
  cases s <;> rfl
theorem walk_step {σ : Type} {f : Int → σ → σ × Int × Int} {t : Int} {c : Int} {r : List Int} {st st' : σ} {n : Int} (h : f c st = (st', n, 0)) (hc : c ≠ 40) : walkL f none t (c :: r) st = walkL f none 0 r st' := by
  rw [walkL, h]
  simp only [if_true, if_neg hc]
  exact walk_t f _ _ _ _
theorem rep_of {α : Type} (g : List Int) (f : α → List Itm) (e : α → List Int) (L : List α) (h : ∀ m ∈ L, ∀ out l, once putS g (out, f m ++ l) = ((out ++ e m, l), 0)) : ∀ out l, rep putS g L.length (out, L.flatMap f ++ l) = ((out ++ L.flatMap e, l), 0) := by
  induction L with
  | nil => intro out l; simp [rep]
  | cons m L ih =>
    intro out l
    rw [List.length_cons, rep, List.flatMap_cons, List.append_assoc, h m (List.mem_cons_self ..)]
    simp only [if_true]
    rw [ih (fun m hm => h m (List.mem_cons_of_mem _ hm)), List.flatMap_cons, List.append_assoc]
theorem once_step {c : Int} {g : List Int} {st st' : List Int × List Itm} {n : Int} (h : putS c st = (st', n, 0)) : once putS (c :: g) st = once putS g st' := by
  rw [once, h]; simp
theorem once_d (d : List Int) (out : List Int) (l : List Itm) : once putS [100] (out, [iD d] ++ l) = ((out ++ d, l), 0) := by
  rw [List.singleton_append, once_step (put_d d out l)]; rfl
theorem once_w {m : Mb} (h : bigW m) (out : List Int) (l : List Itm) : once putS [110, 110, 110] (out, w3 m ++ l) = ((out ++ wb m, l), 0) := by
  unfold w3
  simp only [List.cons_append, List.nil_append]
  rw [once_step (put_n h.1 _ _), once_step (put_n h.2.1 _ _), once_step (put_n h.2.2 _ _)]
  simp [once, wb]
theorem walk_group {α : Type} (g : List Int) (hg : ∀ c ∈ g, c ≠ 41) (f : α → List Itm) (e : α → List Int) (L : List α) (hL : L.length ≤ 4000) (h : ∀ m ∈ L, ∀ out l, once putS g (out, f m ++ l) = ((out ++ e m, l), 0)) (s : List Int) (t : Int) (out : List Int) (l : List Itm) :
    walkL putS none t (40 :: (g ++ 41 :: s)) (out, iN L.length :: (L.flatMap f ++ l)) = walkL putS none 0 s (out ++ (n8 L.length ++ L.flatMap e), l) := by
  have hin : ∀ (g' acc : List Int) (t : Int) (st : List Int × List Itm), (∀ c ∈ g', c ≠ 41) → walkL putS (some acc) t (g' ++ 41 :: s) st = walkL putS (some (acc ++ g')) t (41 :: s) st := by
    intro g'
    induction g' with
    | nil => intro acc t st _; simp
    | cons c g' ih =>
      intro acc t st hc
      rw [List.cons_append, walkL, if_neg (hc c (List.mem_cons_self ..)), ih _ _ _ (fun c h => hc c (List.mem_cons_of_mem _ h))]
      simp
  rw [walkL, put_c (by omega) (by omega)]
  simp only [if_true]
  rw [hin g [] _ _ hg, List.nil_append, walkL]
  simp only [if_true]
  rw [show ((L.length : Nat) : Int).toNat = L.length by omega, rep_of g f e L h]
  simp only [if_true]
  rw [walk_t _ _ 0, List.append_assoc]
/-- The letters that there are. -/
def isT (c : Int) : Prop := c = 99 ∨ c = 98 ∨ c = 111 ∨ c = 100 ∨ c = 120 ∨ c = 105 ∨ c = 119 ∨ c = 115 ∨ c = 104 ∨ c = 121
theorem letters_isT (k : Int) : ∀ c ∈ letters k, isT c := by
  refine letters_ind (p := fun l => ∀ c ∈ l, isT c) k (by simp) ?_
  unfold all_ isT
  decide
theorem big_nat {n : Nat} (h : n ≤ 4000) : big (n : Int) := ⟨by omega, by omega⟩
theorem big_yes (y : Bool) : big (yes y) := by unfold yes big; split <;> omega
theorem walk_letter {x : Not} (h : Fits x) {c : Int} (hc : isT c) (s : List Int) (t : Int) (out : List Int) (l : List Itm) :
    walkL putS none t (shp c ++ s) (out, its x c ++ l) = walkL putS none 0 s (out ++ enb x c, l) := by
  rcases hc with rfl | rfl | rfl | rfl | rfl | rfl | rfl | rfl | rfl | rfl
  · simp only [shp, its, enb, if_true, List.cons_append, List.nil_append]
    rw [walk_step (put_n h.C.1 _ _) (by decide), walk_step (put_n h.C.2.1 _ _) (by decide), walk_step (put_n h.C.2.2 _ _) (by decide)]
    simp
  · simp [shp, its, enb]
    rw [walk_step (put_n h.B.1 _ _) (by decide), walk_step (put_n h.B.2 _ _) (by decide)]
    simp
  · simp [shp, its, enb]
    rw [walk_step (put_n h.O.1 _ _) (by decide), walk_step (put_n h.O.2 _ _) (by decide)]
    simp
  · simp [shp, its, enb]
    rw [walk_step (put_d _ _ _) (by decide)]
  · simp [shp, its, enb]
    rw [walk_step (put_b h.X _ _) (by decide)]
  · have := walk_group [100] (by simp) (fun d => [iD d]) (fun d => d) x.I h.I (fun d _ out l => once_d d out l) s t out l
    simpa [shp, its, enb] using this
  · have := walk_group [110, 110, 110] (by simp) w3 wb x.W h.W (fun m hm out l => once_w (h.w m hm) out l) s t out l
    simpa [shp, its, enb] using this
  · simp [shp, its, enb]
    rw [walk_step (put_n h.S _ _) (by decide)]
  · simp [shp, its, enb]
    rw [walk_step (put_n h.H _ _) (by decide)]
  · simp [shp, its, enb]
    rw [walk_step (put_n (big_yes _) _ _) (by decide)]
theorem walk_letters {x : Not} (h : Fits x) (ls : List Int) : ∀ (hl : ∀ c ∈ ls, isT c) (t : Int) (out : List Int) (l : List Itm),
    walkL putS none t (ls.flatMap shp) (out, ls.flatMap (its x) ++ l) = ((out ++ ls.flatMap (enb x), l), 0) := by
  induction ls with
  | nil => intro _ t out l; simp [walkL]
  | cons c ls ih =>
    intro hl t out l
    rw [List.flatMap_cons, List.flatMap_cons, List.append_assoc, walk_letter h (hl c (List.mem_cons_self ..)), ih (fun c hc => hl c (List.mem_cons_of_mem _ hc)), List.flatMap_cons, List.append_assoc]
theorem shape_chk (k : Int) : Fld.chk (shape k) = true := by
  unfold shape
  refine letters_ind (p := fun l => Fld.chk (110 :: 110 :: 110 :: l.flatMap shp) = true) k (by decide) ?_
  unfold all_
  decide
/-- A note's items, written, are the bytes within its frame. -/
theorem put_items {x : Not} (h : Fits x) : Fld.put (shape x.K) (items x) = (inner x, 0) := by
  have hw : walkL putS none 0 (shape x.K) ([], items x) = ((inner x, []), 0) := by
    unfold shape items inner
    rw [walk_step (put_n h.K _ _) (by decide), walk_step (put_n h.F _ _) (by decide), walk_step (put_n h.T _ _) (by decide)]
    have := walk_letters h (letters x.K) (letters_isT _) 0 ([] ++ n8 x.K ++ n8 x.F ++ n8 x.T) []
    rw [List.append_nil] at this
    rw [this]
    simp
  unfold Fld.put
  rw [if_pos (shape_chk _), hw]
  simp
end Nte
end
end Go.Proofs.Yteepaoklibflpaa
