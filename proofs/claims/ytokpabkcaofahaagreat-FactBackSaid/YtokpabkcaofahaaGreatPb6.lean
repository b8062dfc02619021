/-
  Plain mathematics: lists that rise by a key, each key once: adding, replacing, looking up. No program is named here.
  Plain mathematics of states: what facts do to them, what holds of all that facts come to. No program is named here.
  Plain mathematics of states: the facts that a state tells come to it, and are few; what never falls back; what is done twice. No program is named here.
-/
import Derived.WalkKit
import Derived.Test.YtokpabkcaofahaaGreatPb5
namespace Go.Proofs.YtokpabkcaofahaaGreat
section
set_option linter.unusedSimpArgs false
set_option linter.unusedVariables false
set_option linter.unusedSectionVars false
namespace Rise
/-- An order of keys; total among good ones. -/
structure Ord {κ : Type} (lt : κ → κ → Bool) (G : κ → Prop) : Prop where
  irrefl : ∀ a, lt a a = false
  asymm : ∀ a b, lt a b = true → lt b a = false
  trans : ∀ a b c, lt a b = true → lt b c = true → lt a c = true
  total : ∀ a b, G a → G b → a ≠ b → lt a b = true ∨ lt b a = true
theorem int_ord (G : Int → Prop) : Ord (fun a b : Int => decide (a < b)) G := by
  constructor
  · intro a; simp
  · intro a b h; simp at h ⊢; omega
  · intro a b c h1 h2; simp at h1 h2 ⊢; omega
  · intro a b _ _ h; simp; omega
/-- First by one key, then by another. -/
def lex {κ μ : Type} [DecidableEq κ] (lt : κ → κ → Bool) (lt2 : μ → μ → Bool) (a b : κ × μ) : Bool := lt a.1 b.1 || (decide (a.1 = b.1) && lt2 a.2 b.2)
theorem lex_ord {κ μ : Type} [DecidableEq κ] {lt : κ → κ → Bool} {lt2 : μ → μ → Bool} {G : κ → Prop} {G2 : μ → Prop} (h : Ord lt G) (h2 : Ord lt2 G2) : Ord (lex lt lt2) (fun x => G x.1 ∧ G2 x.2) := by
  constructor
  · intro a; simp [lex, h.irrefl, h2.irrefl]
  · rintro ⟨a, a2⟩ ⟨b, b2⟩ e
    simp only [lex, Bool.or_eq_true, Bool.and_eq_true, decide_eq_true_eq] at e
    rcases e with e | ⟨rfl, e⟩
    · have hne : ¬ b = a := by rintro rfl; rw [h.irrefl] at e; cases e
      simp [lex, h.asymm _ _ e, hne]
    · simp [lex, h.irrefl, h2.asymm _ _ e]
  · rintro ⟨a, a2⟩ ⟨b, b2⟩ ⟨c, c2⟩ e f
    simp only [lex, Bool.or_eq_true, Bool.and_eq_true, decide_eq_true_eq] at e f ⊢
    rcases e with e | ⟨rfl, e⟩
    · rcases f with f | ⟨rfl, f⟩
      · exact Or.inl (h.trans _ _ _ e f)
      · exact Or.inl e
    · rcases f with f | ⟨rfl, f⟩
      · exact Or.inl f
      · exact Or.inr ⟨rfl, h2.trans _ _ _ e f⟩
  · rintro ⟨a, a2⟩ ⟨b, b2⟩ ⟨ga, ga2⟩ ⟨gb, gb2⟩ hne
    simp only [lex, Bool.or_eq_true, Bool.and_eq_true, decide_eq_true_eq]
    by_cases e : a = b
    · subst e
      rcases h2.total a2 b2 ga2 gb2 (fun e => hne (by rw [e])) with e | e
      · exact Or.inl (Or.inr ⟨rfl, e⟩)
      · exact Or.inr (Or.inr ⟨rfl, e⟩)
    · rcases h.total a b ga gb e with e | e
      · exact Or.inl (Or.inl e)
      · exact Or.inr (Or.inl e)
section
variable {α κ : Type} [DecidableEq κ] (key : α → κ) (lt : κ → κ → Bool)
/-- What lies ahead of a key, and from it on. -/
def pre (k : κ) (l : List α) : List α := l.takeWhile fun y => lt (key y) k
def post (k : κ) (l : List α) : List α := l.dropWhile fun y => lt (key y) k
theorem pre_post (k : κ) (l : List α) : pre key lt k l ++ post key lt k l = l := List.takeWhile_append_dropWhile
/-- Is the key there? Then its thing is told. -/
def look (k : κ) (l : List α) : Option α := match post key lt k l with
  | y :: _ => if key y = k then some y else none
  | [] => none
/-- A thing is added, if its key is not there. -/
def add (x : α) (l : List α) : List α := match look key lt (key x) l with
  | some _ => l
  | none => pre key lt (key x) l ++ x :: post key lt (key x) l
/-- A thing is laid, in place of what its key has. -/
def upd (x : α) (l : List α) : List α := match look key lt (key x) l with
  | some _ => pre key lt (key x) l ++ x :: (post key lt (key x) l).tail
  | none => pre key lt (key x) l ++ x :: post key lt (key x) l
def Up (l : List α) : Prop := l.Pairwise fun a b => lt (key a) (key b) = true
variable {key lt} {G : κ → Prop} (O : Ord lt G)
theorem pre_lt {k : κ} {l : List α} : ∀ y ∈ pre key lt k l, lt (key y) k = true := by
  intro y hy
  unfold pre at hy
  induction l with
  | nil => simp at hy
  | cons a l ih =>
    rw [List.takeWhile_cons] at hy
    split at hy
    · rcases List.mem_cons.1 hy with rfl | hy
      · assumption
      · exact ih hy
    · simp at hy
theorem post_head {k : κ} {l : List α} {y : α} {r : List α} (h : post key lt k l = y :: r) : lt (key y) k = false := by
  unfold post at h
  have := List.head?_dropWhile_not (fun y => lt (key y) k) l
  rw [h] at this
  simpa using this
theorem look_some {k : κ} {l : List α} {y : α} (h : look key lt k l = some y) : ∃ r, post key lt k l = y :: r ∧ key y = k := by
  unfold look at h
  split at h
  · rename_i z r e
    split at h
    · injection h with h; subst h; exact ⟨r, e, by assumption⟩
    · cases h
  · cases h
theorem look_mem {k : κ} {l : List α} {y : α} (h : look key lt k l = some y) : y ∈ l ∧ key y = k := by
  obtain ⟨r, e, hk⟩ := look_some h
  refine ⟨?_, hk⟩
  rw [← pre_post key lt k l, e]; simp
theorem Up.post_lt {k : κ} {l : List α} (h : Up key lt l) {y : α} {r : List α} (e : post key lt k l = y :: r) : ∀ z ∈ r, lt (key y) (key z) = true := by
  unfold Up at h
  rw [← pre_post key lt k l, e] at h
  exact (List.pairwise_cons.1 (List.pairwise_append.1 h).2.1).1
include O in
/-- In a list that rises a key is found, if it is there. -/
theorem Up.look_of {l : List α} (h : Up key lt l) {y : α} (hy : y ∈ l) : look key lt (key y) l = some y := by
  have h0 := h
  rw [← pre_post key lt (key y) l] at hy
  rcases List.mem_append.1 hy with hy | hy
  · have := pre_lt y hy; rw [O.irrefl] at this; cases this
  · cases e : post key lt (key y) l with
    | nil => rw [e] at hy; simp at hy
    | cons z r =>
      rw [e] at hy
      rcases List.mem_cons.1 hy with rfl | hy
      · unfold look; rw [e]; simp
      · have h1 := h0.post_lt e y hy
        rw [post_head e] at h1; cases h1
include O in
theorem Up.look_none {l : List α} {k : κ} (h : Up key lt l) (hn : look key lt k l = none) : ∀ y ∈ l, key y ≠ k := by
  rintro y hy rfl
  rw [h.look_of O hy] at hn; cases hn
include O in
theorem post_gt {k : κ} {l : List α} (h : Up key lt l) (hG : ∀ y ∈ l, G (key y)) (hk : G k) (hn : look key lt k l = none) : ∀ z ∈ post key lt k l, lt k (key z) = true := by
  intro z hz
  cases e : post key lt k l with
  | nil => rw [e] at hz; simp at hz
  | cons y r =>
    have hne : key y ≠ k := by intro e2; unfold look at hn; rw [e] at hn; simp [e2] at hn
    have hy : y ∈ l := by rw [← pre_post key lt k l, e]; simp
    have hlt : lt k (key y) = true := by
      rcases O.total k (key y) hk (hG y hy) (fun e => hne e.symm) with h1 | h1
      · exact h1
      · rw [post_head e] at h1; cases h1
    rw [e] at hz
    rcases List.mem_cons.1 hz with rfl | hz
    · exact hlt
    · exact O.trans _ _ _ hlt (h.post_lt e z hz)
include O in
theorem Up.mid {x : α} {l : List α} {r : List α} (h : Up key lt l) (hr : r.Sublist (post key lt (key x) l)) (hg : ∀ z ∈ r, lt (key x) (key z) = true) : Up key lt (pre key lt (key x) l ++ x :: r) := by
  have h0 : Up key lt (pre key lt (key x) l ++ post key lt (key x) l) := by rw [pre_post]; exact h
  have h1 := List.pairwise_append.1 h0
  refine List.pairwise_append.2 ⟨h1.1, List.pairwise_cons.2 ⟨hg, h1.2.1.sublist hr⟩, fun a ha b hb => ?_⟩
  rcases List.mem_cons.1 hb with rfl | hb
  · exact pre_lt a ha
  · exact h1.2.2 a ha b (hr.subset hb)
include O in
theorem add_up {x : α} {l : List α} (h : Up key lt l) (hG : ∀ y ∈ l, G (key y)) (hk : G (key x)) : Up key lt (add key lt x l) := by
  unfold add
  split
  · exact h
  · rename_i hn
    exact h.mid O (List.Sublist.refl _) (post_gt O h hG hk hn)
include O in
theorem upd_up {x : α} {l : List α} (h : Up key lt l) (hG : ∀ y ∈ l, G (key y)) (hk : G (key x)) : Up key lt (upd key lt x l) := by
  unfold upd
  split
  · rename_i y hs
    obtain ⟨r, e, hy⟩ := look_some hs
    refine h.mid O (List.tail_sublist _) fun z hz => ?_
    rw [e] at hz
    rw [← hy]; exact h.post_lt e z hz
  · rename_i hn
    exact h.mid O (List.Sublist.refl _) (post_gt O h hG hk hn)
theorem add_of {x y : α} {l : List α} (h : look key lt (key x) l = some y) : add key lt x l = l := by unfold add; rw [h]
theorem mem_add {x y : α} {l : List α} (h : y ∈ add key lt x l) : y ∈ l ∨ y = x := by
  unfold add at h
  split at h
  · exact Or.inl h
  · rw [← pre_post key lt (key x) l]
    simp only [List.mem_append, List.mem_cons] at h ⊢
    rcases h with h | h | h
    · exact Or.inl (Or.inl h)
    · exact Or.inr h
    · exact Or.inl (Or.inr h)
theorem mem_add_old {x y : α} {l : List α} (h : y ∈ l) : y ∈ add key lt x l := by
  unfold add
  split
  · exact h
  · rw [← pre_post key lt (key x) l] at h
    simp only [List.mem_append, List.mem_cons] at h ⊢
    rcases h with h | h
    · exact Or.inl h
    · exact Or.inr (Or.inr h)
theorem mem_upd {x y : α} {l : List α} (h : y ∈ upd key lt x l) : y = x ∨ y ∈ l := by
  unfold upd at h
  split at h
  · rcases List.mem_append.1 h with h | h
    · exact Or.inr (by rw [← pre_post key lt (key x) l]; simp [h])
    · rcases List.mem_cons.1 h with h | h
      · exact Or.inl h
      · exact Or.inr (by rw [← pre_post key lt (key x) l]; simp [List.mem_of_mem_tail h])
  · rcases List.mem_append.1 h with h | h
    · exact Or.inr (by rw [← pre_post key lt (key x) l]; simp [h])
    · rcases List.mem_cons.1 h with h | h
      · exact Or.inl h
      · exact Or.inr (by rw [← pre_post key lt (key x) l]; simp [h])
theorem add_length (x : α) (l : List α) : l.length ≤ (add key lt x l).length ∧ (add key lt x l).length ≤ l.length + 1 := by
  have := congrArg List.length (pre_post key lt (key x) l)
  rw [List.length_append] at this
  unfold add
  split
  · omega
  · rw [List.length_append, List.length_cons]; omega
theorem upd_some {x y : α} {l : List α} (h : look key lt (key x) l = some y) : upd key lt x l = pre key lt (key x) l ++ x :: (post key lt (key x) l).tail := by unfold upd; rw [h]
theorem upd_none {x : α} {l : List α} (h : look key lt (key x) l = none) : upd key lt x l = pre key lt (key x) l ++ x :: post key lt (key x) l := by unfold upd; rw [h]
include O in
theorem upd_same {x : α} {l : List α} (h : look key lt (key x) l = some x) : upd key lt x l = l := by
  obtain ⟨r, e, _⟩ := look_some h
  rw [upd_some h, e, List.tail_cons, ← e, pre_post]
end
end Rise
end
section
set_option linter.unusedSimpArgs false
set_option linter.unusedVariables false
namespace Fct
open Fld (zero32)
open Rise
abbrev Id := List Int
/-- A set's vote: what is promised, what is accepted (0: nothing). -/
structure Vot where
  S : Int
  PN : Int
  PO : Int
  AN : Int
  AO : Int
  B : List Int
deriving DecidableEq
structure Ste where
  born : Bool
  boot : Int
  blobs : List (Id × List Int)
  keeps : List (Int × Id)
  hints : List (Int × Int × Id)
  votes : List Vot
  decs : List (Int × List Int)
deriving DecidableEq
def Ste.none : Ste := ⟨false, 0, [], [], [], [], []⟩
def ilt (a b : Int) : Bool := decide (a < b)
def klt : Int × Id → Int × Id → Bool := lex ilt Sha.less
def hlt : Int × Int × Id → Int × Int × Id → Bool := lex ilt klt
def idOk (d : Id) : Prop := d.length = 32 ∧ ∀ n ∈ d, 0 ≤ n ∧ n ≤ 255
theorem ilt_ord : Ord ilt (fun _ => True) := int_ord _
theorem id_ord : Ord Sha.less idOk := ⟨Sha.less_irrefl, Sha.less_asymm, Sha.less_trans, fun a b ha hb h => Sha.less_total a b (by rw [ha.1, hb.1]) h⟩
theorem klt_ord : Ord klt (fun x => True ∧ idOk x.2) := lex_ord ilt_ord id_ord
theorem hlt_ord : Ord hlt (fun x => True ∧ True ∧ idOk x.2.2) := lex_ord ilt_ord klt_ord
abbrev bkey (x : Id × List Int) : Id := x.1
abbrev vkey (v : Vot) : Int := v.S
abbrev dkey (d : Int × List Int) : Int := d.1
/-- Is a ballot greater? -/
def more (an ao bn bo : Int) : Bool := decide (bn < an ∨ bn = an ∧ bo < ao)
def hasB (s : Ste) (d : Id) : Bool := s.blobs.any fun x => decide (x.1 = d)
def Ste.blob (s : Ste) (f : Fac) : Ste := { s with blobs := add bkey Sha.less (f.D, f.B) s.blobs }
def Ste.keep (s : Ste) (f : Fac) : Ste := if hasB s f.D = true then { s with keeps := add id klt (f.S, f.D) s.keeps } else s
def Ste.hint (s : Ste) (f : Fac) : Ste := if hasB s f.D = true then { s with hints := add id hlt (f.H, f.S, f.D) s.hints } else s
def goesK (f : Fac) (x : Int × Id) : Bool := decide (f.K = 10 ∧ x.1 = f.S)
def goesH (f : Fac) (x : Int × Int × Id) : Bool := decide (f.K = 10 ∧ x.2.1 = f.S ∨ f.K = 6 ∧ x = (f.H, f.S, f.D))
def needed (ks : List (Int × Id)) (hs : List (Int × Int × Id)) (d : Id) : Bool := (ks.any fun x => decide (x.2 = d)) || hs.any fun x => decide (x.2.2 = d)
def Ste.less (s : Ste) (f : Fac) : Ste :=
  let ks := s.keeps.filter fun x => !goesK f x
  let hs := s.hints.filter fun x => !goesH f x
  { s with keeps := ks, hints := hs, blobs := s.blobs.filter fun x => !needed (s.keeps.filter (goesK f)) (s.hints.filter (goesH f)) x.1 || needed ks hs x.1 }
/-- What a set's vote was. -/
def Ste.was (s : Ste) (k : Int) : Vot := (Rise.look vkey ilt k s.votes).getD ⟨k, 0, 0, 0, 0, []⟩
def Ste.vote (s : Ste) (f : Fac) : Ste :=
  let v := s.was f.S
  if f.K = 7 then (if more f.N f.O v.PN v.PO = true then { s with votes := upd vkey ilt ⟨f.S, f.N, f.O, v.AN, v.AO, v.B⟩ s.votes } else s)
  else if more v.PN v.PO f.N f.O = true then s else { s with votes := upd vkey ilt ⟨f.S, f.N, f.O, f.N, f.O, f.B⟩ s.votes }
def Ste.decide_ (s : Ste) (f : Fac) : Ste := { s with decs := add dkey ilt (f.S, f.B) s.decs }
/-- The state behind a fact that may be. -/
def Ste.on (s : Ste) (f : Fac) : Ste :=
  if f.K = 1 then { s with born := true } else if f.K = 2 then { s with boot := max s.boot f.S } else if f.K = 3 then s.blob f else if f.K = 4 then s.keep f else if f.K = 5 then s.hint f else
  if f.K = 6 ∨ f.K = 10 then s.less f else if f.K = 7 ∨ f.K = 8 then s.vote f else s.decide_ f
def Ste.run : Ste → List Fac → Ste × Int
  | s, [] => (s, 0)
  | s, f :: l => if can f = true then (s.on f).run l else (Ste.none, 2)
def fold (l : List Fac) : Ste × Int := Ste.none.run l
theorem on_1 (s : Ste) {f : Fac} (h : f.K = 1) : s.on f = { s with born := true } := by unfold Ste.on; rw [if_pos h]
theorem on_2 (s : Ste) {f : Fac} (h : f.K = 2) : s.on f = { s with boot := max s.boot f.S } := by unfold Ste.on; rw [if_neg (by omega), if_pos h]
theorem on_3 (s : Ste) {f : Fac} (h : f.K = 3) : s.on f = s.blob f := by unfold Ste.on; rw [if_neg (by omega), if_neg (by omega), if_pos h]
theorem on_4 (s : Ste) {f : Fac} (h : f.K = 4) : s.on f = s.keep f := by unfold Ste.on; rw [if_neg (by omega), if_neg (by omega), if_neg (by omega), if_pos h]
theorem on_5 (s : Ste) {f : Fac} (h : f.K = 5) : s.on f = s.hint f := by unfold Ste.on; rw [if_neg (by omega), if_neg (by omega), if_neg (by omega), if_neg (by omega), if_pos h]
theorem on_less (s : Ste) {f : Fac} (h : f.K = 6 ∨ f.K = 10) : s.on f = s.less f := by unfold Ste.on; rw [if_neg (by omega), if_neg (by omega), if_neg (by omega), if_neg (by omega), if_neg (by omega), if_pos h]
theorem on_vote (s : Ste) {f : Fac} (h : f.K = 7 ∨ f.K = 8) : s.on f = s.vote f := by unfold Ste.on; rw [if_neg (by omega), if_neg (by omega), if_neg (by omega), if_neg (by omega), if_neg (by omega), if_neg (by omega), if_pos h]
theorem on_9 (s : Ste) {f : Fac} (h : f.K = 9) : s.on f = s.decide_ f := by unfold Ste.on; rw [if_neg (by omega), if_neg (by omega), if_neg (by omega), if_neg (by omega), if_neg (by omega), if_neg (by omega), if_neg (by omega)]
theorem vote_7 (s : Ste) {f : Fac} (h : f.K = 7) (hm : more f.N f.O (s.was f.S).PN (s.was f.S).PO = true) : s.vote f = { s with votes := upd vkey ilt ⟨f.S, f.N, f.O, (s.was f.S).AN, (s.was f.S).AO, (s.was f.S).B⟩ s.votes } := by unfold Ste.vote; simp only; rw [if_pos h, if_pos hm]
theorem vote_7n (s : Ste) {f : Fac} (h : f.K = 7) (hm : more f.N f.O (s.was f.S).PN (s.was f.S).PO = false) : s.vote f = s := by unfold Ste.vote; simp only; rw [if_pos h, if_neg (by simp [hm])]
theorem vote_8 (s : Ste) {f : Fac} (h : f.K ≠ 7) (hm : more (s.was f.S).PN (s.was f.S).PO f.N f.O = false) : s.vote f = { s with votes := upd vkey ilt ⟨f.S, f.N, f.O, f.N, f.O, f.B⟩ s.votes } := by unfold Ste.vote; simp only; rw [if_neg h, if_neg (by simp [hm])]
theorem vote_8n (s : Ste) {f : Fac} (h : f.K ≠ 7) (hm : more (s.was f.S).PN (s.was f.S).PO f.N f.O = true) : s.vote f = s := by unfold Ste.vote; simp only; rw [if_neg h, if_pos hm]
structure BlobOk (x : Id × List Int) : Prop where
  id : x.1 = Sha.sum x.2
  most : x.2.length ≤ 1024
  byte : ∀ n ∈ x.2, 0 ≤ n ∧ n ≤ 255
def DataOk (b : List Int) : Prop := b.length ≤ 4000 ∧ ∀ n ∈ b, 0 ≤ n ∧ n ≤ 255
structure VoteOk (v : Vot) : Prop where
  set_ : setOk v.S
  prom : setOk v.PN ∧ nodeOk v.PO
  acc : (v.AN = 0 ∧ v.AO = 0 ∧ v.B = []) ∨ (setOk v.AN ∧ nodeOk v.AO ∧ more v.AN v.AO v.PN v.PO = false)
  data : DataOk v.B
structure Sound (s : Ste) : Prop where
  boot : 0 ≤ s.boot ∧ s.boot ≤ 2147483647
  blobsUp : Up bkey Sha.less s.blobs
  blobs : ∀ x ∈ s.blobs, BlobOk x
  keepsUp : Up id klt s.keeps
  keeps : ∀ x ∈ s.keeps, setOk x.1 ∧ hasB s x.2 = true
  hintsUp : Up id hlt s.hints
  hints : ∀ x ∈ s.hints, nodeOk x.1 ∧ setOk x.2.1 ∧ hasB s x.2.2 = true
  votesUp : Up vkey ilt s.votes
  votes : ∀ v ∈ s.votes, VoteOk v
  decsUp : Up dkey ilt s.decs
  decs : ∀ d ∈ s.decs, setOk d.1 ∧ DataOk d.2
theorem hasB_iff (s : Ste) (d : Id) : hasB s d = true ↔ ∃ x ∈ s.blobs, x.1 = d := by simp [hasB]
theorem BlobOk.idOk {x : Id × List Int} (h : BlobOk x) : idOk x.1 := by rw [h.id]; exact ⟨sum32 _, sum8 _⟩
theorem Sound.none : Sound Ste.none := by
  constructor <;> simp [Ste.none, Up]
theorem hasB_ok {s : Ste} (h : Sound s) {d : Id} (hd : hasB s d = true) : idOk d := by
  obtain ⟨x, hx, rfl⟩ := (hasB_iff s d).1 hd
  exact (h.blobs x hx).idOk
theorem more_irrefl (a b : Int) : more a b a b = false := by simp [more]
theorem more_zero {n o : Int} (h1 : setOk n) (h2 : nodeOk o) : more n o 0 0 = true := by unfold setOk nodeOk at *; simp [more]; omega
theorem more_asymm {a b c d : Int} (h : more a b c d = true) : more c d a b = false := by simp [more] at h ⊢; omega
theorem more_le_trans {a b c d e f : Int} (h1 : more a b c d = true) (h2 : more e f c d = false) : more e f a b = false := by simp [more] at h1 h2 ⊢; omega
theorem was_ok {s : Ste} (h : Sound s) (k : Int) : (s.was k).S = k ∧ ((Rise.look vkey ilt k s.votes = Option.none ∧ s.was k = ⟨k, 0, 0, 0, 0, []⟩) ∨ (Rise.look vkey ilt k s.votes = some (s.was k) ∧ VoteOk (s.was k))) := by
  unfold Ste.was
  cases e : Rise.look vkey ilt k s.votes with
  | none => simp
  | some v =>
    obtain ⟨hm, hk⟩ := look_mem e
    exact ⟨hk, Or.inr ⟨rfl, h.votes v hm⟩⟩
theorem Sound.blob {s : Ste} (h : Sound s) {f : Fac} (hf : f.ok) (hd : f.D = Sha.sum f.B) (hl : f.B.length ≤ 1024) : Sound (s.blob f) := by
  have hb : ∀ d, hasB s d = true → hasB (s.blob f) d = true := by
    intro d e
    obtain ⟨x, hx, rfl⟩ := (hasB_iff s d).1 e
    exact (hasB_iff _ _).2 ⟨x, mem_add_old hx, rfl⟩
  have hn : BlobOk (f.D, f.B) := ⟨hd, hl, hf.B⟩
  refine ⟨h.boot, ?_, ?_, h.keepsUp, fun x hx => ⟨(h.keeps x hx).1, hb _ (h.keeps x hx).2⟩, h.hintsUp, fun x hx => ⟨(h.hints x hx).1, (h.hints x hx).2.1, hb _ (h.hints x hx).2.2⟩, h.votesUp, h.votes, h.decsUp, h.decs⟩
  · exact add_up id_ord h.blobsUp (fun y hy => (h.blobs y hy).idOk) hn.idOk
  · intro x hx
    rcases mem_add hx with hx | rfl
    · exact h.blobs x hx
    · exact hn
theorem Sound.keep {s : Ste} (h : Sound s) {f : Fac} (hs : setOk f.S) : Sound (s.keep f) := by
  unfold Ste.keep
  split
  · rename_i hb
    refine ⟨h.boot, h.blobsUp, h.blobs, ?_, ?_, h.hintsUp, h.hints, h.votesUp, h.votes, h.decsUp, h.decs⟩
    · exact add_up klt_ord h.keepsUp (fun y hy => ⟨trivial, hasB_ok h (h.keeps y hy).2⟩) ⟨trivial, hasB_ok h hb⟩
    · intro x hx
      rcases mem_add hx with hx | rfl
      · exact h.keeps x hx
      · exact ⟨hs, hb⟩
  · exact h
theorem Sound.hint {s : Ste} (h : Sound s) {f : Fac} (hs : setOk f.S) (hh : nodeOk f.H) : Sound (s.hint f) := by
  unfold Ste.hint
  split
  · rename_i hb
    refine ⟨h.boot, h.blobsUp, h.blobs, h.keepsUp, h.keeps, ?_, ?_, h.votesUp, h.votes, h.decsUp, h.decs⟩
    · exact add_up hlt_ord h.hintsUp (fun y hy => ⟨trivial, trivial, hasB_ok h (h.hints y hy).2.2⟩) ⟨trivial, trivial, hasB_ok h hb⟩
    · intro x hx
      rcases mem_add hx with hx | rfl
      · exact h.hints x hx
      · exact ⟨hh, hs, hb⟩
  · exact h
theorem needed_k {ks : List (Int × Id)} {hs : List (Int × Int × Id)} {x : Int × Id} (h : x ∈ ks) : needed ks hs x.2 = true := by
  unfold needed; rw [Bool.or_eq_true]; exact Or.inl (List.any_eq_true.2 ⟨x, h, by simp⟩)
theorem needed_h {ks : List (Int × Id)} {hs : List (Int × Int × Id)} {x : Int × Int × Id} (h : x ∈ hs) : needed ks hs x.2.2 = true := by
  unfold needed; rw [Bool.or_eq_true]; exact Or.inr (List.any_eq_true.2 ⟨x, h, by simp⟩)
theorem Sound.less {s : Ste} (h : Sound s) (f : Fac) : Sound (s.less f) := by
  have hb : ∀ d, hasB s d = true → needed (s.less f).keeps (s.less f).hints d = true → hasB (s.less f) d = true := by
    intro d e e2
    obtain ⟨x, hx, rfl⟩ := (hasB_iff s d).1 e
    refine (hasB_iff _ _).2 ⟨x, List.mem_filter.2 ⟨hx, ?_⟩, rfl⟩
    rw [Bool.or_eq_true]; exact Or.inr e2
  refine ⟨h.boot, h.blobsUp.filter _, fun x hx => h.blobs x (List.mem_filter.1 hx).1, h.keepsUp.filter _, fun x hx => ?_, h.hintsUp.filter _, fun x hx => ?_, h.votesUp, h.votes, h.decsUp, h.decs⟩
  · have h0 := h.keeps x (List.mem_filter.1 hx).1
    exact ⟨h0.1, hb _ h0.2 (needed_k hx)⟩
  · have h0 := h.hints x (List.mem_filter.1 hx).1
    exact ⟨h0.1, h0.2.1, hb _ h0.2.2 (needed_h hx)⟩
theorem Sound.lay {s : Ste} (h : Sound s) {v : Vot} (hv : VoteOk v) : Sound { s with votes := upd vkey ilt v s.votes } := by
  refine ⟨h.boot, h.blobsUp, h.blobs, h.keepsUp, h.keeps, h.hintsUp, h.hints, upd_up ilt_ord h.votesUp (fun _ _ => trivial) trivial, fun x hx => ?_, h.decsUp, h.decs⟩
  rcases mem_upd hx with rfl | hx
  · exact hv
  · exact h.votes x hx
theorem Sound.vote {s : Ste} (h : Sound s) {f : Fac} (hf : f.ok) (hs : setOk f.S) (hb : setOk f.N ∧ nodeOk f.O) (hl : f.B.length ≤ 4000) : Sound (s.vote f) := by
  obtain ⟨hk, hw⟩ := was_ok h f.S
  unfold Ste.vote
  simp only
  split
  · split
    · rename_i hm
      refine h.lay ⟨hs, hb, ?_, ?_⟩
      · rcases hw with ⟨_, e⟩ | ⟨_, e⟩
        · rw [e]; exact Or.inl ⟨rfl, rfl, rfl⟩
        · rcases e.acc with e1 | ⟨e1, e2, e3⟩
          · exact Or.inl e1
          · exact Or.inr ⟨e1, e2, more_le_trans hm e3⟩
      · rcases hw with ⟨_, e⟩ | ⟨_, e⟩
        · rw [e]; exact ⟨by simp, by simp⟩
        · exact e.data
    · exact h
  · split
    · exact h
    · exact h.lay ⟨hs, hb, Or.inr ⟨hb.1, hb.2, more_irrefl _ _⟩, hl, hf.B⟩
theorem Sound.decide_ {s : Ste} (h : Sound s) {f : Fac} (hf : f.ok) (hs : setOk f.S) (hl : f.B.length ≤ 4000) : Sound (s.decide_ f) := by
  refine ⟨h.boot, h.blobsUp, h.blobs, h.keepsUp, h.keeps, h.hintsUp, h.hints, h.votesUp, h.votes, add_up ilt_ord h.decsUp (fun _ _ => trivial) trivial, fun x hx => ?_⟩
  rcases mem_add hx with hx | rfl
  · exact h.decs x hx
  · exact ⟨hs, hl, hf.B⟩
theorem Can.sum {f : Fac} (h : Can f) (hk : f.K = 3) : f.D = Sha.sum f.B := by
  have := h.pure_
  obtain ⟨k, s, h', n, o, d, b⟩ := f
  simp only at hk; subst hk
  simp [of, items, iB] at this
  exact this.2.2.2.2.symm
theorem Sound.on {s : Ste} (h : Sound s) {f : Fac} (hf : f.ok) (hc : Can f) : Sound (s.on f) := by
  have hm := hc.most
  have hs := hc.set_
  have hh := hc.home
  have hb := hc.ballot
  rcases kinds hc.kind with e | e | e | e | e | e | e | e | e | e <;> simp [e] at hm hs hh hb <;> unfold Ste.on <;> simp only [e] <;> simp
  · exact ⟨h.boot, h.blobsUp, h.blobs, h.keepsUp, h.keeps, h.hintsUp, h.hints, h.votesUp, h.votes, h.decsUp, h.decs⟩
  · refine ⟨?_, h.blobsUp, h.blobs, h.keepsUp, h.keeps, h.hintsUp, h.hints, h.votesUp, h.votes, h.decsUp, h.decs⟩
    have := h.boot
    unfold setOk at hs
    simp only; omega
  · exact h.blob hf (hc.sum e) hm
  · exact h.keep hs
  · exact h.hint hs hh
  · exact h.less f
  · exact h.vote hf hs hb hm
  · exact h.vote hf hs hb hm
  · exact h.decide_ hf hs hm
  · exact h.less f
theorem run_append (l k : List Fac) : ∀ s t : Ste, s.run l = (t, 0) → s.run (l ++ k) = t.run k := by
  induction l with
  | nil => intro s t h; simp [Ste.run] at h; rw [h]; rfl
  | cons f l ih =>
    intro s t h
    rw [List.cons_append]
    rw [Ste.run] at h ⊢
    split at h
    · rename_i hc
      rw [if_pos hc]; exact ih _ _ h
    · simp at h
end Fct
end
section
set_option linter.unusedSimpArgs false
set_option linter.unusedVariables false
namespace Fct
open Fld (zero32)
open Rise
def fBorn : Fac := ⟨1, 0, 0, 0, 0, zero32, []⟩
def fBoot (n : Int) : Fac := ⟨2, n, 0, 0, 0, zero32, []⟩
def fBlob (x : Id × List Int) : Fac := ⟨3, 0, 0, 0, 0, x.1, x.2⟩
def fKeep (x : Int × Id) : Fac := ⟨4, x.1, 0, 0, 0, x.2, []⟩
def fHint (x : Int × Int × Id) : Fac := ⟨5, x.2.1, x.1, 0, 0, x.2.2, []⟩
def fProm (v : Vot) : Fac := ⟨7, v.S, 0, v.PN, v.PO, zero32, []⟩
def fAcc (v : Vot) : Fac := ⟨8, v.S, 0, v.AN, v.AO, zero32, v.B⟩
def fVote (v : Vot) : List Fac := if v.AN = 0 then [fProm v] else if more v.PN v.PO v.AN v.AO = true then [fAcc v, fProm v] else [fProm v, fAcc v]
def fDec (d : Int × List Int) : Fac := ⟨9, d.1, 0, 0, 0, zero32, d.2⟩
def facts1 (s : Ste) : List Fac := (if s.born = true then [fBorn] else []) ++ (if s.boot ≠ 0 then [fBoot s.boot] else [])
def facts (s : Ste) : List Fac := facts1 s ++ s.blobs.map fBlob ++ s.keeps.map fKeep ++ s.hints.map fHint ++ s.votes.flatMap fVote ++ s.decs.map fDec
def vlen (l : List Vot) : Nat := (l.flatMap fVote).length
theorem fVote_len (v : Vot) : 1 ≤ (fVote v).length ∧ (fVote v).length ≤ 2 := by
  unfold fVote
  split
  · simp
  · split <;> simp
theorem vlen_append (l k : List Vot) : vlen (l ++ k) = vlen l + vlen k := by simp [vlen]
theorem vlen_cons (v : Vot) (l : List Vot) : vlen (v :: l) = (fVote v).length + vlen l := by simp [vlen]
theorem vlen_tail (l : List Vot) : vlen l.tail ≤ vlen l := by
  cases l with
  | nil => simp
  | cons v l => rw [vlen_cons]; simp
theorem vlen_upd (v : Vot) (l : List Vot) : vlen (upd vkey ilt v l) ≤ vlen l + 2 := by
  have h := congrArg vlen (pre_post vkey ilt (vkey v) l)
  rw [vlen_append] at h
  have hv := fVote_len v
  have ht := vlen_tail (post vkey ilt (vkey v) l)
  unfold upd
  split <;> rw [vlen_append, vlen_cons] <;> omega
def bn (b : Bool) : Nat := if b = true then 1 else 0
def zn (n : Int) : Nat := if n ≠ 0 then 1 else 0
theorem bn_le (b : Bool) : bn b ≤ 1 := by unfold bn; split <;> omega
theorem zn_le (n : Int) : zn n ≤ 1 := by unfold zn; split <;> omega
theorem facts_length (s : Ste) : (facts s).length = bn s.born + zn s.boot + s.blobs.length + s.keeps.length + s.hints.length + vlen s.votes + s.decs.length := by
  unfold facts facts1 vlen
  simp only [List.length_append, List.length_map]
  have e1 : (if s.born = true then [fBorn] else []).length = bn s.born := by unfold bn; split <;> rfl
  have e2 : (if s.boot ≠ 0 then [fBoot s.boot] else []).length = zn s.boot := by unfold zn; split <;> rfl
  rw [e1, e2]
theorem on_few (s : Ste) (f : Fac) : (facts (s.on f)).length ≤ (facts s).length + 2 := by
  rw [facts_length, facts_length]
  have b1 := bn_le true
  have b2 := zn_le (max s.boot f.S)
  unfold Ste.on
  split
  · simp only; omega
  · split
    · simp only; omega
    · split
      · have := (add_length (key := bkey) (lt := Sha.less) (f.D, f.B) s.blobs).2
        simp only [Ste.blob]; omega
      · split
        · unfold Ste.keep
          split
          · have := (add_length (key := id) (lt := klt) (f.S, f.D) s.keeps).2
            simp only; omega
          · omega
        · split
          · unfold Ste.hint
            split
            · have := (add_length (key := id) (lt := hlt) (f.H, f.S, f.D) s.hints).2
              simp only; omega
            · omega
          · split
            · simp only [Ste.less]
              have h1 := List.length_filter_le (fun x => !goesK f x) s.keeps
              have h2 := List.length_filter_le (fun x => !goesH f x) s.hints
              have h3 := List.length_filter_le (fun x : Id × List Int => !needed (s.keeps.filter (goesK f)) (s.hints.filter (goesH f)) x.1 || needed (s.keeps.filter fun x => !goesK f x) (s.hints.filter fun x => !goesH f x) x.1) s.blobs
              omega
            · split
              · unfold Ste.vote
                simp only
                split
                · split
                  · have := vlen_upd ⟨f.S, f.N, f.O, (s.was f.S).AN, (s.was f.S).AO, (s.was f.S).B⟩ s.votes
                    simp only; omega
                  · omega
                · split
                  · omega
                  · have := vlen_upd ⟨f.S, f.N, f.O, f.N, f.O, f.B⟩ s.votes
                    simp only; omega
              · have := (add_length (key := dkey) (lt := ilt) (f.S, f.B) s.decs).2
                simp only [Ste.decide_]; omega
theorem run_few (l : List Fac) : ∀ s t : Ste, s.run l = (t, 0) → (facts t).length ≤ (facts s).length + 2 * l.length := by
  induction l with
  | nil => intro s t h; simp [Ste.run] at h; rw [h]; simp
  | cons f l ih =>
    intro s t h
    rw [Ste.run] at h
    split at h
    · have h1 := ih _ _ h
      have h2 := on_few s f
      rw [List.length_cons]; omega
    · simp at h
end Fct
end
end Go.Proofs.YtokpabkcaofahaaGreat
