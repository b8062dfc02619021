/-
  Words that are to be told, and how often each was: kept in order, those told least often ahead.
-/
import Derived.Test.YtgohapbobbkaeaaMb
import Derived.Lib.BitFns
namespace Go.Proofs.Ytgohapbobbkaeaa
set_option linter.unusedSimpArgs false
set_option linter.unusedVariables false
/-- A word, and how often it was told. -/
structure Tl where
  m : Mb
  t : Nat
theorem Tl.ext' {a b : Tl} (h1 : a.m = b.m) (h2 : a.t = b.t) : a = b := by cases a; cases b; cases h1; cases h2; rfl
namespace Gs
def lt (a b : Tl) : Prop := a.t < b.t ∨ a.t = b.t ∧ a.m.I < b.m.I
instance (a b : Tl) : Decidable (lt a b) := by unfold lt; infer_instance
theorem lt_trans {a b c : Tl} (h : lt a b) (h2 : lt b c) : lt a c := by unfold lt at *; omega
theorem lt_not {a b : Tl} (h : lt a b) : ¬ lt b a := by unfold lt at *; omega
theorem lt_or {a b : Tl} (h : a.m.I ≠ b.m.I) : lt a b ∨ lt b a := by unfold lt; omega
/-- How often a word is told, of so many nodes. -/
def lim (N : Nat) : Nat := 3 * Lib.bitLen N
theorem bit_half : ∀ n : Fin 65, 0 < n.val → Lib.bitLen n.val = Lib.bitLen (n.val / 2) + 1 := by decide +kernel
theorem bit_le : ∀ n : Fin 65, Lib.bitLen n.val ≤ 7 := by decide +kernel
theorem lim_half {n : Nat} (h : 0 < n) (h2 : n ≤ 64) : lim n = lim (n / 2) + 3 := by
  have := bit_half ⟨n, by omega⟩ h
  unfold lim; simp only at this; omega
theorem lim_zero : lim 0 = 0 := by decide +kernel
theorem lim_le {n : Nat} (h2 : n ≤ 64) : lim n ≤ 21 := by
  have := bit_le ⟨n, by omega⟩
  unfold lim; simp only at this; omega
theorem lim_pos {n : Nat} (h : 1 ≤ n) (h2 : n ≤ 64) : 3 ≤ lim n := by rw [lim_half (by omega) h2]; omega
/-- Where a telling is put. -/
def pos (l : List Tl) (x : Tl) : Nat := l.findIdx fun y => decide (lt x y)
def put (l : List Tl) (x : Tl) : List Tl := l.take (pos l x) ++ x :: l.drop (pos l x)
theorem pos_le (l : List Tl) (x : Tl) : pos l x ≤ l.length := List.findIdx_le_length
theorem pos_lt {l : List Tl} (h : l.Pairwise lt) (x : Tl) (i : Nat) (hi : i < l.length) : lt x l[i] ↔ pos l x ≤ i := by
  constructor
  · intro hx
    refine Nat.le_of_not_lt fun hlt => ?_
    have := List.not_of_lt_findIdx (p := fun y => decide (lt x y)) (xs := l) (i := i) hlt
    simp [hx] at this
  · intro hp
    have hpl : pos l x < l.length := by omega
    have h1 := List.findIdx_getElem (p := fun y => decide (lt x y)) (xs := l) (w := hpl)
    have h1 : lt x l[pos l x] := of_decide_eq_true h1
    rcases Nat.lt_or_eq_of_le hp with h2 | h2
    · exact lt_trans h1 (List.pairwise_iff_getElem.1 h _ _ hpl hi h2)
    · have e : l[pos l x] = l[i] := by congr 1
      rwa [e] at h1
theorem put_perm (l : List Tl) (x : Tl) : (put l x).Perm (x :: l) := by
  unfold put
  refine List.perm_middle.trans ?_
  rw [List.take_append_drop]
theorem put_mem {l : List Tl} {x y : Tl} : y ∈ put l x ↔ y = x ∨ y ∈ l := by rw [(put_perm l x).mem_iff]; simp
theorem put_len (l : List Tl) (x : Tl) : (put l x).length = l.length + 1 := by rw [(put_perm l x).length_eq]; rfl
abbrev ids (l : List Tl) : List Int := l.map fun x => x.m.I
theorem put_srt {l : List Tl} (h : l.Pairwise lt) {x : Tl} (hx : x.m.I ∉ ids l) : (put l x).Pairwise lt := by
  unfold put
  rw [List.pairwise_append]
  refine ⟨h.sublist (List.take_sublist _ _), ?_, ?_⟩
  · rw [List.pairwise_cons]
    refine ⟨fun y hy => ?_, h.sublist (List.drop_sublist _ _)⟩
    obtain ⟨i, hi, rfl⟩ := List.getElem_of_mem hy
    rw [List.getElem_drop]
    rw [List.length_drop] at hi
    exact (pos_lt h x _ (by omega)).2 (by omega)
  · intro a ha b hb
    obtain ⟨i, hi, rfl⟩ := List.getElem_of_mem ha
    rw [List.length_take] at hi
    rw [List.getElem_take]
    have hil : i < l.length := by omega
    have h1 : ¬ lt x l[i] := fun e => by have := (pos_lt h x i hil).1 e; omega
    have hax : lt l[i] x := by
      rcases lt_or (a := l[i]) (b := x) (fun e => hx (List.mem_map.2 ⟨l[i], List.getElem_mem hil, e⟩)) with h2 | h2
      · exact h2
      · exact absurd h2 h1
    rcases List.mem_cons.1 hb with rfl | hb
    · exact hax
    · obtain ⟨j, hj, rfl⟩ := List.getElem_of_mem hb
      rw [List.length_drop] at hj
      rw [List.getElem_drop]
      exact lt_trans hax ((pos_lt h x _ (by omega)).2 (by omega))
structure OK (N : Nat) (l : List Tl) : Prop where
  n1 : 1 ≤ N
  n2 : N ≤ 64
  srt : l.Pairwise lt
  nd : (ids l).Nodup
  may : ∀ x ∈ l, x.m.May ∧ x.m.I ≤ N ∧ x.t < lim N
theorem few : ∀ (N : Nat) (l : List Int), l.Nodup → (∀ x ∈ l, 1 ≤ x ∧ x ≤ N) → l.length ≤ N
  | 0, l, _, h => by
    cases l with
    | nil => simp
    | cons a l => have := h a (by simp); omega
  | N + 1, l, hn, h => by
    by_cases hm : ((N + 1 : Nat) : Int) ∈ l
    · have h1 := few N (l.erase ((N + 1 : Nat) : Int)) (hn.sublist List.erase_sublist) (fun x hx => by
        have h2 := (hn.mem_erase_iff).1 hx
        have h3 := h x h2.2
        have := h2.1
        omega)
      have h2 := List.length_erase_of_mem hm
      omega
    · have := few N l hn (fun x hx => by
        have h3 := h x hx
        have : x ≠ ((N + 1 : Nat) : Int) := fun e => hm (e ▸ hx)
        omega)
      omega
theorem OK.len {N : Nat} {l : List Tl} (h : OK N l) : l.length ≤ N := by
  have := few N (ids l) h.nd (fun x hx => by
    obtain ⟨y, hy, rfl⟩ := List.mem_map.1 hx
    have h1 := h.may y hy
    exact ⟨h1.1.1.1, h1.2.1⟩)
  simpa using this
theorem OK.sub {N : Nat} {l l' : List Tl} (h : OK N l) (hs : l'.Sublist l) : OK N l' :=
  ⟨h.n1, h.n2, h.srt.sublist hs, h.nd.sublist (hs.map _), fun x hx => h.may x (hs.subset hx)⟩
theorem OK.nil {N : Nat} (h1 : 1 ≤ N) (h2 : N ≤ 64) : OK N [] := ⟨h1, h2, List.Pairwise.nil, List.nodup_nil, fun x hx => by cases hx⟩
theorem put_ids (l : List Tl) (x : Tl) : (ids (put l x)).Perm (x.m.I :: ids l) := (put_perm l x).map _
theorem OK.put {N : Nat} {l : List Tl} (h : OK N l) {x : Tl} (hx : x.m.I ∉ ids l) (hm : x.m.May ∧ x.m.I ≤ N ∧ x.t < lim N) : OK N (put l x) :=
  ⟨h.n1, h.n2, put_srt h.srt hx, (put_ids l x).nodup_iff.2 (List.nodup_cons.2 ⟨hx, h.nd⟩), fun y hy => by
    rcases put_mem.1 hy with rfl | hy
    · exact hm
    · exact h.may y hy⟩
/-- Where the word about a node stands. -/
def at_ (l : List Tl) (i : Int) : Nat := l.findIdx fun y => decide (y.m.I = i)
theorem at_le (l : List Tl) (i : Int) : at_ l i ≤ l.length := List.findIdx_le_length
theorem at_here {l : List Tl} {i : Int} (h : at_ l i < l.length) : (l[at_ l i]).m.I = i := by
  have h1 := List.findIdx_getElem (p := fun y : Tl => decide (y.m.I = i)) (xs := l) (w := h)
  exact of_decide_eq_true h1
theorem at_before {l : List Tl} {i : Int} (k : Nat) (h : k < at_ l i) (hk : k < l.length) : (l[k]).m.I ≠ i := by
  have := List.not_of_lt_findIdx (p := fun y : Tl => decide (y.m.I = i)) (xs := l) (i := k) h
  simpa using this
theorem at_none {l : List Tl} {i : Int} (h : ¬ at_ l i < l.length) : i ∉ ids l := fun hm => by
  obtain ⟨x, hx, he⟩ := List.mem_map.1 hm
  exact h (List.findIdx_lt_length_of_exists ⟨x, hx, decide_eq_true he⟩)
/-- What an Add answers, and what is left. -/
def add (N : Nat) (l : List Tl) (m : Mb) : List Tl × Bool × Int :=
  if m.May ∧ m.I ≤ N then
    (if h : at_ l m.I < l.length then (if m.Over (l[at_ l m.I]).m then (put (l.eraseIdx (at_ l m.I)) ⟨m, 0⟩, true, 0) else (l, false, 0))
    else (put l ⟨m, 0⟩, true, 0))
  else (l, false, 2)
theorem add_bad {N : Nat} {l : List Tl} {m : Mb} (h : ¬ (m.May ∧ m.I ≤ N)) : add N l m = (l, false, 2) := if_neg h
theorem add_new {N : Nat} {l : List Tl} {m : Mb} (h : m.May ∧ m.I ≤ N) (h1 : ¬ at_ l m.I < l.length) : add N l m = (put l ⟨m, 0⟩, true, 0) := by
  unfold add; rw [if_pos h, dif_neg h1]
theorem add_over {N : Nat} {l : List Tl} {m : Mb} (h : m.May ∧ m.I ≤ N) (h1 : at_ l m.I < l.length) (h2 : m.Over (l[at_ l m.I]).m) : add N l m = (put (l.eraseIdx (at_ l m.I)) ⟨m, 0⟩, true, 0) := by
  unfold add; rw [if_pos h, dif_pos h1, if_pos h2]
theorem add_not {N : Nat} {l : List Tl} {m : Mb} (h : m.May ∧ m.I ≤ N) (h1 : at_ l m.I < l.length) (h2 : ¬ m.Over (l[at_ l m.I]).m) : add N l m = (l, false, 0) := by
  unfold add; rw [if_pos h, dif_pos h1, if_neg h2]
theorem erase_perm {α : Type} (l : List α) (k : Nat) (h : k < l.length) : (l[k] :: l.eraseIdx k).Perm l := by
  rw [List.eraseIdx_eq_take_drop_succ]
  refine List.perm_middle.symm.trans ?_
  rw [← List.drop_eq_getElem_cons h, List.take_append_drop]
theorem erase_ids {l : List Tl} (h : (ids l).Nodup) (k : Nat) (hk : k < l.length) : (l[k]).m.I ∉ ids (l.eraseIdx k) := by
  have h1 := ((erase_perm l k hk).map (fun x : Tl => x.m.I)).nodup_iff.2 h
  exact (List.nodup_cons.1 h1).1
theorem OK.add {N : Nat} {l : List Tl} (h : OK N l) (m : Mb) : OK N (add N l m).1 := by
  have hl := lim_pos h.n1 h.n2
  by_cases hm : m.May ∧ m.I ≤ N
  · by_cases h1 : at_ l m.I < l.length
    · by_cases h2 : m.Over (l[at_ l m.I]).m
      · rw [add_over hm h1 h2]
        refine (h.sub (List.eraseIdx_sublist _ _)).put ?_ ⟨hm.1, hm.2, by show 0 < lim N; omega⟩
        have := erase_ids h.nd _ h1
        rwa [at_here h1] at this
      · rw [add_not hm h1 h2]; exact h
    · rw [add_new hm h1]
      exact h.put (at_none h1) ⟨hm.1, hm.2, by show 0 < lim N; omega⟩
  · rw [add_bad hm]; exact h
/-- How many are told. -/
def cnt (n : Int) (len : Nat) : Nat := min (min n 16).toNat len
def bump (L : Nat) (x : Tl) : Option Tl := if x.t + 1 < L then some ⟨x.m, x.t + 1⟩ else none
def back (L : Nat) (l : List Tl) (x : Tl) : List Tl := if x.t + 1 < L then put l ⟨x.m, x.t + 1⟩ else l
def puts (L : Nat) (l xs : List Tl) : List Tl := xs.foldl (back L) l
theorem puts_snoc (L : Nat) (l xs : List Tl) (x : Tl) : puts L l (xs ++ [x]) = back L (puts L l xs) x := by unfold puts; rw [List.foldl_append]; rfl
def told (l : List Tl) (n : Int) : List Mb := (l.take (cnt n l.length)).map (·.m)
def left (N : Nat) (l : List Tl) (n : Int) : List Tl := puts (lim N) (l.drop (cnt n l.length)) (l.take (cnt n l.length))
theorem back_perm (L : Nat) (l : List Tl) (x : Tl) : (back L l x).Perm (l ++ (bump L x).toList) := by
  unfold back bump
  split
  · refine (put_perm _ _).trans ?_
    exact (List.perm_append_singleton _ _).symm
  · simp
theorem puts_perm (L : Nat) (l xs : List Tl) : (puts L l xs).Perm (l ++ xs.filterMap (bump L)) := by
  induction xs generalizing l with
  | nil => simp [puts]
  | cons x xs ih =>
    have h := ih (back L l x)
    show (puts L (back L l x) xs).Perm _
    refine h.trans ?_
    refine ((back_perm L l x).append_right _).trans ?_
    rw [List.filterMap_cons, List.append_assoc]
    cases bump L x <;> simp
theorem back_OK {N : Nat} {l : List Tl} (h : OK N l) {x : Tl} (hx : x.m.I ∉ ids l) (hm : x.m.May ∧ x.m.I ≤ N) : OK N (back (lim N) l x) := by
  unfold back
  split
  · exact h.put hx ⟨hm.1, hm.2, by assumption⟩
  · exact h
theorem puts_OK {N : Nat} : ∀ (xs l : List Tl), OK N l → (∀ x ∈ xs, x.m.May ∧ x.m.I ≤ N) → (ids (l ++ xs)).Nodup → OK N (puts (lim N) l xs)
  | [], l, h, _, _ => h
  | x :: xs, l, h, hm, hn => by
    have hx : x.m.I ∉ ids l := fun e => by
      simp only [ids, List.map_append, List.map_cons] at hn
      exact (List.nodup_append.1 hn).2.2 _ e _ (by simp) rfl
    refine puts_OK xs _ (back_OK h hx (hm x (by simp))) (fun y hy => hm y (by simp [hy])) ?_
    unfold back
    split
    · have hp : (ids (put l ⟨x.m, x.t + 1⟩ ++ xs)).Perm (ids (l ++ x :: xs)) := by
        simp only [ids, List.map_append, List.map_cons]
        refine ((put_ids l ⟨x.m, x.t + 1⟩).append_right _).trans ?_
        exact List.perm_middle.symm
      exact hp.nodup_iff.2 hn
    · exact hn.sublist (List.Sublist.map _ ((List.Sublist.refl l).append (List.sublist_cons_self _ _)))
theorem OK.left {N : Nat} {l : List Tl} (h : OK N l) (n : Int) : OK N (left N l n) := by
  refine puts_OK _ _ (h.sub (List.drop_sublist _ _)) (fun x hx => ?_) ?_
  · have := h.may x (List.mem_of_mem_take hx)
    exact ⟨this.1, this.2.1⟩
  · have hp : (ids (l.drop (cnt n l.length) ++ l.take (cnt n l.length))).Perm (ids l) := by
      refine List.Perm.map _ ?_
      refine List.perm_append_comm.trans ?_
      rw [List.take_append_drop]
    exact hp.nodup_iff.2 h.nd
theorem cnt_le (n : Int) (k : Nat) : cnt n k ≤ k ∧ cnt n k ≤ 16 := by unfold cnt; omega
theorem told_len (l : List Tl) (n : Int) : (told l n).length = cnt n l.length := by unfold told; rw [List.length_map, List.length_take]; have := cnt_le n l.length; omega
end Gs
end Go.Proofs.Ytgohapbobbkaeaa
