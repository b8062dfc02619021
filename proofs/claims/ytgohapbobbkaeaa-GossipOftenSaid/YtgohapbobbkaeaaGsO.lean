/-
  How often each word was told, portion by portion: as often as the limit, none more than once more often than another one.
-/
import Derived.Test.YtgohapbobbkaeaaGs
namespace Go.Proofs.Ytgohapbobbkaeaa
set_option linter.unusedSimpArgs false
set_option linter.unusedVariables false
namespace Gs
/-- How many tellings are left. -/
def rest (L : Nat) (T : List Tl) : Nat := (T.map fun x => L - x.t).sum
theorem rest_perm {L : Nat} {T T' : List Tl} (h : T.Perm T') : rest L T = rest L T' := (h.map _).sum_nat
theorem rest_append (L : Nat) (T T' : List Tl) : rest L (T ++ T') = rest L T + rest L T' := by unfold rest; rw [List.map_append, List.sum_append_nat]
theorem rest_bump {L : Nat} : ∀ (xs : List Tl), (∀ x ∈ xs, x.t < L) → rest L (xs.filterMap (bump L)) + xs.length = rest L xs
  | [], _ => rfl
  | x :: xs, h => by
    have h1 := rest_bump xs fun y hy => h y (by simp [hy])
    have hx := h x (by simp)
    have e1 : rest L (x :: xs) = (L - x.t) + rest L xs := by simp [rest]
    rw [e1, List.length_cons]
    by_cases hb : x.t + 1 < L
    · rw [List.filterMap_cons_some (show bump L x = some ⟨x.m, x.t + 1⟩ from if_pos hb)]
      have e2 : rest L ((⟨x.m, x.t + 1⟩ : Tl) :: xs.filterMap (bump L)) = (L - (x.t + 1)) + rest L (xs.filterMap (bump L)) := by simp [rest]
      rw [e2]; omega
    · rw [List.filterMap_cons_none (show bump L x = none from if_neg hb)]
      omega
theorem left_perm (N : Nat) (T : List Tl) (n : Int) : (left N T n).Perm (T.drop (cnt n T.length) ++ (T.take (cnt n T.length)).filterMap (bump (lim N))) := puts_perm _ _ _
theorem rest_left {N : Nat} {T : List Tl} (h : OK N T) (n : Int) : rest (lim N) (left N T n) + cnt n T.length = rest (lim N) T := by
  have h1 := rest_bump (L := lim N) (T.take (cnt n T.length)) (fun x hx => (h.may x (List.mem_of_mem_take hx)).2.2)
  have h2 := rest_append (lim N) (T.take (cnt n T.length)) (T.drop (cnt n T.length))
  rw [List.take_append_drop] at h2
  have h3 : (T.take (cnt n T.length)).length = cnt n T.length := by rw [List.length_take]; have := cnt_le n T.length; omega
  rw [rest_perm (left_perm N T n), rest_append]
  omega
theorem rest_zero {N : Nat} {T : List Tl} (h : OK N T) (h0 : rest (lim N) T = 0) : T = [] := by
  cases T with
  | nil => rfl
  | cons x T =>
    have := (h.may x (by simp)).2.2
    have e1 : rest (lim N) (x :: T) = (lim N - x.t) + rest (lim N) T := by simp [rest]
    omega
theorem rest_new {L : Nat} : ∀ (T : List Tl), (∀ x ∈ T, x.t = 0) → rest L T = T.length * L
  | [], _ => by simp [rest]
  | x :: T, h => by
    have h1 := rest_new (L := L) T fun y hy => h y (by simp [hy])
    have e1 : rest L (x :: T) = (L - x.t) + rest L T := by simp [rest]
    have hx := h x (by simp)
    rw [e1, h1, hx, List.length_cons, Nat.succ_mul]; omega
/-- A word told: its node's count. -/
def inc (to : List Nat) (m : Mb) : List Nat := to.set m.I.toNat (to.getD m.I.toNat 0 + 1)
def incs (to : List Nat) (ms : List Mb) : List Nat := ms.foldl inc to
theorem inc_len (to : List Nat) (m : Mb) : (inc to m).length = to.length := by simp [inc]
theorem incs_len (ms : List Mb) : ∀ (to : List Nat), (incs to ms).length = to.length := by
  induction ms with
  | nil => intro to; rfl
  | cons m ms ih => intro to; show (incs (inc to m) ms).length = _; rw [ih, inc_len]
theorem incs_snoc (to : List Nat) (ms : List Mb) (m : Mb) : incs to (ms ++ [m]) = inc (incs to ms) m := by unfold incs; rw [List.foldl_append]; rfl
theorem inc_get (to : List Nat) (m : Mb) (i : Nat) (hi : i < to.length) : (inc to m).getD i 0 = to.getD i 0 + (if m.I.toNat = i then 1 else 0) := by
  unfold inc
  rw [List.getD_eq_getElem?_getD, List.getElem?_set]
  by_cases h : m.I.toNat = i
  · rw [if_pos h, if_pos h, h, if_pos hi]; rfl
  · rw [if_neg h, if_neg h, List.getD_eq_getElem?_getD]; omega
theorem incs_get {xs : List Tl} (hn : (ids xs).Nodup) (h0 : ∀ x ∈ xs, 0 ≤ x.m.I) : ∀ (to : List Nat) (i : Nat), i < to.length → (incs to (xs.map (·.m))).getD i 0 = to.getD i 0 + (if (i : Int) ∈ ids xs then 1 else 0) := by
  induction xs with
  | nil => intro to i _; simp [incs]
  | cons x xs ih =>
    intro to i hi
    show (incs (inc to x.m) (xs.map (·.m))).getD i 0 = _
    have hcons : ids (x :: xs) = x.m.I :: ids xs := rfl
    rw [hcons, List.nodup_cons] at hn
    rw [ih hn.2 (fun y hy => h0 y (by simp [hy])) _ i (by rw [inc_len]; exact hi), inc_get _ _ _ hi]
    have hx := h0 x (by simp)
    by_cases h1 : x.m.I.toNat = i
    · have h2 : (i : Int) = x.m.I := by omega
      have h3 : (i : Int) ∉ ids xs := by rw [h2]; exact hn.1
      rw [if_pos h1, if_neg h3, if_pos (by rw [hcons, h2]; exact List.mem_cons_self)]
    · have h2 : (i : Int) ≠ x.m.I := by omega
      rw [if_neg h1]
      by_cases h3 : (i : Int) ∈ ids xs
      · rw [if_pos h3, if_pos (by rw [hcons]; exact List.mem_cons_of_mem _ h3)]
      · rw [if_neg h3, if_neg (fun e => by
          rw [hcons] at e
          rcases List.mem_cons.1 e with e | e
          · exact h2 e
          · exact h3 e)]
structure Ev (N : Nat) (tb : List Bool) (T : List Tl) (to : List Nat) : Prop where
  ok : OK N T
  lb : tb.length = N + 1
  lo : to.length = N + 1
  a : ∀ x ∈ T, tb.getD x.m.I.toNat false = true ∧ to.getD x.m.I.toNat 0 = x.t
  b : ∀ i, tb.getD i false = true → (i : Int) ∉ ids T → to.getD i 0 = lim N
  c : ∃ c, c ≤ 21 ∧ ∀ i, tb.getD i false = true → c ≤ to.getD i 0 ∧ to.getD i 0 ≤ c + 1
theorem Ev.there {N : Nat} {tb : List Bool} {T : List Tl} {to : List Nat} (h : Ev N tb T to) {i : Nat} (hi : tb.getD i false = true) : i < N + 1 := by
  refine Nat.lt_of_not_le fun hle => ?_
  rw [List.getD_eq_getElem?_getD, List.getElem?_eq_none (by rw [h.lb]; exact hle)] at hi
  cases hi
theorem Ev.take {N : Nat} {tb : List Bool} {T : List Tl} {to : List Nat} (h : Ev N tb T to) (n : Int) : Ev N tb (left N T n) (incs to (told T n)) := by
  obtain ⟨k, hk⟩ : ∃ k, k = cnt n T.length := ⟨_, rfl⟩
  have hT : T.take k ++ T.drop k = T := List.take_append_drop k T
  have hnd : (ids (T.take k ++ T.drop k)).Nodup := by rw [hT]; exact h.ok.nd
  have hmem : ∀ x, x ∈ T ↔ x ∈ T.take k ∨ x ∈ T.drop k := fun x => by rw [← List.mem_append, hT]
  have hndx : (ids (T.take k)).Nodup := h.ok.nd.sublist ((List.take_sublist _ _).map _)
  have hpos : ∀ x ∈ T, 1 ≤ x.m.I ∧ x.m.I ≤ N := fun x hx => ⟨(h.ok.may x hx).1.1.1, (h.ok.may x hx).2.1⟩
  have hsep : ∀ x ∈ T.take k, ∀ y ∈ T.drop k, x.m.I ≠ y.m.I := fun x hx y hy e => by
    have happ : ids (T.take k ++ T.drop k) = ids (T.take k) ++ ids (T.drop k) := List.map_append
    rw [happ] at hnd
    exact (List.nodup_append.1 hnd).2.2 _ (List.mem_map.2 ⟨x, hx, rfl⟩) _ (List.mem_map.2 ⟨y, hy, rfl⟩) e
  have huniq : ∀ x ∈ T.take k, ∀ y ∈ T.take k, x.m.I = y.m.I → x.t = y.t := fun x hx y hy e => by
    have h1 := (h.a x ((hmem x).2 (.inl hx))).2
    have h2 := (h.a y ((hmem y).2 (.inl hy))).2
    rw [e] at h1; omega
  have hget : ∀ i, i < N + 1 → (incs to (told T n)).getD i 0 = to.getD i 0 + (if (i : Int) ∈ ids (T.take k) then 1 else 0) := fun i hi => by
    have := incs_get hndx (fun x hx => by have := hpos x ((hmem x).2 (.inl hx)); omega) to i (by rw [h.lo]; exact hi)
    rw [hk] at this ⊢; exact this
  have hleft : ∀ y, y ∈ left N T n ↔ y ∈ T.drop k ∨ ∃ x ∈ T.take k, bump (lim N) x = some y := fun y => by
    rw [(left_perm N T n).mem_iff, List.mem_append, ← hk, List.mem_filterMap]
  have hin : ∀ i : Nat, (i : Int) ∈ ids (T.take k) → ∃ x ∈ T.take k, x.m.I = i := fun i hi => by
    obtain ⟨x, hx, e⟩ := List.mem_map.1 hi; exact ⟨x, hx, e⟩
  have hlim := lim_le h.ok.n2
  refine ⟨h.ok.left n, h.lb, by rw [incs_len]; exact h.lo, ?_, ?_, ?_⟩
  · intro y hy
    rcases (hleft y).1 hy with hy | ⟨x, hx, he⟩
    · have h1 := h.a y ((hmem y).2 (.inr hy))
      have h2 := hpos y ((hmem y).2 (.inr hy))
      have hno : ((y.m.I.toNat : Nat) : Int) ∉ ids (T.take k) := fun e => by
        obtain ⟨x, hx, hxi⟩ := hin _ e
        exact hsep x hx y hy (by omega)
      exact ⟨h1.1, by rw [hget _ (by omega), if_neg hno, h1.2]; rfl⟩
    · unfold bump at he
      split at he
      · cases he
        have h1 := h.a x ((hmem x).2 (.inl hx))
        have h2 := hpos x ((hmem x).2 (.inl hx))
        refine ⟨h1.1, ?_⟩
        show (incs to (told T n)).getD x.m.I.toNat 0 = x.t + 1
        rw [hget _ (by omega), if_pos (List.mem_map.2 ⟨x, hx, by omega⟩), h1.2]
      · cases he
  · intro i hi hni
    have hil := h.there hi
    rw [hget i hil]
    by_cases hT' : (i : Int) ∈ ids T
    · obtain ⟨x, hx, hxi⟩ := List.mem_map.1 hT'
      rcases (hmem x).1 hx with hx | hx
      · have h1 := h.a x ((hmem x).2 (.inl hx))
        have h2 := (h.ok.may x ((hmem x).2 (.inl hx))).2.2
        have e : x.m.I.toNat = i := by omega
        rw [e] at h1
        rw [if_pos (List.mem_map.2 ⟨x, hx, hxi⟩), h1.2]
        by_cases hb : x.t + 1 < lim N
        · exact absurd (List.mem_map.2 ⟨⟨x.m, x.t + 1⟩, (hleft _).2 (.inr ⟨x, hx, show bump (lim N) x = some ⟨x.m, x.t + 1⟩ from if_pos hb⟩), hxi⟩) hni
        · omega
      · exact absurd (List.mem_map.2 ⟨x, (hleft _).2 (.inl hx), hxi⟩) hni
    · have hno : (i : Int) ∉ ids (T.take k) := fun e => by
        obtain ⟨x, hx, hxi⟩ := hin _ e
        exact hT' (List.mem_map.2 ⟨x, (hmem x).2 (.inl hx), hxi⟩)
      rw [if_neg hno, h.b i hi hT']; rfl
  · obtain ⟨c, hc, hall⟩ := h.c
    by_cases hx0 : ∃ x ∈ T.take k, x.t = c + 1
    · obtain ⟨x0, hx0, he0⟩ := hx0
      have h02 := (h.ok.may x0 ((hmem x0).2 (.inl hx0))).2.2
      refine ⟨c + 1, by omega, fun i hi => ?_⟩
      have hil := h.there hi
      have h1 := hall i hi
      rw [hget i hil]
      by_cases hix : (i : Int) ∈ ids (T.take k)
      · rw [if_pos hix]; omega
      · rw [if_neg hix]
        by_cases hT' : (i : Int) ∈ ids T
        · obtain ⟨y, hy, hyi⟩ := List.mem_map.1 hT'
          have hyd : y ∈ T.drop k := by
            rcases (hmem y).1 hy with h2 | h2
            · exact absurd (List.mem_map.2 ⟨y, h2, hyi⟩) hix
            · exact h2
          have h2 := h.a y hy
          have e : y.m.I.toNat = i := by omega
          rw [e] at h2
          have hsrt := h.ok.srt
          rw [← hT, List.pairwise_append] at hsrt
          have h3 := hsrt.2.2 x0 hx0 y hyd
          unfold lt at h3
          omega
        · have h2 := h.b i hi hT'
          omega
    · refine ⟨c, hc, fun i hi => ?_⟩
      have hil := h.there hi
      have h1 := hall i hi
      rw [hget i hil]
      by_cases hix : (i : Int) ∈ ids (T.take k)
      · rw [if_pos hix]
        obtain ⟨x, hx, hxi⟩ := hin _ hix
        have h2 := h.a x ((hmem x).2 (.inl hx))
        have e : x.m.I.toNat = i := by omega
        rw [e] at h2
        have h3 : x.t ≠ c + 1 := fun e => hx0 ⟨x, hx, e⟩
        omega
      · rw [if_neg hix]; omega
/-- The words put so far: who is there. -/
structure Be (N : Nat) (tb : List Bool) (T : List Tl) : Prop where
  ok : OK N T
  lb : tb.length = N + 1
  a : ∀ x ∈ T, x.t = 0 ∧ x.m.S = 1 ∧ x.m.N = 0
  b : ∀ i, tb.getD i false = true ↔ (i : Int) ∈ ids T
theorem Be.nil {N : Nat} (h1 : 1 ≤ N) (h2 : N ≤ 64) : Be N (List.replicate (N + 1) false) [] := by
  refine ⟨OK.nil h1 h2, by simp, (by intro x hx; cases hx), fun i => ?_⟩
  rw [List.getD_eq_getElem?_getD, List.getElem?_replicate]
  split <;> simp
theorem Be.add {N : Nat} {tb : List Bool} {T : List Tl} (h : Be N tb T) {n : Nat} (h1 : 1 ≤ n) (h2 : n ≤ N) :
    (Gs.add N T ⟨n, 1, 0⟩).2 = (!tb.getD n false, 0) ∧ Be N (tb.set n true) (Gs.add N T ⟨n, 1, 0⟩).1 ∧ (Gs.add N T ⟨n, 1, 0⟩).1.length = T.length + (if tb.getD n false = true then 0 else 1) := by
  have hN := h.ok.n2
  have hmay : (⟨n, 1, 0⟩ : Mb).May ∧ (⟨n, 1, 0⟩ : Mb).I ≤ N := ⟨⟨⟨by show (1 : Int) ≤ n; omega, by show (n : Int) ≤ 64; omega⟩, ⟨by show (1 : Int) ≤ 1; decide, by show (1 : Int) ≤ 4; decide⟩, by show (0 : Int) ≤ 0; decide, by show (0 : Int) ≤ 2147483647; decide⟩, by show (n : Int) ≤ N; omega⟩
  have hset : ∀ i, (tb.set n true).getD i false = true ↔ (i = n ∨ tb.getD i false = true) := fun i => by
    rw [List.getD_eq_getElem?_getD, List.getElem?_set, List.getD_eq_getElem?_getD]
    by_cases hin : n = i
    · subst hin; rw [if_pos rfl, if_pos (by rw [h.lb]; omega)]; simp
    · rw [if_neg hin]
      exact ⟨fun e => .inr e, fun e => e.resolve_left fun e => hin e.symm⟩
  by_cases hat : at_ T (⟨n, 1, 0⟩ : Mb).I < T.length
  · have hh : (T[at_ T (⟨n, 1, 0⟩ : Mb).I]).m.I = (n : Int) := at_here hat
    have hx := h.a _ (List.getElem_mem hat)
    have hin : (n : Int) ∈ ids T := List.mem_map.2 ⟨_, List.getElem_mem hat, hh⟩
    have hno : ¬ (⟨n, 1, 0⟩ : Mb).Over (T[at_ T (⟨n, 1, 0⟩ : Mb).I]).m := fun e => by
      have := e.2
      unfold Mb.Up at this
      simp only [hx.2.1, hx.2.2] at this
      omega
    rw [add_not hmay hat hno]
    have hb := (h.b n).2 hin
    refine ⟨by rw [hb]; rfl, ⟨h.ok, by simpa using h.lb, h.a, fun i => ?_⟩, by rw [if_pos hb]; rfl⟩
    rw [hset, h.b i]
    exact ⟨fun e => e.elim (fun e => by rw [e]; exact hin) id, .inr⟩
  · have hni := at_none hat
    have hb : tb.getD n false = false := by
      cases hq : tb.getD n false with
      | false => rfl
      | true => exact absurd ((h.b n).1 hq) hni
    have hok := h.ok.add (⟨n, 1, 0⟩ : Mb)
    rw [add_new hmay hat] at hok ⊢
    refine ⟨by rw [hb]; rfl, ⟨hok, by simpa using h.lb, fun x hx => ?_, fun i => ?_⟩, by rw [hb]; simp [put_len]⟩
    · rcases put_mem.1 hx with rfl | hx
      · exact ⟨rfl, rfl, rfl⟩
      · exact h.a x hx
    · rw [hset, (put_ids T _).mem_iff, List.mem_cons, h.b i]
      constructor
      · rintro (e | e)
        · exact .inl (by rw [e])
        · exact .inr e
      · rintro (e | e)
        · exact .inl (by simp only at e; omega)
        · exact .inr e
theorem Be.ev {N : Nat} {tb : List Bool} {T : List Tl} (h : Be N tb T) : Ev N tb T (List.replicate (N + 1) 0) := by
  have hz : ∀ i, (List.replicate (N + 1) 0).getD i 0 = 0 := fun i => by
    rw [List.getD_eq_getElem?_getD, List.getElem?_replicate]; split <;> rfl
  refine ⟨h.ok, h.lb, by simp, fun x hx => ⟨?_, by rw [hz, (h.a x hx).1]⟩, fun i hi hn => absurd ((h.b i).1 hi) hn, ⟨0, by omega, fun i _ => by rw [hz]; omega⟩⟩
  have h1 := (h.ok.may x hx).1.1.1
  exact (h.b _).2 (List.mem_map.2 ⟨x, hx, by omega⟩)
end Gs
end Go.Proofs.Ytgohapbobbkaeaa
