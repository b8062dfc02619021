/-
  Plain mathematics of frames: records, their frames, joined, split. No program is named here.
  Words about nodes, as the chapter has them: which may be, which is over which, which is left of two, what a node answers.
-/
import Derived.Test.YteepaoklibflpaaR4
import Derived.Lib.Hide
namespace Go.Proofs.Yteepaoklibflpaa
section
set_option linter.unusedSimpArgs false
set_option linter.unusedVariables false
open Sha
namespace Frm
def Bytes (l : List Int) : Prop := ∀ n ∈ l, 0 ≤ n ∧ n ≤ 255
theorem Bytes.take {l : List Int} (h : Bytes l) (k : Nat) : Bytes (l.take k) := fun n hn => h n (List.mem_of_mem_take hn)
theorem Bytes.drop {l : List Int} (h : Bytes l) (k : Nat) : Bytes (l.drop k) := fun n hn => h n (List.mem_of_mem_drop hn)
theorem Bytes.append {a b : List Int} (ha : Bytes a) (hb : Bytes b) : Bytes (a ++ b) := fun n hn => by
  rcases List.mem_append.1 hn with h | h
  · exact ha n h
  · exact hb n h
/-! ### Four bytes -/
def le4 (n : Nat) : List Int := [((n % 256 : Nat) : Int), ((n / 256 % 256 : Nat) : Int), ((n / 65536 % 256 : Nat) : Int), ((n / 16777216 % 256 : Nat) : Int)]
theorem le4_length (n : Nat) : (le4 n).length = 4 := rfl
theorem le4_bytes (n : Nat) : Bytes (le4 n) := by
  unfold Bytes le4
  intro m hm
  simp only [List.mem_cons, List.not_mem_nil, or_false] at hm
  rcases hm with rfl | rfl | rfl | rfl <;> omega
theorem leN_le4 (n : Nat) (h : n < 4294967296) : Crc.leN (le4 n) = n := by
  unfold le4
  simp only [Crc.leN, Int.toNat_natCast]
  omega
theorem le4_leN (u : List Int) (h : Bytes u) (hl : u.length = 4) : le4 (Crc.leN u) = u := by
  refine Crc.leN_inj _ _ (by rw [le4_length, hl]) (le4_bytes _) h (leN_le4 _ ?_)
  have := Crc.leN_lt u h
  rw [hl] at this
  exact this
theorem le4_inj {m n : Nat} (hm : m < 4294967296) (hn : n < 4294967296) (h : le4 m = le4 n) : m = n := by
  rw [← leN_le4 m hm, h, leN_le4 n hn]
/-! ### Records and frames -/
def sumN (b : List Int) : Nat := (Crc.sum b).toNat
theorem sumN_lt (b : List Int) : sumN b < 4294967296 := (Crc.sum b).isLt
/-- What keeps bytes from being a record. -/
def bad (b : List Int) : Int := if b.length = 0 then 2 else if 4000 < b.length then 3 else 0
structure Rec (b : List Int) : Prop where
  one : 1 ≤ b.length
  most : b.length ≤ 4000
theorem bad_zero {b : List Int} (h : bad b = 0) : Rec b := by
  unfold bad at h
  split at h
  · simp at h
  · split at h
    · simp at h
    · exact ⟨by omega, by omega⟩
theorem Rec.bad {b : List Int} (h : Rec b) : bad b = 0 := by
  unfold Frm.bad
  rw [if_neg (by have := h.one; omega), if_neg (by have := h.most; omega)]
def fr (b : List Int) : List Int := le4 b.length ++ le4 (sumN b) ++ b
theorem fr_length (b : List Int) : (fr b).length = 8 + b.length := by unfold fr; simp [le4_length]; omega
theorem fr_bytes {b : List Int} (h : Bytes b) : Bytes (fr b) := ((le4_bytes _).append (le4_bytes _)).append h
def put (b : List Int) : List Int × Int := if bad b = 0 then (fr b, 0) else ([], bad b)
/-- The first error of some. -/
def joinE : List (List Int) → Int
  | [] => 0
  | b :: r => if bad b = 0 then joinE r else bad b
def frs (l : List (List Int)) : List Int := l.flatMap fr
def join (l : List (List Int)) : List Int × Int := if joinE l = 0 then (frs l, 0) else ([], joinE l)
theorem joinE_ok : ∀ {l : List (List Int)}, joinE l = 0 → ∀ b ∈ l, Rec b
  | [], _, b, hb => by simp at hb
  | c :: r, h, b, hb => by
    unfold joinE at h
    split at h
    · rename_i h0
      rcases List.mem_cons.1 hb with rfl | hb
      · exact bad_zero h0
      · exact joinE_ok h b hb
    · rename_i h0; exact absurd h h0
theorem joinE_zero : ∀ {l : List (List Int)}, (∀ b ∈ l, Rec b) → joinE l = 0
  | [], _ => rfl
  | c :: r, h => by
    unfold joinE
    rw [if_pos (h c (List.mem_cons_self ..)).bad]
    exact joinE_zero fun b hb => h b (List.mem_cons_of_mem _ hb)
theorem joinE_append (l : List (List Int)) (b : List Int) (h : joinE l = 0) : joinE (l ++ [b]) = bad b := by
  induction l with
  | nil => simp only [List.nil_append]; unfold joinE; split
           · rename_i h0; rw [h0]; rfl
           · rfl
  | cons c r ih =>
    unfold joinE at h
    rw [List.cons_append]
    unfold joinE
    split at h
    · rename_i h0; rw [if_pos h0]; exact ih h
    · rename_i h0; exact absurd h h0
theorem joinE_prefix (l r : List (List Int)) (b : List Int) (h : joinE l = 0) (hb : bad b ≠ 0) : joinE (l ++ b :: r) = bad b := by
  induction l with
  | nil => rw [List.nil_append]; unfold joinE; rw [if_neg hb]
  | cons c q ih =>
    unfold joinE at h
    rw [List.cons_append]
    unfold joinE
    split at h
    · rename_i h0; rw [if_pos h0]; exact ih h
    · rename_i h0; exact absurd h h0
theorem frs_nil : frs [] = [] := rfl
theorem frs_cons (b : List Int) (l : List (List Int)) : frs (b :: l) = fr b ++ frs l := List.flatMap_cons ..
theorem frs_append (l m : List (List Int)) : frs (l ++ m) = frs l ++ frs m := List.flatMap_append ..
theorem frs_bytes {l : List (List Int)} (h : ∀ b ∈ l, Bytes b) : Bytes (frs l) := by
  intro n hn
  obtain ⟨b, hb, hn⟩ := List.mem_flatMap.1 hn
  exact fr_bytes (h b hb) n hn
/-! ### Where a frame stands -/
def stands (bs : List Int) : List Int :=
  if bs.length < 8 then [] else
  if Crc.leN (bs.take 4) < 1 ∨ 4000 < Crc.leN (bs.take 4) ∨ bs.length < 8 + Crc.leN (bs.take 4) then [] else
  if sumN ((bs.drop 8).take (Crc.leN (bs.take 4))) = Crc.leN ((bs.drop 4).take 4) then (bs.drop 8).take (Crc.leN (bs.take 4)) else []
theorem stands_fr {b rest : List Int} (h : Rec b) : stands (fr b ++ rest) = b := by
  have h1 : (fr b ++ rest).take 4 = le4 b.length := by unfold fr; simp [le4]
  have h2 : ((fr b ++ rest).drop 4).take 4 = le4 (sumN b) := by unfold fr; simp [le4]
  have h3 : (fr b ++ rest).drop 8 = b ++ rest := by unfold fr; simp [le4]
  have hn := leN_le4 b.length (by have := h.most; omega)
  unfold stands
  rw [if_neg (by rw [List.length_append, fr_length]; omega), h1, hn, if_neg (by rw [List.length_append, fr_length]; have := h.one; have := h.most; omega), h2, h3, leN_le4 _ (sumN_lt _)]
  simp
theorem stands_length (bs : List Int) : stands bs ≠ [] → 8 + (stands bs).length ≤ bs.length ∧ Rec (stands bs) ∧ (Bytes bs → bs.take (8 + (stands bs).length) = fr (stands bs)) := by
  unfold stands
  split
  · intro h; exact absurd rfl h
  · rename_i h8
    split
    · intro h; exact absurd rfl h
    · rename_i hn
      split
      · rename_i hs
        intro _
        generalize hk : Crc.leN (bs.take 4) = k at *
        have hl : ((bs.drop 8).take k).length = k := by rw [List.length_take, List.length_drop]; omega
        refine ⟨by omega, ⟨by omega, by omega⟩, fun hb => ?_⟩
        unfold fr
        rw [hl, hs, ← hk, le4_leN _ (hb.take 4) (by rw [List.length_take]; omega), le4_leN _ ((hb.drop 4).take 4) (by rw [List.length_take, List.length_drop]; omega), hk]
        have e1 : bs = bs.take 4 ++ ((bs.drop 4).take 4 ++ bs.drop 8) := by
          rw [show bs.drop 8 = (bs.drop 4).drop 4 by rw [List.drop_drop], List.take_append_drop, List.take_append_drop]
        conv => lhs; rw [e1]
        rw [List.take_append, List.take_append, List.append_assoc]
        congr 1
        · rw [List.take_of_length_le (by rw [List.length_take]; omega)]
        congr 1
        · rw [List.take_of_length_le (by rw [List.length_take, List.length_drop, List.length_take]; omega)]
        · congr 1
          rw [List.length_take, List.length_take, List.length_drop]; omega
      · intro h; exact absurd rfl h
/-! ### Going through frames -/
def split (bs : List Int) : List (List Int) × Nat :=
  if h : stands bs = [] then ([], 0) else
    (stands bs :: (split (bs.drop (8 + (stands bs).length))).1, 8 + (stands bs).length + (split (bs.drop (8 + (stands bs).length))).2)
termination_by bs.length
decreasing_by all_goals (have := (stands_length bs h).1; rw [List.length_drop]; omega)
theorem split_none {bs : List Int} (h : stands bs = []) : split bs = ([], 0) := by rw [split, dif_pos h]
theorem split_some {bs : List Int} (h : stands bs ≠ []) : split bs = (stands bs :: (split (bs.drop (8 + (stands bs).length))).1, 8 + (stands bs).length + (split (bs.drop (8 + (stands bs).length))).2) := by
  rw [split, dif_neg h]
theorem split_frs : ∀ (l : List (List Int)) (rest : List Int), (∀ b ∈ l, Rec b) → split (frs l ++ rest) = (l ++ (split rest).1, (frs l).length + (split rest).2)
  | [], rest, _ => by rw [frs_nil]; simp
  | b :: l, rest, h => by
    have hb := h b (List.mem_cons_self ..)
    have hs : stands (frs (b :: l) ++ rest) = b := by rw [frs_cons, List.append_assoc]; exact stands_fr hb
    have hne : stands (frs (b :: l) ++ rest) ≠ [] := by rw [hs]; intro e; have := hb.one; rw [e] at this; simp at this
    rw [split_some hne, hs]
    have hd : (frs (b :: l) ++ rest).drop (8 + b.length) = frs l ++ rest := by
      rw [frs_cons, List.append_assoc, ← fr_length, List.drop_left]
    rw [hd, split_frs l rest fun c hc => h c (List.mem_cons_of_mem _ hc)]
    simp only [List.cons_append, Prod.mk.injEq, true_and]
    rw [frs_cons, List.length_append, fr_length]
    omega
/-- What is joined is split as it was. -/
theorem split_join {l : List (List Int)} (h : ∀ b ∈ l, Rec b) : split (frs l) = (l, (frs l).length) := by
  have := split_frs l [] h
  rw [List.append_nil] at this
  rw [this, split_none (by unfold stands; simp)]
  simp
/-- What is told of any bytes is joined as just these. -/
theorem split_sound : ∀ (n : Nat) (bs : List Int), bs.length ≤ n → Bytes bs → (∀ b ∈ (split bs).1, Rec b ∧ Bytes b) ∧ (split bs).2 ≤ bs.length ∧ frs (split bs).1 = bs.take (split bs).2
  | 0, bs, hn, hb => by
    have : bs = [] := List.eq_nil_of_length_eq_zero (by omega)
    subst this
    rw [split_none (by unfold stands; simp)]
    simp [frs_nil]
  | n + 1, bs, hn, hb => by
    by_cases h : stands bs = []
    · rw [split_none h]; simp [frs_nil]
    · obtain ⟨h1, h2, h3⟩ := stands_length bs h
      obtain ⟨i1, i2, i3⟩ := split_sound n (bs.drop (8 + (stands bs).length)) (by rw [List.length_drop]; omega) (hb.drop _)
      rw [split_some h]
      rw [List.length_drop] at i2
      refine ⟨fun b hb' => ?_, by simp only; omega, ?_⟩
      · rcases List.mem_cons.1 hb' with rfl | hb'
        · refine ⟨h2, fun m hm => hb m ?_⟩
          have : m ∈ fr (stands bs) := by unfold fr; simp [hm]
          rw [← h3 hb] at this
          exact List.mem_of_mem_take this
        · exact i1 b hb'
      · simp only
        rw [frs_cons, i3, ← h3 hb]
        exact List.take_add.symm
/-! ### Torn -/
theorem stands_torn {b : List Int} (h : Rec b) (k : Nat) (hk : k < 8 + b.length) : stands ((fr b).take k) = [] := by
  unfold stands
  have hl : ((fr b).take k).length = k := by rw [List.length_take, fr_length]; omega
  split
  · rfl
  · rename_i h8
    rw [hl] at h8
    have h1 : ((fr b).take k).take 4 = le4 b.length := by
      rw [List.take_take, show min 4 k = 4 by omega]; unfold fr; simp [le4]
    rw [h1, leN_le4 b.length (by have := h.most; omega), if_pos (Or.inr (Or.inr (by rw [hl]; omega)))]
/-- Cut anywhere: the whole ones are told, up to where the first one that is not begins. -/
theorem split_torn (l r : List (List Int)) (b : List Int) (k : Nat) (hl : ∀ c ∈ l, Rec c) (hb : Rec b) (hk : k < 8 + b.length) : split ((frs (l ++ b :: r)).take ((frs l).length + k)) = (l, (frs l).length) := by
  have e : (frs (l ++ b :: r)).take ((frs l).length + k) = frs l ++ (fr b).take k := by
    rw [frs_append, frs_cons, List.take_length_add_append, List.take_append_of_le_length (by rw [fr_length]; omega)]
  rw [e, split_frs l _ hl, split_none (stands_torn hb k hk)]
  simp
/-! ### Spoilt -/
theorem stands_spoilt {b rest : List Int} (h : Rec b) (hb : Bytes b) (k : Nat) (x : Int) (hx : 0 ≤ x ∧ x ≤ 255) (h4 : 4 ≤ k) (hk : k < 8 + b.length) (hne : (fr b)[k]? ≠ some x) : stands ((fr b).set k x ++ rest) = [] := by
  have hl : ((fr b).set k x).length = 8 + b.length := by rw [List.length_set, fr_length]
  have hn := leN_le4 b.length (by have := h.most; omega)
  have h1 : ((fr b).set k x ++ rest).take 4 = le4 b.length := by
    rw [List.take_append_of_le_length (by omega), List.take_set_of_le h4]
    unfold fr; simp [le4]
  unfold stands
  rw [if_neg (by rw [List.length_append, hl]; omega), h1, hn, if_neg (by rw [List.length_append, hl]; have := h.one; have := h.most; omega)]
  have e8 : ((fr b).set k x ++ rest).drop 8 = ((fr b).set k x).drop 8 ++ rest := List.drop_append_of_le_length (by omega)
  have e4 : (((fr b).set k x ++ rest).drop 4).take 4 = (((fr b).set k x).drop 4).take 4 := by
    rw [List.drop_append_of_le_length (by omega), List.take_append_of_le_length (by rw [List.length_drop]; omega)]
  have et : (((fr b).set k x).drop 8 ++ rest).take b.length = ((fr b).set k x).drop 8 := by
    rw [List.take_append_of_le_length (by rw [List.length_drop]; omega), List.take_of_length_le (by rw [List.length_drop]; omega)]
  rw [e8, e4, et, if_neg]
  by_cases h8 : k < 8
  · have f8 : ((fr b).set k x).drop 8 = b := by
      rw [List.drop_set_of_lt h8]; unfold fr; simp [le4]
    have f4 : (((fr b).set k x).drop 4).take 4 = (le4 (sumN b)).set (k - 4) x := by
      rw [List.drop_set]
      rw [if_neg (by omega)]
      have : (fr b).drop 4 = le4 (sumN b) ++ b := by unfold fr; simp [le4]
      rw [this, List.set_append_left _ _ (by rw [le4_length]; omega), List.take_append_of_le_length (by rw [List.length_set, le4_length]; omega), List.take_of_length_le (by rw [List.length_set, le4_length]; omega)]
    rw [f8, f4]
    intro e
    have hbs : Bytes ((le4 (sumN b)).set (k - 4) x) := fun n hn => by
      rcases List.mem_or_eq_of_mem_set hn with hn | rfl
      · exact le4_bytes _ n hn
      · exact hx
    have e2 : le4 (sumN b) = (le4 (sumN b)).set (k - 4) x := by
      conv => lhs; rw [e]
      exact le4_leN _ hbs (by rw [List.length_set, le4_length])
    refine hne ?_
    have hg : (fr b)[k]? = (le4 (sumN b))[k - 4]? := by
      unfold fr
      rw [List.getElem?_append_left (by simp [le4_length]; omega), List.getElem?_append_right (by rw [le4_length]; exact h4), le4_length]
    rw [hg, e2, List.getElem?_set_self (by rw [le4_length]; omega)]
  · have f4 : (((fr b).set k x).drop 4).take 4 = le4 (sumN b) := by
      rw [List.drop_set]
      rw [if_neg (by omega)]
      have : (fr b).drop 4 = le4 (sumN b) ++ b := by unfold fr; simp [le4]
      rw [this, List.set_append_right _ _ (by rw [le4_length]; omega), List.take_append_of_le_length (by rw [le4_length]; omega), List.take_of_length_le (by rw [le4_length]; omega)]
    have f8 : ((fr b).set k x).drop 8 = b.set (k - 8) x := by
      rw [List.drop_set]
      rw [if_neg (by omega)]
      have : (fr b).drop 8 = b := by unfold fr; simp [le4]
      rw [this]
    rw [f4, f8, leN_le4 _ (sumN_lt _)]
    intro e
    have hk8 : k - 8 < b.length := by omega
    have hset : b.set (k - 8) x = b.take (k - 8) ++ [x] ++ b.drop (k - 8 + 1) := by
      rw [List.set_eq_take_append_cons_drop, if_pos hk8]; simp
    have hself : b = b.take (k - 8) ++ [b[k - 8]] ++ b.drop (k - 8 + 1) := by
      simp [← List.drop_eq_getElem_cons hk8]
    have hs : Crc.sum (b.take (k - 8) ++ [x] ++ b.drop (k - 8 + 1)) = Crc.sum (b.take (k - 8) ++ [b[k - 8]] ++ b.drop (k - 8 + 1)) := by
      rw [← hset, ← hself]
      exact BitVec.eq_of_toNat_eq e
    have := Crc.sum_window _ [x] [b[k - 8]] _ rfl (by simp) (by simpa using hx) (by simpa using hb _ (List.getElem_mem hk8)) hs
    have hxe : x = b[k - 8] := by simpa using this
    refine hne ?_
    have hg : (fr b)[k]? = b[k - 8]? := by
      unfold fr
      rw [List.getElem?_append_right (by simp [le4_length]; omega)]
      congr 1
    rw [hg, List.getElem?_eq_getElem hk8, hxe]
/-- A byte of a record, or of its sum, turned: the records ahead are told, up to that one. -/
theorem split_spoilt (l r : List (List Int)) (b : List Int) (k : Nat) (x : Int) (hl : ∀ c ∈ l, Rec c) (hb : Rec b) (hby : Bytes b) (hx : 0 ≤ x ∧ x ≤ 255) (h4 : 4 ≤ k) (hk : k < 8 + b.length) (hne : (fr b)[k]? ≠ some x) :
    split ((frs (l ++ b :: r)).set ((frs l).length + k) x) = (l, (frs l).length) := by
  have e : (frs (l ++ b :: r)).set ((frs l).length + k) x = frs l ++ ((fr b).set k x ++ frs r) := by
    rw [frs_append, frs_cons, List.set_append_right _ _ (by omega), Nat.add_sub_cancel_left, List.set_append_left _ _ (by rw [fr_length]; omega)]
  rw [e, split_frs l _ hl, split_none (stands_spoilt hb hby k x hx h4 hk hne)]
  simp
end Frm
end
section
set_option linter.unusedSimpArgs false
set_option linter.unusedVariables false
/-- A word: a node's number, a status, an incarnation. -/
structure Mb where
  I : Int
  S : Int
  N : Int
theorem Mb.ext' {a b : Mb} (h1 : a.I = b.I) (h2 : a.S = b.S) (h3 : a.N = b.N) : a = b := by cases a; cases b; cases h1; cases h2; cases h3; rfl
instance : DecidableEq Mb := fun a b =>
  if h : a.I = b.I ∧ a.S = b.S ∧ a.N = b.N then isTrue (Mb.ext' h.1 h.2.1 h.2.2) else isFalse (fun e => h (by subst e; exact ⟨rfl, rfl, rfl⟩))
theorem Mb.eq_iff (a b : Mb) : a = b ↔ a.I = b.I ∧ a.S = b.S ∧ a.N = b.N := ⟨fun e => by subst e; exact ⟨rfl, rfl, rfl⟩, fun h => Mb.ext' h.1 h.2.1 h.2.2⟩
structure Mb.ok (m : Mb) : Prop where
  i : -9223372036854775808 ≤ m.I ∧ m.I ≤ 9223372036854775807
  s : -9223372036854775808 ≤ m.S ∧ m.S ≤ 9223372036854775807
  n : -9223372036854775808 ≤ m.N ∧ m.N ≤ 9223372036854775807
namespace Mb
def none : Mb := ⟨0, 0, 0⟩
theorem none_ok : none.ok := ⟨by decide, by decide, by decide⟩
def May (m : Mb) : Prop := (1 ≤ m.I ∧ m.I ≤ 64) ∧ (1 ≤ m.S ∧ m.S ≤ 4) ∧ 0 ≤ m.N ∧ m.N ≤ 2147483647
instance (m : Mb) : Decidable m.May := by unfold May; infer_instance
def err (m : Mb) : Int := if m.May then 0 else 2
def Both (a b : Mb) : Prop := a.May ∧ b.May ∧ a.I = b.I
instance (a b : Mb) : Decidable (Both a b) := by unfold Both; infer_instance
def berr (a b : Mb) : Int := if Both a b then 0 else 2
/-- Of two words about one node. -/
def Up (a b : Mb) : Prop := b.N < a.N ∨ a.N = b.N ∧ b.S < a.S
instance (a b : Mb) : Decidable (Up a b) := by unfold Up; infer_instance
def Over (a b : Mb) : Prop := Both a b ∧ Up a b
instance (a b : Mb) : Decidable (Over a b) := by unfold Over; infer_instance
def merge (a b : Mb) : Mb := if Both a b then (if Up a b then a else b) else none
def live (m : Mb) : Bool := decide (m.S = 1 ∨ m.S = 2)
/-- What a node is behind a word about itself, whether it is told, and why not. -/
def refute (me w : Mb) : Mb × Bool × Int :=
  if ¬ Both me w ∨ me.S ≠ 1 then (none, false, 2)
  else if w.S = 1 then (⟨me.I, me.S, if me.N < w.N then w.N else me.N⟩, false, 0)
  else if w.N < me.N then (me, false, 0)
  else if w.N = 2147483647 then (none, false, 5)
  else (⟨me.I, me.S, w.N + 1⟩, true, 0)
theorem Both.symm {a b : Mb} (h : a.Both b) : b.Both a := ⟨h.2.1, h.1, h.2.2.symm⟩
theorem up_not {a b : Mb} (h : a.Up b) : ¬ b.Up a := by unfold Up at *; omega
theorem up_trans {a b c : Mb} (h : a.Up b) (h2 : b.Up c) : a.Up c := by unfold Up at *; omega
theorem up_or {a b : Mb} (h : a.I = b.I) : a.Up b ∨ b.Up a ∨ a = b := by
  rw [eq_iff]; unfold Up; omega
theorem merge_left {a b : Mb} (h : a.Both b) (hn : ¬ b.Up a) : merge a b = a := by
  unfold merge
  rw [if_pos h]
  split
  · rfl
  · rcases up_or h.2.2 with x | x | x
    · contradiction
    · contradiction
    · exact x.symm
theorem May.ok {m : Mb} (h : m.May) : m.ok := by
  obtain ⟨h1, h2, h3⟩ := h
  exact ⟨by omega, by omega, by omega⟩
theorem merge_ok (a b : Mb) : (merge a b).ok := by
  unfold merge
  split
  · rename_i h
    split
    · exact h.1.ok
    · exact h.2.1.ok
  · exact none_ok
theorem refute_ok (a b : Mb) : (refute a b).1.ok := by
  unfold refute
  split
  · exact none_ok
  · rename_i h
    have hb : Both a b := Classical.byContradiction fun hn => h (Or.inl hn)
    have h1 := hb.1.ok
    have h2 := hb.2.1.ok
    have h3 : b.N ≤ 2147483647 := hb.2.1.2.2.2
    split
    · refine ⟨h1.i, h1.s, ?_⟩
      show -9223372036854775808 ≤ (if a.N < b.N then b.N else a.N) ∧ (if a.N < b.N then b.N else a.N) ≤ 9223372036854775807
      split
      · exact h2.n
      · exact h1.n
    · split
      · exact h1
      · split
        · exact none_ok
        · have := h2.n
          exact ⟨h1.i, h1.s, by show -9223372036854775808 ≤ b.N + 1 ∧ b.N + 1 ≤ 9223372036854775807; omega⟩
end Mb
end
end Go.Proofs.Yteepaoklibflpaa
