/-
  Going through pieces by their heads' lengths: which come, what has come so far. No function of the program is named here.
-/
import Derived.Test.YtfjopbgnijfajaaFrW
import Derived.Test.YtfjopbgnijfajaaFrD
namespace Go.Proofs.Ytfjopbgnijfajaa
set_option linter.unusedSimpArgs false
set_option linter.unusedVariables false
open Go.RowKit Sha
/-- A head, and a record, as they come: good in the world in which the going began. -/
abbrev Piece := List Int × SHdr
abbrev Comes (w0 : World) := { y : Piece // y.1.length = 8 ∧ GoodS w0 y.2 ∧ 1 ≤ y.2.1.length ∧ y.2.1.length ≤ 4000 }
def encsP {w0 : World} (y : Comes w0) : Array Value := #[.agg (y.1.1.map v8).toArray, cellS y.1.2]
/-- What comes, one by one, from the bytes' beginning on, and where one stands behind it. -/
inductive Going (zs : List Int) : List Piece → Nat → Prop
  | nil : Going zs [] 0
  | snoc {pre : List Piece} {k : Nat} (y : Piece) (m : Nat) : Going zs pre k → m = Crc.leN ((zs.drop k).take 4) → 1 ≤ m → m ≤ 4000 → 8 + m ≤ (zs.drop k).length → y.1 = (zs.drop k).take 8 → y.2.1 = ((zs.drop k).drop 8).take m → Going zs (pre ++ [y]) (k + 8 + m)
theorem take8 (l : List Int) : l.take 8 = l.take 4 ++ (l.drop 4).take 4 := by
  conv => lhs; rw [show (8 : Nat) = 4 + 4 from rfl, List.take_add]
/-- Whether a frame stands there: its head is its record's. -/
theorem stands_hd (l : List Int) (hb : Frm.Bytes l) (m : Nat) (hm : m = Crc.leN (l.take 4)) (h1 : 1 ≤ m) (h4 : m ≤ 4000) (hl : 8 + m ≤ l.length) :
    Frm.stands l = if l.take 8 = hd ((l.drop 8).take m) then (l.drop 8).take m else [] := by
  rw [stands_in (by omega) hm (by omega)]
  have hrl : ((l.drop 8).take m).length = m := by rw [List.length_take, List.length_drop]; omega
  have e4 : Frm.le4 m = l.take 4 := by rw [hm]; exact Frm.le4_leN _ (hb.take 4) (by rw [List.length_take]; omega)
  have e8 : (l.take 8 = hd ((l.drop 8).take m)) ↔ (Frm.sumN ((l.drop 8).take m) = Crc.leN ((l.drop 4).take 4)) := by
    unfold hd
    rw [hrl, e4, take8]
    constructor
    · intro h
      have := List.append_cancel_left h
      rw [this, Frm.leN_le4 _ (Frm.sumN_lt _)]
    · intro h
      rw [h, Frm.le4_leN _ ((hb.drop 4).take 4) (by rw [List.length_take, List.length_drop]; omega)]
  by_cases h : Frm.sumN ((l.drop 8).take m) = Crc.leN ((l.drop 4).take 4)
  · rw [if_pos h, if_pos (e8.2 h)]
  · rw [if_neg h, if_neg fun e => h (e8.1 e)]
/-- How far one has come. -/
def farOf (pre : List Piece) : Nat := (pre.map fun y => 8 + y.2.1.length).sum
theorem farOf_snoc (pre : List Piece) (y : Piece) : farOf (pre ++ [y]) = farOf pre + (8 + y.2.1.length) := by simp [farOf]
theorem Going.far {zs : List Int} {pre : List Piece} {k : Nat} (h : Going zs pre k) : k = farOf pre := by
  induction h with
  | nil => rfl
  | @snoc pre k y m h1 h2 h3 h4 h5 h6 h7 ih =>
    have hl : y.2.1.length = m := by rw [h7, List.length_take, List.length_drop]; omega
    rw [farOf_snoc, hl, ← ih]; omega
theorem Going.le {zs : List Int} {pre : List Piece} {k : Nat} (h : Going zs pre k) : 9 * pre.length ≤ k ∧ k ≤ zs.length := by
  induction h with
  | nil => simp
  | @snoc pre k y m h1 h2 h3 h4 h5 h6 h7 ih =>
    rw [List.length_drop] at h5
    rw [List.length_append]
    simp; omega
theorem Going.split {zs : List Int} (hb : Frm.Bytes zs) {pre : List Piece} {k : Nat} (h : Going zs pre k) : (∀ y ∈ pre, y.1 = hd y.2.1) → Frm.split zs = (pre.map (·.2.1) ++ (Frm.split (zs.drop k)).1, k + (Frm.split (zs.drop k)).2) := by
  induction h with
  | nil => intro _; simp
  | @snoc pre k y m h1 h2 h3 h4 h5 h6 h7 ih =>
    intro hn
    have hy := hn y (by simp)
    have hl : y.2.1.length = m := by rw [h7, List.length_take, List.length_drop]; omega
    have hs : Frm.stands (zs.drop k) = y.2.1 := by
      rw [stands_hd _ (hb.drop k) m h2 h3 h4 h5, ← h7, ← h6, if_pos hy]
    have := split_go (ih fun z hz => hn z (by simp [hz])) (by rw [hs]; intro e; rw [e] at hl; simp at hl; omega)
    rw [hs, hl] at this
    rw [this]; simp
theorem Going.last {zs : List Int} (hb : Frm.Bytes zs) {pre : List Piece} {y : Piece} {k : Nat} (h : Going zs (pre ++ [y]) k) (hy : y.1 ≠ hd y.2.1) : ∃ k0, Going zs pre k0 ∧ Frm.stands (zs.drop k0) = [] := by
  generalize hq : pre ++ [y] = q at h
  cases h with
  | nil => simp at hq
  | @snoc p0 k0 z m h1 h2 h3 h4 h5 h6 h7 =>
    obtain ⟨rfl, e⟩ := List.append_inj' hq rfl
    cases e
    exact ⟨k0, h1, by rw [stands_hd _ (hb.drop k0) m h2 h3 h4 h5, ← h7, ← h6, if_neg hy]⟩
end Go.Proofs.Ytfjopbgnijfajaa
