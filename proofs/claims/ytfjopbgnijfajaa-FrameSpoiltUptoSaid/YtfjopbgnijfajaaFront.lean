/-
  Bytes of the call's own as a block: what lies at its front, written over at one place; bytes turned by another.
-/
import Derived.Test.YtfjopbgnijfajaaOwn
import Derived.Test.YtfjopbgnijfajaaSha
namespace Go.Proofs.Ytfjopbgnijfajaa
set_option linter.unusedSimpArgs false
set_option linter.unusedVariables false
open Go.RowKit Sha
theorem bits_u8 (a b : Int) : 0 ≤ bits BinOp.xor IntKind.u8 a b ∧ bits BinOp.xor IntKind.u8 a b ≤ 255 := by
  have h : bits BinOp.xor IntKind.u8 a b = IntKind.u8.wrap ((BitVec.ofInt 8 a ^^^ BitVec.ofInt 8 b).toNat : Int) := rfl
  rw [h, IntKind.wrap_u8]; omega
theorem xor_ne8 (a b : Int) (ha : 0 ≤ a ∧ a ≤ 255) (hb : 0 ≤ b ∧ b ≤ 255) (h0 : b ≠ 0) : bits BinOp.xor IntKind.u8 a b ≠ a := by
  intro h
  have e : bits BinOp.xor IntKind.u8 a b = IntKind.u8.wrap ((BitVec.ofInt 8 a ^^^ BitVec.ofInt 8 b).toNat : Int) := rfl
  rw [e, IntKind.wrap_u8] at h
  have hlt := (BitVec.ofInt 8 a ^^^ BitVec.ofInt 8 b).isLt
  have h1 : (BitVec.ofInt 8 a).toNat = a.toNat := by simp [BitVec.toNat_ofInt]; omega
  have h2 : (BitVec.ofInt 8 b).toNat = b.toNat := by simp [BitVec.toNat_ofInt]; omega
  have h3 : BitVec.ofInt 8 a ^^^ BitVec.ofInt 8 b = BitVec.ofInt 8 a := BitVec.eq_of_toNat_eq (by rw [h1]; omega)
  have h4 := congrArg (BitVec.ofInt 8 a ^^^ ·) h3
  simp only [← BitVec.xor_assoc, BitVec.xor_self, BitVec.zero_xor] at h4
  rw [h4] at h2
  simp at h2
  omega
theorem own_blk {w : World} {B n : Nat} {e : TypeId} {v : Value} {xs : List Value} (h : w.ownsRow B e 1 v n xs) (hn : 0 < n) : ∃ g cap rest, v = .slice (some ⟨g, 0, none⟩) n cap ∧ B ≤ g ∧ n ≤ cap ∧ cap ≤ maxLen ∧ Blk w g (xs ++ rest) e := by
  obtain ⟨_, h⟩ := h
  rcases h with ⟨_, h0⟩ | ⟨g, cap, cur, hv, hg, hh, h1, h2, h3, h4⟩
  · omega
  · refine ⟨g, cap, cur.toList.drop n, hv, hg, h1, h2, ?_⟩
    rw [Nat.mul_one] at h4
    rw [← h4, List.take_append_drop]
    unfold Blk; simpa using hh
theorem Blk.at {w : World} {g : Nat} {xs rest : List Value} {t : TypeId} (h : Blk w g (xs ++ rest) t) : At w (some ⟨g, 0, none⟩) xs := by
  refine Or.inr ⟨g, 0, rfl, fun i v hi => ?_⟩
  rw [Nat.zero_add, h.cell]
  rw [List.getElem?_append_left]
  · exact hi
  · by_cases hl : i < xs.length
    · exact hl
    · rw [List.getElem?_eq_none (by omega)] at hi; cases hi
theorem Blk.front_set {w : World} {g : Nat} {ys : List Int} {rest : List Value} {t : TypeId} (h : Blk w g (ys.map v8 ++ rest) t) (i : Nat) (hi : i < ys.length) (x : Int) : Blk (w.setCell ⟨g, i, none⟩ (v8 x)) g ((ys.set i x).map v8 ++ rest) t := by
  have := h.set i (v8 x)
  rwa [List.set_append_left _ _ (by simpa using hi), ← List.map_set] at this
end Go.Proofs.Ytfjopbgnijfajaa
