/-
  Which texts are shapes: the contract of Check.
-/
import Derived.Test.YtgakmkglejddeaaFld
import Derived.Test.YtgakmkglejddeaaStr
import Derived.Test.YtgakmkglejddeaaSha
import Derived.Test.YtgakmkglejddeaaRows
import Derived.Lib.OthersKept
import Derived.Deep.LoopGhost
import Derived.WalkSpells
import Derived.IntWalk
import Derived.WalkLawsBesides
namespace Go.Proofs.Ytgakmkglejddeaa
set_option linter.unusedSimpArgs false
set_option linter.unusedVariables false
open Go.RowKit Sha
/-- The letters of a text, as numbers. -/
theorem nums_get (s : ByteArray) (k : Nat) (h : k < s.size) : (nums s)[k]? = some ((s[k]'h).toNat : Int) := by
  unfold nums
  rw [List.getElem?_map, Array.getElem?_toList, Array.getElem?_eq_getElem (by exact h)]
  rfl
theorem nums_drop (s : ByteArray) (k : Nat) (h : k < s.size) : (nums s).drop k = ((s[k]'h).toNat : Int) :: (nums s).drop (k + 1) := by
  have hl : k < (nums s).length := by rw [nums_length]; exact h
  have := nums_get s k h
  rw [List.getElem?_eq_getElem hl] at this
  rw [List.drop_eq_getElem_cons hl, Option.some.inj this]
theorem chkL_no {c : Int} {r : List Int} {o k : Bool} (h1 : c ≠ 110) (h2 : c ≠ 98) (h3 : c ≠ 100) (h4 : ¬ (c = 40 ∧ o = false)) (h5 : ¬ (c = 41 ∧ o = true ∧ k = true)) : Fld.chkL (c :: r) o k = false := by
  unfold Fld.chkL
  rw [if_neg (by omega), if_neg h4, if_neg h5]
/-- The next letter of a text: itself, or one from 128 on, which is none of a shape's. -/
structure NextL (P : Program) (s : ByteArray) (k k' : Nat) (c : Int) : Prop where
  run : ∀ (w : World) (g : Nat) (ty : TypeId), w.heap[g]? = some (.stringIter s k) → (Instr.next (.pointer (some ⟨g, 0, none⟩)) true ty).run P w = .ok (.tuple #[.bool true, .int .i64 k, .int .i32 c]) (w.iterAt g s k')
  lt : k < k'
  c0 : 0 ≤ c
  is : (c < 128 ∧ k' = k + 1 ∧ (nums s).drop k = c :: (nums s).drop (k + 1)) ∨ (128 ≤ c ∧ ∃ d, 128 ≤ d ∧ (nums s).drop k = d :: (nums s).drop (k + 1))
theorem next_of (P : Program) (s : ByteArray) (k : Nat) (h : k < s.size) : ∃ c k', NextL P s k k' c := by
  by_cases ha : (s[k]'h).toNat < 128
  · refine ⟨((s[k]'h).toNat : Int), k + 1, fun w g ty hg => Lib.run_next_ascii_at w g s k ty hg h ha, by omega, by omega, Or.inl ⟨by omega, rfl, nums_drop s k h⟩⟩
  · have hd := decode_high s k h (by omega)
    exact ⟨((Utf8.decode s k).1 : Int), k + (Utf8.decode s k).2, fun w g ty hg => Lib.run_next_any_at w g s k ty hg h, by omega, by omega, Or.inr ⟨by omega, _, by omega, nums_drop s k h⟩⟩
theorem chk_le (s : ByteArray) (h : s.size ≤ 40) : Fld.chk (nums s) = Fld.chkL (nums s) false false := by
  unfold Fld.chk; rw [nums_length]; simp; intro _; exact h
theorem chk_gt (s : ByteArray) (h : 40 < s.size) : Fld.chk (nums s) = false := by
  unfold Fld.chk; rw [nums_length]; simp; intro h'; omega
theorem chkL_letter {c : Int} {r : List Int} {o k : Bool} (h : c = 110 ∨ c = 98 ∨ c = 100) : Fld.chkL (c :: r) o k = Fld.chkL r o true := by
  rw [Fld.chkL, if_pos h]
theorem chkL_open {r : List Int} {k : Bool} : Fld.chkL (40 :: r) false k = Fld.chkL r true false := by
  rw [Fld.chkL, if_neg (by omega), if_pos ⟨rfl, rfl⟩]
theorem chkL_close {r : List Int} : Fld.chkL (41 :: r) true true = Fld.chkL r false true := by
  rw [Fld.chkL, if_neg (by omega), if_neg (by simp), if_pos ⟨rfl, rfl, rfl⟩]
/-- What the loop over a text knows. -/
structure ChkRel (s : ByteArray) (w : World) (ob : Bool) (m k : Nat) : Prop where
  le : m ≤ k
  chk : Fld.chkL (nums s) false false = Fld.chkL ((nums s).drop k) ob (decide (0 < m))
theorem iterPos_of' {w : World} {k : Nat} {s : ByteArray} {p : Nat} (h : w.heap[k]? = some (.stringIter s p)) : w.iterPos k = p := by simp [World.iterPos, h]
theorem iterPos_at {w : World} {k : Nat} {s : ByteArray} {p p' : Nat} (h : w.heap[k]? = some (.stringIter s p)) : (w.iterAt k s p').iterPos k = p' := iterPos_of' (Lib.iterAt_heap w k s p p' h)
set_option maxRecDepth 100000 in
set_option maxHeartbeats 2000000 in
theorem check_any (s : ByteArray) (w : World) (hs : s.size ≤ maxLen) :
    Calls Try.prog 14 #[.string s] w fun e w' => e = .returned (.int .i64 (Fld.chkE (nums s))) ∧ Below w.heap.size w w' := by
  unfold maxLen at hs
  by_cases hlt : 40 < s.size
  · have HR := Lib.hid (Fld.chkE_no (chk_gt s hlt))
    go_enter Try.func14, Try.ntmps14
    go_wp2_with fail
    go_ret
    exact ⟨ret_int HR.out.symm, Below.refl _ _⟩
  · have HC := Lib.hid (chk_le s (by omega))
    go_enter Try.func14, Try.ntmps14
    go_wp2_with fail
    go_loopw [3, 4] (fun o n wr => ∃ (k m : Nat) (ob : Bool), k ≤ s.size ∧ wr.heap[w.heap.size]? = some (.stringIter s k) ∧ Below w.heap.size w wr ∧ o = .bool ob ∧ n = .int .i64 m ∧ ChkRel s w ob m k) (fun _ _ wr => s.size - wr.iterPos w.heap.size)
    case atStart => exact ⟨0, 0, false, by omega, World.iter_heap w s 0, (Below.refl _ w).alloc (by simp) _, rfl, rfl, by omega, by simp⟩
    case round =>
      obtain ⟨k, m, ob, hk, hit, hb, rfl, rfl, hr⟩ := hrel
      have hm := hr.le
      have HR := Lib.hid hr.chk
      have HI := Lib.hid hit
      clear hr hit
      by_cases hp : k < s.size
      · obtain ⟨c, k', hn⟩ := next_of Try.prog s k hp
        have hlt' := hn.lt
        have c0 := hn.c0
        have hnx := fun ty => hn.run wr w.heap.size ty HI.out
        rcases hn.is with ⟨c1, rfl, hd⟩ | ⟨c1, d, hd1, hd⟩
        · clear hn
          have HD := Lib.hid hd
          clear hd
          by_cases hL : c = 110 ∨ c = 98 ∨ c = 100
          · have HN := Lib.hid (HR.out.trans (by rw [HD.out]; exact chkL_letter hL : _ = Fld.chkL ((nums s).drop (k + 1)) ob true))
            rcases hL with rfl | rfl | rfl
            all_goals
              go_wp2_with fail
              go_roundw
              case rel => exact ⟨k + 1, m + 1, ob, by omega, Lib.iterAt_heap _ _ _ _ _ HI.out, Lib.below_iterAt hb (Nat.le_refl _) _ _, rfl, by go_num, by omega, by rw [HN.out]; simp⟩
              case measure => rw [iterPos_at HI.out, iterPos_of' HI.out]; omega
          · by_cases h40 : c = 40
            · subst h40
              clear hL
              cases ob with
              | false =>
                have HN := Lib.hid (HR.out.trans (by rw [HD.out]; exact chkL_open : _ = Fld.chkL ((nums s).drop (k + 1)) true false))
                go_wp2_with fail
                go_roundw
                case rel => exact ⟨k + 1, 0, true, by omega, Lib.iterAt_heap _ _ _ _ _ HI.out, Lib.below_iterAt hb (Nat.le_refl _) _ _, rfl, rfl, by omega, by rw [HN.out]; simp⟩
                case measure => rw [iterPos_at HI.out, iterPos_of' HI.out]; omega
              | true =>
                have HE := Lib.hid (Fld.chkE_no (HC.out.trans (HR.out.trans (by rw [HD.out]; exact chkL_no (by omega) (by omega) (by omega) (by simp) (by simp)))))
                go_wp2_with fail
                go_ret
                exact ⟨ret_int HE.out.symm, Lib.below_iterAt hb (Nat.le_refl _) _ _⟩
            · by_cases h41 : c = 41
              · subst h41
                clear hL h40
                cases ob with
                | false =>
                  have HE := Lib.hid (Fld.chkE_no (HC.out.trans (HR.out.trans (by rw [HD.out]; exact chkL_no (by omega) (by omega) (by omega) (by simp) (by simp)))))
                  go_wp2_with fail
                  go_ret
                  exact ⟨ret_int HE.out.symm, Lib.below_iterAt hb (Nat.le_refl _) _ _⟩
                | true =>
                  by_cases h0 : 0 < m
                  · have HN := Lib.hid (HR.out.trans (by rw [HD.out, decide_eq_true h0]; exact chkL_close : _ = Fld.chkL ((nums s).drop (k + 1)) false true))
                    go_wp2_with fail
                    go_roundw
                    case rel => exact ⟨k + 1, m, false, by omega, Lib.iterAt_heap _ _ _ _ _ HI.out, Lib.below_iterAt hb (Nat.le_refl _) _ _, rfl, rfl, by omega, by rw [HN.out, decide_eq_true h0]⟩
                    case measure => rw [iterPos_at HI.out, iterPos_of' HI.out]; omega
                  · have HE := Lib.hid (Fld.chkE_no (HC.out.trans (HR.out.trans (by rw [HD.out, decide_eq_false h0]; exact chkL_no (by omega) (by omega) (by omega) (by simp) (by simp)))))
                    go_wp2_with fail
                    go_ret
                    exact ⟨ret_int HE.out.symm, Lib.below_iterAt hb (Nat.le_refl _) _ _⟩
              · have HE := Lib.hid (Fld.chkE_no (HC.out.trans (HR.out.trans (by rw [HD.out]; exact chkL_no (by omega) (by omega) (by omega) (by omega) (by omega)))))
                have t1 : (c == 110) = false := by rw [beq_eq_false_iff_ne]; omega
                have t2 : (c == 98) = false := by rw [beq_eq_false_iff_ne]; omega
                have t3 : (c == 100) = false := by rw [beq_eq_false_iff_ne]; omega
                have t4 : (c == 40) = false := by rw [beq_eq_false_iff_ne]; omega
                have t5 : (c == 41) = false := by rw [beq_eq_false_iff_ne]; omega
                clear hL h40 h41
                go_wp2_with fail
                go_ret
                exact ⟨ret_int HE.out.symm, Lib.below_iterAt hb (Nat.le_refl _) _ _⟩
        · clear hn
          have HE := Lib.hid (Fld.chkE_no (HC.out.trans (HR.out.trans (by rw [hd]; exact chkL_no (by omega) (by omega) (by omega) (by omega) (by omega)))))
          have t1 : (c == 110) = false := by rw [beq_eq_false_iff_ne]; omega
          have t2 : (c == 98) = false := by rw [beq_eq_false_iff_ne]; omega
          have t3 : (c == 100) = false := by rw [beq_eq_false_iff_ne]; omega
          have t4 : (c == 40) = false := by rw [beq_eq_false_iff_ne]; omega
          have t5 : (c == 41) = false := by rw [beq_eq_false_iff_ne]; omega
          clear hd hd1
          go_wp2_with fail
          go_ret
          exact ⟨ret_int HE.out.symm, Lib.below_iterAt hb (Nat.le_refl _) _ _⟩
      · obtain rfl : k = s.size := by omega
        have hnx := fun ty => Lib.run_next_end_at (P := Try.prog) wr w.heap.size s s.size ty HI.out (by omega)
        have HD := Lib.hid (show (nums s).drop s.size = [] by rw [← nums_length, List.drop_length])
        cases ob with
        | false =>
          have HE := Lib.hid (Fld.chkE_ok (HC.out.trans (HR.out.trans (by rw [HD.out]; rfl))))
          go_wp2_with fail
          go_ret
          exact ⟨ret_int HE.out.symm, hb⟩
        | true =>
          have HE := Lib.hid (Fld.chkE_no (HC.out.trans (HR.out.trans (by rw [HD.out]; rfl))))
          go_wp2_with fail
          go_ret
          exact ⟨ret_int HE.out.symm, hb⟩
end Go.Proofs.Ytgakmkglejddeaa
