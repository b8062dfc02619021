/-
  The law package of fields: FieldBack.
-/
import Derived.Test.YtgakmkglejddeaaFlaC
import Derived.Test.YtgakmkglejddeaaFld3
namespace Go.Proofs.Ytgakmkglejddeaa
set_option linter.unusedSimpArgs false
set_option linter.unusedVariables false
open Go.RowKit Sha
open Fld (Itm)
set_option maxRecDepth 100000 in
set_option maxHeartbeats 600000 in
theorem back_any (s : ByteArray) (l : List Itm) (n : Nat) (q : Option Addr) (c : Nat) (w : World) (hs : s.size ≤ maxLen) (h : Told w q n c l) :
    Calls Try.prog 5 #[.string s, .slice q n c] w fun e w' => e = .returned (.bool true) ∧ Below w.heap.size w w' := by
  obtain ⟨⟨b, er⟩, hput⟩ : ∃ r, r = Fld.put (nums s) l := ⟨_, rfl⟩
  have HT := Lib.hid h
  have HP := Lib.hid hput
  have HOK := Lib.hid h.items.ok
  clear h hput
  go_enter Try.func5, Try.ntmps5
  go_wp2_with fail
  refine (known_any _).mono ?_
  rintro e1 w1 ⟨rfl, hb1⟩
  have B1 := Lib.hid hb1
  clear hb1
  by_cases hbig : 100 < s.size
  · go_wp2_with fail
    go_ret
    exact ⟨rfl, B1.out⟩
  · go_wp2_with fail
    refine (longItems_any q n c l w1 (HT.out.below B1.out)).mono ?_
    rintro e2 w2 ⟨bb, rfl, hf, rfl⟩
    cases bb with
    | true =>
      go_wp2_with fail
      go_ret
      exact ⟨rfl, B1.out⟩
    | false =>
      have HF := Lib.hid (hf rfl).1
      clear hf
      go_wp2_with fail
      refine (putF_any s hs l q n c w1 HT.out.len (HT.out.below B1.out).items HT.out.le HT.out.max HT.out.nil (by have := HF.out; have := HT.out.len; omega)).mono ?_
      rw [← HP.out]
      rintro e3 w3 ⟨v, rfl, ho, hb3⟩
      obtain ⟨p1, c1, rfl, _, hA, hle, hm, hnil⟩ := own_row ho.row
      clear ho
      have B3 := Lib.hid (fbelow_on B1.out hb3)
      have A3 := Lib.hid hA
      have N3 := Lib.hid hnil
      clear hA hb3 hnil
      dsimp only at A3 hle ⊢
      by_cases he : er = 0
      · subst he
        have GP := Lib.hid (Fld.get_put HOK.out HP.out.symm)
        have PW := Lib.hid (Fld.put_walk HOK.out HP.out.symm)
        obtain ⟨m, hmm⟩ : ∃ m, m = b.length := ⟨_, rfl⟩
        rw [← hmm] at hle ⊢
        have HM := Lib.hid hmm
        clear hmm
        go_wp2_with fail
        refine (getF_any s hs b p1 m c1 w3 HM.out.symm PW.out.2.1 A3.out hle hm N3.out (by have := PW.out.2.2.1; have := HF.out; have := HM.out; omega)).mono ?_
        rw [GP.out]
        rintro e4 w4 ⟨q2, n2, c2, rfl, ht, hb4⟩
        have B4 := Lib.hid (fbelow_on B3.out hb4)
        have T4 := Lib.hid ht
        clear hb4 ht
        dsimp only
        go_wp2_with fail
        refine (sameItems_any l l q2 q n2 n c2 c _ (T4.out.below ((Below.refl _ _).alloc (Nat.le_refl _) _)) (HT.out.below (B4.out.alloc B4.out.size _))).mono ?_
        rintro e5 w5 ⟨rfl, hb5⟩
        rw [decide_eq_true (rfl : l = l)]
        go_wp2_with fail
        go_ret
        exact ⟨rfl, fbelow_alloc_on _ B4.out hb5⟩
      · have hbe : b = [] := by have := Fld.put_err (s := nums s) (l := l) (by rw [← HP.out]; exact he); rw [← HP.out] at this; exact this
        subst hbe
        have hne : (er == 0) = false := by rw [beq_eq_false_iff_ne]; exact he
        go_wp2_with fail
        go_ret
        exact ⟨rfl, B3.out⟩
end Go.Proofs.Ytgakmkglejddeaa
