/-
  The law package of fields: FieldPuts.
-/
import Derived.Test.YtgakmkglejddeaaFlqJ
import Derived.Test.YtgakmkglejddeaaFlaC
import Derived.Test.YtgakmkglejddeaaFld3
import Derived.Test.YtgakmkglejddeaaCopyI
namespace Go.Proofs.Ytgakmkglejddeaa
set_option linter.unusedSimpArgs false
set_option linter.unusedVariables false
open Go.RowKit Sha
open Fld (Itm)
theorem put_bytes {s : List Int} {l : List Itm} (hok : ∀ x ∈ l, x.ok) : ∀ n ∈ (Fld.put s l).1, 0 ≤ n ∧ n ≤ 255 := by
  obtain ⟨⟨b, er⟩, hr⟩ : ∃ r, r = Fld.put s l := ⟨_, rfl⟩
  rw [← hr]
  by_cases he : er = 0
  · subst he
    exact (Fld.put_walk hok hr.symm).2.1
  · have hbe : b = [] := by have := Fld.put_err (s := s) (l := l) (by rw [← hr]; exact he); rw [← hr] at this; exact this
    rw [hbe]
    simp
theorem own8_on {w w' : World} {B n : Nat} {v : Value} {xs : List Value} {e : TypeId} (h : Own8 w B e v n xs) (hb : Below w.heap.size w w') : Own8 w' B e v n xs :=
  own8_carry h fun i c fz hk hh => by rw [hb.block i (h.row.lt i hk).2]; exact hh
set_option maxRecDepth 100000 in
set_option maxHeartbeats 600000 in
theorem fputs_any (s : ByteArray) (l : List Itm) (n : Nat) (q : Option Addr) (c : Nat) (w : World) (hs : s.size ≤ maxLen) (h : Told w q n c l) :
    Calls Try.prog 3 #[.string s, .slice q n c] w fun e w' => e = .returned (.bool true) ∧ Below w.heap.size w w' := by
  obtain ⟨⟨b, er⟩, hput⟩ : ∃ r, r = Fld.put (nums s) l := ⟨_, rfl⟩
  have HT := Lib.hid h
  have HP := Lib.hid hput
  have HOK := Lib.hid h.items.ok
  have HBY := Lib.hid (put_bytes (s := nums s) h.items.ok)
  rw [← hput] at HBY
  clear h hput
  obtain ⟨m, hmm⟩ : ∃ m, m = b.length := ⟨_, rfl⟩
  have HM := Lib.hid hmm
  clear hmm
  go_enter Try.func3, Try.ntmps3
  by_cases hbig : 100 < s.size
  · go_wp2_with fail
    refine (awake_any _).mono ?_
    rintro e1 w1 ⟨rfl, hb1⟩
    go_wp2_with fail
    go_ret
    exact ⟨rfl, hb1⟩
  · go_wp2_with fail
    refine (longItems_any q n c l w HT.out).mono ?_
    rintro e2 w2 ⟨bb, rfl, hf, rfl⟩
    cases bb with
    | true =>
      go_wp2_with fail
      refine (awake_any _).mono ?_
      rintro e1 w1 ⟨rfl, hb1⟩
      go_wp2_with fail
      go_ret
      exact ⟨rfl, hb1⟩
    | false =>
      have HF := Lib.hid (hf rfl)
      clear hf
      go_wp2_with fail
      refine (copyItems_any l q n c w HT.out (by have := HF.out.1; have := HT.out.len; omega) HF.out.2).mono ?_
      rintro e2 w2 ⟨q2, c2, rfl, ht2, hb2⟩
      have B2 := Lib.hid hb2
      have T2 := Lib.hid ht2
      clear hb2 ht2
      go_wp2_with fail
      refine (putF_any s hs l q2 n c2 w2 T2.out.len T2.out.items T2.out.le T2.out.max T2.out.nil (by have := HF.out.1; have := T2.out.len; omega)).mono ?_
      rw [← HP.out]
      rintro e3 w3 ⟨va, rfl, ho3, hb3⟩
      have O3 := Lib.hid ho3
      have B3 := Lib.hid (fbelow_on B2.out hb3)
      have C3 := Lib.hid hb3
      clear hb3 ho3
      go_wp2_with fail
      refine (rput_any s hs l q n c w3 (HT.out.below B3.out) (by have := HF.out.1; have := T2.out.len; omega)).mono ?_
      rw [← HP.out]
      rintro e4 w4 ⟨vb, rfl, ho4, hb4⟩
      have O4 := Lib.hid (own8_on O3.out hb4)
      have B4 := Lib.hid (fbelow_on B3.out hb4)
      have C4 := Lib.hid (fbelow_on C3.out hb4)
      obtain ⟨pb, cb, rfl, _, hAb, hleb, hmb, hnilb⟩ := own_row ho4.row
      obtain ⟨pa, ca, rfl, _, hAa, hlea, hma, hnila⟩ := own_row O4.out.row
      clear hb4 ho4
      dsimp only at hAa hAb hlea hleb HBY O4 ⊢
      go_wp2_with fail
      refine (same_any b b b.length b.length pa pb ca cb w4 rfl rfl hAa hAb HBY.out HBY.out).mono ?_
      rintro e5 w5 ⟨rfl, rfl⟩
      rw [decide_eq_true (rfl : b = b)]
      obtain ⟨ce, hce⟩ : ∃ ce, ce = Fld.chkE (nums s) := ⟨_, rfl⟩
      have HCE := Lib.hid hce
      clear hce hAa hAb hnila hnilb hlea hleb
      go_wp2_with fail
      refine (check_any s w4 hs).mono ?_
      rw [← HCE.out]
      rintro e6 w6 ⟨rfl, hb6⟩
      have O6 := Lib.hid (own8_on O4.out hb6)
      have B6 := Lib.hid (fbelow_on B4.out hb6)
      have C6 := Lib.hid (fbelow_on C4.out hb6)
      clear hb6
      go_wp2_with fail
      refine (rcheck_any s w6 hs).mono ?_
      rw [← HCE.out]
      rintro e7 w7 ⟨rfl, rfl⟩
      go_wp2_with fail
      refine (over_any w2.heap.size _ b.length _ w6 O6.out).mono ?_
      rintro e8 w8 ⟨rfl, hb8⟩
      have T8 := Lib.hid (T2.out.below (C6.out.trans hb8))
      have B8 := Lib.hid (B6.out.trans (hb8.mono B2.out.size))
      clear hb8
      go_wp2_with fail
      refine (sameItems_any l l q2 q n n c2 c w8 T8.out (HT.out.below B8.out)).mono ?_
      rintro e9 w9 ⟨rfl, hb9⟩
      rw [decide_eq_true (rfl : l = l)]
      have B9 := Lib.hid (fbelow_on B8.out hb9)
      clear hb9
      go_wp2_with fail
      refine (awake_any _).mono ?_
      rintro e10 w10 ⟨rfl, hb10⟩
      go_wp2_with fail
      go_ret
      exact ⟨rfl, fbelow_on B9.out hb10⟩
end Go.Proofs.Ytgakmkglejddeaa
