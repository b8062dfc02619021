/-
  The law package of fields: FieldAgain.
-/
import Derived.Test.YtgakmkglejddeaaFlaE
import Derived.Test.YtgakmkglejddeaaOwn
namespace Go.Proofs.Ytgakmkglejddeaa
set_option linter.unusedSimpArgs false
set_option linter.unusedVariables false
open Go.RowKit Sha
open Fld (Itm)
theorem take_less (s : List Int) (bs : List Int) (hb : ∀ n ∈ bs, 0 ≤ n ∧ n ≤ 255) (l : List Itm) (k : Nat) (h : Fld.get s bs = (l, 0, k)) (n : Nat) (hn : bs.length = n) (h0 : 0 < n) : (Fld.get s (bs.take (n - 1))).2.1 ≠ 0 := by
  subst hn
  have hne : bs ≠ [] := by intro e; rw [e] at h0; simp at h0
  have e : bs.take (bs.length - 1) ++ [bs.getLast hne] = bs := by rw [← List.dropLast_eq_take]; exact List.dropLast_concat_getLast hne
  rw [← e] at h
  rw [← e] at hb
  exact Fld.get_less hb h
set_option maxRecDepth 100000 in
set_option maxHeartbeats 600000 in
theorem again_any (s : ByteArray) (bs : List Int) (n : Nat) (p : Option Addr) (c : Nat) (x : Int) (w : World) (hs : s.size ≤ maxLen) (hl : bs.length = n) (hA : At w p (bs.map v8)) (hc : n ≤ c) (hm : c ≤ maxLen) (hp : p = none → c = 0) (hb : ∀ m ∈ bs, 0 ≤ m ∧ m ≤ 255) (hx : 0 ≤ x ∧ x ≤ 255) :
    Calls Try.prog 6 #[.string s, .slice p n c, .int .u8 x] w fun e w' => e = .returned (.bool true) ∧ Below w.heap.size w w' := by
  obtain ⟨⟨l, er, k⟩, hget⟩ : ∃ r, r = Fld.get (nums s) bs := ⟨_, rfl⟩
  have HG := Lib.hid hget
  have HA := Lib.hid hA
  have HL := Lib.hid hl
  have HB := Lib.hid hb
  have HN := Lib.hid hp
  have HM := Lib.hid hm
  have hm' : c ≤ 9223372036854775807 := by unfold maxLen at hm; omega
  clear hget hA hl hb hp hm
  go_enter Try.func6, Try.ntmps6
  go_wp2_with fail
  refine (awake_any _).mono ?_
  rintro e1 w1 ⟨rfl, hb1⟩
  have B1 := Lib.hid hb1
  clear hb1
  by_cases hbig : 100 < s.size
  · go_wp2_with fail
    go_ret
    exact ⟨rfl, B1.out⟩
  by_cases hbig2 : 600 < n
  · go_wp2_with fail
    go_ret
    exact ⟨rfl, B1.out⟩
  go_wp2_with fail
  refine (getF_any s hs bs p n c w1 HL.out HB.out (HA.out.below B1.out) hc hm' HN.out (by omega)).mono ?_
  rw [← HG.out]
  rintro e2 w2 ⟨q2, n2, c2, rfl, ht, hb2⟩
  have B2 := Lib.hid (fbelow_on B1.out hb2)
  have T2 := Lib.hid ht
  clear ht hb2
  dsimp only at T2 ⊢
  by_cases he : er = 0
  · subst he
    have GO := Lib.hid (Fld.get_ok HB.out HG.out.symm)
    have hn2 : n2 ≤ n := by have := GO.out.2.2.2; have := T2.out.len; have := HL.out; omega
    go_wp2_with fail
    refine (putF_any s hs l q2 n2 c2 _ T2.out.len (T2.out.below ((Below.refl _ _).alloc (Nat.le_refl _) _)).items T2.out.le T2.out.max T2.out.nil (by omega)).mono ?_
    rw [GO.out.1]
    rintro e3 w3 ⟨v, rfl, ho, hb3⟩
    obtain ⟨q3, c3, rfl, _, hA3, hle3, hmm3, hnil3⟩ := own_row ho.row
    dsimp only at hA3 hle3 ⊢
    rw [HL.out] at hle3 ⊢
    have B3 := Lib.hid (fbelow_alloc_on _ B2.out hb3)
    have A3 := Lib.hid hA3
    clear ho hb3 hA3 hnil3 hle3 hmm3
    go_wp2_with fail
    refine (same_true bs n n q3 p c3 c w3 HL.out HL.out A3.out (HA.out.below B3.out) HB.out).mono ?_
    rintro e4 w4 ⟨rfl, rfl⟩
    go_wp2_with fail
    refine (copy_any bs n p c w3 HL.out (HA.out.below B3.out) hc HN.out (by omega)).mono ?_
    rintro e5 w5 ⟨v5, rfl, ho5, hb5⟩
    have B5 := Lib.hid (fbelow_on B3.out hb5)
    have O5 := Lib.hid ho5
    have S5 := Lib.hid hb5.size
    clear hb5 ho5 A3
    go_wp2_with (at_builtin; refine wpList_app rfl (.tmp 70) (.tmp 72) 26 rfl w3.heap.size 5 Try.underlying26 kbyte_info rfl v5 n _ rfl (O5.out.alloc _) _ 1 1 [v8 x] rfl ?_ rfl (fun h => by cases h) (by omega) (by simp [Value.oneCell']) (by omega) (by unfold maxLen; omega) (by have := S5.out; simp; omega) ?_; exact at_one _ _ _; intro v6 w6 hown6 _ hb6 _ _; obtain ⟨q6, c6, rfl, _, hA6, hle6, hmm6, hnil6⟩ := own_row hown6; have B6 := Lib.hid ((B5.out.alloc B5.out.size _).trans (hb6.mono B3.out.size)); have A6 := Lib.hid hA6; have N6 := Lib.hid hnil6; clear hown6 hb6 hA6 hnil6)
    have GM := Lib.hid (Fld.get_more x [] GO.out.2.1 GO.out.1)
    rw [HL.out] at GM
    have HBX := Lib.hid (show ∀ m ∈ bs ++ [x], 0 ≤ m ∧ m ≤ 255 from fun m hm => by
      rcases List.mem_append.1 hm with h | h
      · exact HB.out m h
      · rw [List.mem_singleton.1 h]; exact hx)
    refine (getF_any s hs (bs ++ [x]) q6 (n + 1) c6 w6 (by simp [HL.out]) HBX.out (by rw [List.map_append]; exact A6.out) hle6 hmm6 N6.out (by omega)).mono ?_
    rw [GM.out]
    rintro e7 w7 ⟨q7, n7, c7, rfl, ht7, hb7⟩
    have B7 := Lib.hid (fbelow_on B6.out hb7)
    clear ht7 hb7
    dsimp only
    by_cases h0 : n = 0
    · subst h0
      go_wp2_with fail
      go_ret
      exact ⟨rfl, B7.out.alloc B7.out.size _⟩
    · have TL := Lib.hid (take_less (nums s) bs HB.out l k HG.out.symm n HL.out (by omega))
      obtain ⟨⟨l8, er8, k8⟩, hget8⟩ : ∃ r, r = Fld.get (nums s) (bs.take (n - 1)) := ⟨_, rfl⟩
      rw [← hget8] at TL
      have HG8 := Lib.hid hget8
      have h8 : er8 ≠ 0 := TL.out
      have hne : (er8 == 0) = false := by rw [beq_eq_false_iff_ne]; exact h8
      have hn0 : ((n : Int) == 0) = false := by rw [beq_eq_false_iff_ne]; omega
      have hcut : ((n : Int) - 1).toNat = n - 1 := by omega
      clear hget8
      go_wp2_with fail
      refine (getF_any s hs (bs.take (n - 1)) p (n - 1) c _ (by rw [List.length_take, HL.out]; omega) (fun m hm => HB.out m (List.mem_of_mem_take hm)) ((take_at (HA.out.below B7.out) (n - 1)).below ((Below.refl _ _).alloc (Nat.le_refl _) _)) (by omega) hm' HN.out (by omega)).mono ?_
      rw [← HG8.out]
      rintro e9 w9 ⟨q9, n9, c9, rfl, ht9, hb9⟩
      have B9 := Lib.hid (fbelow_alloc_on _ B7.out hb9)
      clear ht9 hb9
      dsimp only
      go_wp2_with fail
      go_ret
      exact ⟨congrArg (fun b => Ending.returned (Value.bool b)) (show (er8 != 0) = true by simp [h8]), B9.out.alloc B9.out.size _⟩
  · have GE := Lib.hid (Fld.get_err (s := nums s) HB.out (by rw [← HG.out]; exact he))
    rw [← HG.out] at GE
    have hl0 : l = [] := GE.out.1
    have hk := GE.out.2
    rw [HL.out] at hk
    subst hl0
    obtain rfl : n2 = 0 := T2.out.len
    have hne : (er == 0) = false := by rw [beq_eq_false_iff_ne]; exact he
    dsimp only at hk
    clear T2 GE
    go_wp2_with fail
    go_ret
    exact ⟨rfl, B2.out.alloc B2.out.size _⟩
end Go.Proofs.Ytgakmkglejddeaa
