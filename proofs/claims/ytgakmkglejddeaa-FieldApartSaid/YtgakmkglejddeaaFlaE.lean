/-
  The law package of fields: FieldApart.
-/
import Derived.Test.YtgakmkglejddeaaFlaC
import Derived.Test.YtgakmkglejddeaaFld3
import Derived.StillTailTactics
namespace Go.Proofs.Ytgakmkglejddeaa
set_option linter.unusedSimpArgs false
set_option linter.unusedVariables false
open Go.RowKit Sha
open Fld (Itm)
theorem take_at {w : World} {q : Option Addr} {xs : List Int} (h : At w q (xs.map v8)) (k : Nat) : At w q ((xs.take k).map v8) := by
  have e : xs.map v8 = (xs.take k).map v8 ++ (xs.drop k).map v8 := by rw [← List.map_append, List.take_append_drop]
  rw [e] at h
  exact h.front
set_option maxRecDepth 100000 in
set_option maxHeartbeats 600000 in
theorem apart_any (s : ByteArray) (l : List Itm) (n : Nat) (q : Option Addr) (c : Nat) (l2 : List Itm) (n2 : Nat) (q2 : Option Addr) (c2 : Nat) (w : World) (hs : s.size ≤ maxLen) (h : Told w q n c l) (h2 : Told w q2 n2 c2 l2) :
    Calls Try.prog 7 #[.string s, .slice q n c, .slice q2 n2 c2] w fun e w' => e = .returned (.bool true) ∧ Below w.heap.size w w' := by
  obtain ⟨⟨a, er⟩, hput⟩ : ∃ r, r = Fld.put (nums s) l := ⟨_, rfl⟩
  obtain ⟨⟨b, er2⟩, hput2⟩ : ∃ r, r = Fld.put (nums s) l2 := ⟨_, rfl⟩
  have HT := Lib.hid h
  have HP := Lib.hid hput
  have HOK := Lib.hid h.items.ok
  have HT2 := Lib.hid h2
  have HP2 := Lib.hid hput2
  have HOK2 := Lib.hid h2.items.ok
  clear h hput h2 hput2
  go_enter Try.func7, Try.ntmps7
  go_wp2_with fail
  refine (awake_any _).mono ?_
  rintro e1 w1 ⟨rfl, hb1⟩
  have B1 := Lib.hid hb1
  clear hb1
  by_cases hbig : 100 < s.size
  · go_wp2_with fail
    go_ret
    exact ⟨rfl, B1.out⟩
  · go_wp2_with fail
    refine (longItems_any q n c l w1 (HT.out.below B1.out)).mono ?_
    rintro e2 w2 ⟨bb, rfl, hf, rfl⟩
    cases bb with
    | true =>
      go_wp2_with fail
      go_ret
      exact ⟨rfl, B1.out⟩
    | false =>
      have HF := Lib.hid (hf rfl).1
      clear hf
      go_wp2_with fail
      refine (longItems_any q2 n2 c2 l2 w1 (HT2.out.below B1.out)).mono ?_
      rintro e2 w2 ⟨bb, rfl, hf, rfl⟩
      cases bb with
      | true =>
        go_wp2_with fail
        go_ret
        exact ⟨rfl, B1.out⟩
      | false =>
        have HF2 := Lib.hid (hf rfl).1
        clear hf
        go_wp2_with fail
        refine (putF_any s hs l q n c w1 HT.out.len (HT.out.below B1.out).items HT.out.le HT.out.max HT.out.nil (by have := HF.out; have := HT.out.len; omega)).mono ?_
        rw [← HP.out]
        rintro e3 w3 ⟨v, rfl, ho, hb3⟩
        obtain ⟨p1, c1, rfl, _, hA, hle, hm, hnil⟩ := own_row ho.row
        clear ho
        have B3 := Lib.hid (fbelow_on B1.out hb3)
        have A3 := Lib.hid hA
        have N3 := Lib.hid hnil
        clear hA hb3 hnil
        dsimp only at A3 hle ⊢
        obtain ⟨m1, hm1⟩ : ∃ m, m = a.length := ⟨_, rfl⟩
        rw [← hm1] at hle ⊢
        have HM1 := Lib.hid hm1
        clear hm1
        go_wp2_with fail
        refine (putF_any s hs l2 q2 n2 c2 w3 HT2.out.len (HT2.out.below B3.out).items HT2.out.le HT2.out.max HT2.out.nil (by have := HF2.out; have := HT2.out.len; omega)).mono ?_
        rw [← HP2.out]
        rintro e4 w4 ⟨v, rfl, ho, hb4⟩
        obtain ⟨p2, d2, rfl, _, hA, hle2, hmm2, hnil⟩ := own_row ho.row
        clear ho
        have B4 := Lib.hid (fbelow_on B3.out hb4)
        have A4 := Lib.hid hA
        have A34 := Lib.hid (A3.out.below hb4)
        have N4 := Lib.hid hnil
        clear hA hb4 hnil
        dsimp only at A4 hle2 ⊢
        obtain ⟨m2, hm2⟩ : ∃ m, m = b.length := ⟨_, rfl⟩
        rw [← hm2] at hle2 ⊢
        have HM2 := Lib.hid hm2
        clear hm2
        by_cases he : er = 0
        · by_cases he2 : er2 = 0
          · subst he he2
            have PW := Lib.hid (Fld.put_walk HOK.out HP.out.symm)
            have PW2 := Lib.hid (Fld.put_walk HOK2.out HP2.out.symm)
            have HAP := Lib.hid (Fld.put_apart HOK.out HOK2.out HP.out.symm HP2.out.symm (min m1 m2) (by rw [HM1.out, HM2.out]))
            by_cases hlt : m2 < m1
            · rw [show min m1 m2 = m2 by omega] at HAP
              have HD := Lib.hid (show decide (a.take m2 = b.take m2) = decide (l = l2) from decide_eq_decide.2 HAP.out)
              have HBA := Lib.hid (fun n (hn : n ∈ a.take m2) => PW.out.2.1 n (List.mem_of_mem_take hn))
              have HBB := Lib.hid (fun n (hn : n ∈ b.take m2) => PW2.out.2.1 n (List.mem_of_mem_take hn))
              have HLA := Lib.hid (show (a.take m2).length = m2 by rw [List.length_take, ← HM1.out]; omega)
              have HLB := Lib.hid (show (b.take m2).length = m2 by rw [List.length_take, ← HM2.out]; omega)
              obtain ⟨bo, hbo⟩ : ∃ bo, bo = decide (l = l2) := ⟨_, rfl⟩
              rw [← hbo] at HD
              have HBO := Lib.hid hbo
              clear hbo HAP
              have hc1 : m2 ≤ c1 := by omega
              have hc2 : m2 ≤ d2 := by omega
              go_wp2_with fail
              have QB := (same_any (a.take m2) (b.take m2) m2 m2 p1 p2 c1 d2 w4.drew HLA.out HLB.out ((take_at A34.out m2).carry (fun _ _ h => h)) ((take_at A4.out m2).carry (fun _ _ h => h)) HBA.out HBB.out).mono (fun e w' h => show e = .returned (.bool bo) ∧ w' = w4.drew from ⟨by rw [h.1, HD.out], h.2.symm⟩)
              refine wp_region_still_tail 11 (by kernel_rfl) (by kernel_rfl) ?_
              simp only [List.take_succ_cons, List.take_zero, List.drop_succ_cons, List.drop_zero]
              repeat still_step
              still_call QB
              repeat still_step
              refine wpStill_nil ?_
              change wpList _ _ _ _ _ w4.drew
              have B5 := Lib.hid (show Below w.heap.size w w4.drew from B4.out.drew)
              clear QB
              generalize w4.drew = w5 at *
              go_wp2_with fail
              refine (sameItems_any l l2 q q2 n n2 c c2 w5 (HT.out.below B5.out) (HT2.out.below B5.out)).mono ?_
              rw [← HBO.out]
              rintro e6 w6 ⟨rfl, hb6⟩
              go_wp2_with fail
              go_ret
              exact ⟨by simp, fbelow_on B5.out hb6⟩
            · rw [show min m1 m2 = m1 by omega] at HAP
              have HD := Lib.hid (show decide (a.take m1 = b.take m1) = decide (l = l2) from decide_eq_decide.2 HAP.out)
              have HBA := Lib.hid (fun n (hn : n ∈ a.take m1) => PW.out.2.1 n (List.mem_of_mem_take hn))
              have HBB := Lib.hid (fun n (hn : n ∈ b.take m1) => PW2.out.2.1 n (List.mem_of_mem_take hn))
              have HLA := Lib.hid (show (a.take m1).length = m1 by rw [List.length_take, ← HM1.out]; omega)
              have HLB := Lib.hid (show (b.take m1).length = m1 by rw [List.length_take, ← HM2.out]; omega)
              obtain ⟨bo, hbo⟩ : ∃ bo, bo = decide (l = l2) := ⟨_, rfl⟩
              rw [← hbo] at HD
              have HBO := Lib.hid hbo
              clear hbo HAP
              have hc1 : m1 ≤ c1 := by omega
              have hc2 : m1 ≤ d2 := by omega
              go_wp2_with fail
              have QB := (same_any (a.take m1) (b.take m1) m1 m1 p1 p2 c1 d2 w4.drew HLA.out HLB.out ((take_at A34.out m1).carry (fun _ _ h => h)) ((take_at A4.out m1).carry (fun _ _ h => h)) HBA.out HBB.out).mono (fun e w' h => show e = .returned (.bool bo) ∧ w' = w4.drew from ⟨by rw [h.1, HD.out], h.2.symm⟩)
              refine wp_region_still_tail 11 (by kernel_rfl) (by kernel_rfl) ?_
              simp only [List.take_succ_cons, List.take_zero, List.drop_succ_cons, List.drop_zero]
              repeat still_step
              still_call QB
              repeat still_step
              refine wpStill_nil ?_
              change wpList _ _ _ _ _ w4.drew
              have B5 := Lib.hid (show Below w.heap.size w w4.drew from B4.out.drew)
              clear QB
              generalize w4.drew = w5 at *
              go_wp2_with fail
              refine (sameItems_any l l2 q q2 n n2 c c2 w5 (HT.out.below B5.out) (HT2.out.below B5.out)).mono ?_
              rw [← HBO.out]
              rintro e6 w6 ⟨rfl, hb6⟩
              go_wp2_with fail
              go_ret
              exact ⟨by simp, fbelow_on B5.out hb6⟩
          · subst he
            have hne : (er2 == 0) = false := by rw [beq_eq_false_iff_ne]; exact he2
            go_wp2_with fail
            go_ret
            exact ⟨rfl, B4.out⟩
        · have hne : (er == 0) = false := by rw [beq_eq_false_iff_ne]; exact he
          go_wp2_with fail
          go_ret
          exact ⟨rfl, B4.out⟩
end Go.Proofs.Ytgakmkglejddeaa
