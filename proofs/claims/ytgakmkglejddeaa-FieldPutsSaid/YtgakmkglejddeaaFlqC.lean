/-
  The reference of fields: letter, number, group, fails, Check.
-/
import Derived.Test.YtgakmkglejddeaaFldD
import Derived.Test.YtgakmkglejddeaaFldC
import Derived.Test.YtgakmkglejddeaaFldW
namespace Go.Proofs.Ytgakmkglejddeaa
set_option linter.unusedSimpArgs false
set_option linter.unusedVariables false
open Go.RowKit Sha
open Fld (Itm)
set_option maxHeartbeats 400000 in
theorem letter_any (c : Int) (w : World) : Calls Try.prog 31 #[.int .u8 c] w fun e w' => e = .returned (.bool (decide (c = 110 ∨ c = 98 ∨ c = 100))) ∧ w = w' := by
  go_enter Try.func31, Try.ntmps31
  by_cases h1 : c = 110
  · subst h1
    go_wp2_with fail
    go_ret
    exact ⟨rfl, rfl⟩
  · have e1 : (c == 110) = false := by rw [beq_eq_false_iff_ne]; exact h1
    by_cases h2 : c = 98
    · subst h2
      go_wp2_with fail
      go_ret
      exact ⟨rfl, rfl⟩
    · have e2 : (c == 98) = false := by rw [beq_eq_false_iff_ne]; exact h2
      by_cases h3 : c = 100
      · subst h3
        go_wp2_with fail
        go_ret
        exact ⟨rfl, rfl⟩
      · have e3 : (c == 100) = false := by rw [beq_eq_false_iff_ne]; exact h3
        have HD := Lib.hid (show decide (c = 110 ∨ c = 98 ∨ c = 100) = false by simp [h1, h2, h3])
        clear h1 h2 h3
        go_wp2_with fail
        go_ret
        exact ⟨congrArg (fun b => Ending.returned (Value.bool b)) HD.out.symm, rfl⟩
set_option maxRecDepth 100000 in
set_option maxHeartbeats 1000000 in
theorem rnumber_any (n : Nat) (w : World) (hn : n ≤ 9223372036854775807) :
    Calls Try.prog 39 #[.int .i64 n] w fun e w' => ∃ v, e = .returned v ∧ w'.ownsRow w.heap.size 5 1 v (Fld.num n).length ((Fld.num n).map v8) ∧ Below w.heap.size w w' := by
  go_enter Try.func39, Try.ntmps39
  go_wp2_with fail
  go_loopw [0, 3] (fun i vv wr => ∃ (k : Nat) (cur : List Int) (v : Value), i = .int .i64 k ∧ v = vv ∧ k ≤ n ∧ Hid (cur ++ Fld.num k = Fld.num n) ∧ Hid (wr.ownsRow w.heap.size 5 1 v cur.length (cur.map v8)) ∧ Hid (Below w.heap.size w wr)) (fun i _ _ => (intOf i).toNat)
  case atStart => exact ⟨n, [], _, rfl, rfl, Nat.le_refl _, rfl, World.ownsRow_nil _ _ _ _, Below.refl _ _⟩
  case round =>
    obtain ⟨k, cur, v, rfl, rfl, hk, HE, HO, HB⟩ := hrel
    have hcl : cur.length ≤ 1000000009 := by
      have h1 := congrArg List.length HE.out
      have h2 := Fld.num_len n (by rw [show (128 : Nat) ^ 9 = 9223372036854775808 by decide]; omega)
      simp at h1; omega
    have s1 := HB.out.size
    by_cases hge : 128 ≤ k
    · have HN := Lib.hid (num_next (out := []) HE.out hge)
      go_wp2_with (at_builtin; refine wpList_app rfl (.tmp 6) (.tmp 11) 26 rfl w.heap.size 5 Try.underlying26 kbyte_info rfl v _ _ rfl (HO.out.alloc _) _ 1 1 [v8 ((k : Int) % 128 + 128)] rfl ?_ rfl (fun h => by cases h) (by omega) (by simp [Value.oneCell']) (by omega) (by unfold maxLen; omega) (by simp; omega) ?_; exact at_one _ _ _; intro v2 w2 hown2 hg2 hb2 hs2 _; have HO2 := Lib.hid hown2; have HB2 := Lib.hid ((HB.out.alloc s1 _).trans hb2); clear hown2 hg2 hb2)
      go_roundw
      case rel => exact ⟨k / 128, cur ++ [(k : Int) % 128 + 128], _, by go_num, rfl, by omega, Lib.hid (by have := HN.out; simpa using this), Lib.hid (by have := HO2.out; simpa using this), HB2⟩
      case measure => simp [intOf]; omega
    · have HN := Lib.hid (num_last (out := []) HE.out (by omega))
      go_wp2_with (at_builtin; refine wpList_app rfl (.tmp 15) (.tmp 18) 26 rfl w.heap.size 5 Try.underlying26 kbyte_info rfl v _ _ rfl (HO.out.alloc _) _ 1 1 [v8 ((k : Int))] rfl ?_ rfl (fun h => by cases h) (by omega) (by simp [Value.oneCell']) (by omega) (by unfold maxLen; omega) (by simp; omega) ?_; exact at_one _ _ _; intro v2 w2 hown2 hg2 hb2 hs2 _; have HO2 := Lib.hid hown2; have HB2 := Lib.hid ((HB.out.alloc s1 _).trans hb2); clear hown2 hg2 hb2)
      go_ret
      exact ⟨_, rfl, by have h := HO2.out; have e := HN.out; simp only [List.nil_append] at e; rw [← e]; simpa using h, HB2.out⟩
theorem run_letter (s : ByteArray) (k : Nat) (c : Int) (r : List Int) (h : (nums s).drop k = c :: r) (w : World) : (Instr.index 9 (.string s) (.int .i64 (k : Int))).run Try.prog w = .ok (.int .u8 c) w := by
  have hk : k < s.size := by
    rw [← nums_length]
    rcases Nat.lt_or_ge k (nums s).length with h1 | h1
    · exact h1
    · rw [List.drop_eq_nil_of_le h1] at h; cases h
  rw [run_index_string w 9 s .i64 (k : Int) Try.underlying9, dif_pos ⟨by omega, by omega⟩]
  have h2 : (nums s)[k]? = some c := by
    have := congrArg (·[0]?) h
    simpa using this
  unfold nums at h2
  rw [List.getElem?_map] at h2
  have h3 : k < s.data.toList.length := by simpa using hk
  rw [List.getElem?_eq_getElem h3] at h2
  simp at h2
  simp [← h2]
  rfl
theorem drop_mid {xs g : List Int} {y : Int} {r : List Int} (h : xs = g ++ y :: r) (k : Nat) (hk : k < g.length) : xs.drop k = g[k] :: (g.drop (k + 1) ++ y :: r) := by
  subst h
  rw [List.drop_append_of_le_length (by omega), List.drop_eq_getElem_cons hk]
  rfl
theorem drop_end {xs g : List Int} {y : Int} {r : List Int} (h : xs = g ++ y :: r) : xs.drop g.length = y :: r := by subst h; simp
set_option maxRecDepth 100000 in
set_option maxHeartbeats 400000 in
theorem group_any (t : ByteArray) (ht : t.size ≤ maxLen) (g r : List Int) (h : nums t = g ++ 41 :: r) (hg : ∀ c ∈ g, c ≠ 41) (w : World) :
    Calls Try.prog 28 #[.string t] w fun e w' => e = .returned (.string (t.extract 0 g.length)) ∧ w = w' := by
  have hl : g.length < t.size := by rw [← nums_length, h]; simp
  unfold maxLen at ht
  have H := Lib.hid h
  have HG := Lib.hid hg
  obtain ⟨n, hn⟩ : ∃ n, n = g.length := ⟨_, rfl⟩
  rw [← hn] at hl ⊢
  have HN := Lib.hid hn
  clear h hg hn
  go_enter Try.func28, Try.ntmps28
  go_wp2_with fail
  go_loopw [3] (fun i wr => ∃ (k : Nat), i = .int .i64 k ∧ k ≤ n ∧ w = wr) (fun i _ => n - (intOf i).toNat)
  case atStart => exact ⟨0, rfl, by omega, rfl⟩
  case round =>
    obtain ⟨k, rfl, hk, rfl⟩ := hrel
    by_cases hlt : k < n
    · have hkg : k < g.length := by rw [← HN.out]; exact hlt
      obtain ⟨c, hc⟩ : ∃ c, c = g[k] := ⟨_, rfl⟩
      have hb := run_letter t k c _ (by rw [hc]; exact drop_mid H.out k hkg)
      have hne : (c == 41) = false := by rw [beq_eq_false_iff_ne]; exact HG.out c (by rw [hc]; exact List.getElem_mem hkg)
      clear hc hkg
      go_wp2_with fail
      go_roundw
      case rel => exact ⟨k + 1, by go_num, by omega, by first | rfl | trivial⟩
      case measure => simp [intOf]; omega
    · obtain rfl : k = n := by omega
      have hb := run_letter t k 41 r (by have := drop_end H.out; rwa [← HN.out] at this)
      go_wp2_with fail
      go_ret
      exact ⟨rfl, rfl⟩
set_option maxRecDepth 100000 in
set_option maxHeartbeats 400000 in
theorem rfails_any (ga : Nat) (L K V : Value) (e er : Int) (w : World) (h : Blk w ga [L, K, V, .int .i64 e] 57) :
    Calls Try.prog 30 #[.pointer (some ⟨ga, 0, none⟩), .int .i64 er] w fun x w' => x = .returned (.tuple #[]) ∧ w' = if e = 0 then w.setCell ⟨ga, 3, none⟩ (.int .i64 er) else w := by
  have c3 : w.cell? ⟨ga, 3, none⟩ = some (.int .i64 e) := h.cell 3
  have f3 : w.frozen? ⟨ga, 3, none⟩ = false := h.free 3
  clear h
  by_cases he : e = 0
  · subst he
    go_enter Try.func30, Try.ntmps30
    go_wp2_with fail
    go_end0
    exact ⟨rfl, rfl⟩
  · have hne : (e == 0) = false := by rw [beq_eq_false_iff_ne]; exact he
    have HE := Lib.hid he
    clear he
    go_enter Try.func30, Try.ntmps30
    go_wp2_with fail
    go_end0
    exact ⟨rfl, by first | rfl | simp [HE.out]⟩
theorem letter_yes (c : Int) (hc : c = 110 ∨ c = 98 ∨ c = 100) (w : World) : Calls Try.prog 31 #[.int .u8 c] w fun e w' => e = .returned (.bool true) ∧ w = w' :=
  (letter_any c w).mono fun _ _ ⟨he, hw⟩ => ⟨by rw [he, decide_eq_true hc], hw⟩
theorem letter_no (c : Int) (hc : ¬ (c = 110 ∨ c = 98 ∨ c = 100)) (w : World) : Calls Try.prog 31 #[.int .u8 c] w fun e w' => e = .returned (.bool false) ∧ w = w' :=
  (letter_any c w).mono fun _ _ ⟨he, hw⟩ => ⟨by rw [he, decide_eq_false hc], hw⟩
theorem drop_some (s : ByteArray) (k : Nat) (h : k < s.size) : ∃ c, (nums s).drop k = c :: (nums s).drop (k + 1) := by
  have hl : k < (nums s).length := by rw [nums_length]; exact h
  exact ⟨(nums s)[k], List.drop_eq_getElem_cons hl⟩
set_option maxRecDepth 100000 in
set_option maxHeartbeats 2000000 in
theorem rcheck_any (s : ByteArray) (w : World) (hs : s.size ≤ maxLen) :
    Calls Try.prog 15 #[.string s] w fun e w' => e = .returned (.int .i64 (Fld.chkE (nums s))) ∧ w = w' := by
  unfold maxLen at hs
  by_cases hlt : 40 < s.size
  · have HR := Lib.hid (Fld.chkE_no (chk_gt s hlt))
    go_enter Try.func15, Try.ntmps15
    go_wp2_with fail
    go_ret
    exact ⟨ret_int HR.out.symm, rfl⟩
  · have HC := Lib.hid (chk_le s (by omega))
    go_enter Try.func15, Try.ntmps15
    go_wp2_with fail
    go_loopw [3, 4, 5] (fun o n i wr => ∃ (k m : Nat) (ob : Bool), k ≤ s.size ∧ i = .int .i64 k ∧ w = wr ∧ o = .bool ob ∧ n = .int .i64 m ∧ ChkRel s w ob m k) (fun _ _ i _ => s.size - (intOf i).toNat)
    case atStart => exact ⟨0, 0, false, by omega, rfl, rfl, rfl, rfl, by omega, by simp⟩
    case round =>
      obtain ⟨k, m, ob, hk, rfl, rfl, rfl, rfl, hr⟩ := hrel
      have hm := hr.le
      have HR := Lib.hid hr.chk
      clear hr
      by_cases hp : k < s.size
      · obtain ⟨c, hd⟩ := drop_some s k hp
        have hby := run_letter s k c _ hd
        have HD := Lib.hid hd
        clear hd
        by_cases hL : c = 110 ∨ c = 98 ∨ c = 100
        · have HN := Lib.hid (HR.out.trans (by rw [HD.out]; exact chkL_letter hL : _ = Fld.chkL ((nums s).drop (k + 1)) ob true))
          go_wp2_with (go_at_call 31; refine (letter_yes c hL w).mono ?_; rintro e w' ⟨rfl, rfl⟩)
          go_roundw
          case rel => exact ⟨k + 1, m + 1, ob, by omega, by go_num, by first | rfl | trivial, rfl, by go_num, by omega, by rw [HN.out]; simp⟩
          case measure => simp [intOf]; omega
        · by_cases h40 : c = 40
          · subst h40
            cases ob with
            | false =>
              have HN := Lib.hid (HR.out.trans (by rw [HD.out]; exact chkL_open : _ = Fld.chkL ((nums s).drop (k + 1)) true false))
              go_wp2_with (go_at_call 31; refine (letter_no 40 hL w).mono ?_; rintro e w' ⟨rfl, rfl⟩)
              go_roundw
              case rel => exact ⟨k + 1, 0, true, by omega, by go_num, by first | rfl | trivial, rfl, rfl, by omega, by rw [HN.out]; simp⟩
              case measure => simp [intOf]; omega
            | true =>
              have HE := Lib.hid (Fld.chkE_no (HC.out.trans (HR.out.trans (by rw [HD.out]; exact chkL_no (by omega) (by omega) (by omega) (by simp) (by simp)))))
              go_wp2_with (go_at_call 31; refine (letter_no 40 hL w).mono ?_; rintro e w' ⟨rfl, rfl⟩)
              go_ret
              exact ⟨ret_int HE.out.symm, rfl⟩
          · by_cases h41 : c = 41
            · subst h41
              clear h40
              cases ob with
              | false =>
                have HE := Lib.hid (Fld.chkE_no (HC.out.trans (HR.out.trans (by rw [HD.out]; exact chkL_no (by omega) (by omega) (by omega) (by simp) (by simp)))))
                go_wp2_with (go_at_call 31; refine (letter_no 41 hL w).mono ?_; rintro e w' ⟨rfl, rfl⟩)
                go_ret
                exact ⟨ret_int HE.out.symm, rfl⟩
              | true =>
                by_cases h0 : 0 < m
                · have HN := Lib.hid (HR.out.trans (by rw [HD.out, decide_eq_true h0]; exact chkL_close : _ = Fld.chkL ((nums s).drop (k + 1)) false true))
                  go_wp2_with (go_at_call 31; refine (letter_no 41 hL w).mono ?_; rintro e w' ⟨rfl, rfl⟩)
                  go_roundw
                  case rel => exact ⟨k + 1, m, false, by omega, by go_num, by first | rfl | trivial, rfl, rfl, by omega, by rw [HN.out, decide_eq_true h0]⟩
                  case measure => simp [intOf]; omega
                · have HE := Lib.hid (Fld.chkE_no (HC.out.trans (HR.out.trans (by rw [HD.out, decide_eq_false h0]; exact chkL_no (by omega) (by omega) (by omega) (by simp) (by simp)))))
                  go_wp2_with (go_at_call 31; refine (letter_no 41 hL w).mono ?_; rintro e w' ⟨rfl, rfl⟩)
                  go_ret
                  exact ⟨ret_int HE.out.symm, rfl⟩
            · have HE := Lib.hid (Fld.chkE_no (HC.out.trans (HR.out.trans (by rw [HD.out]; exact chkL_no (by omega) (by omega) (by omega) (by omega) (by omega)))))
              have t4 : (c == 40) = false := by rw [beq_eq_false_iff_ne]; omega
              have t5 : (c == 41) = false := by rw [beq_eq_false_iff_ne]; omega
              go_wp2_with (go_at_call 31; refine (letter_no c hL w).mono ?_; rintro e w' ⟨rfl, rfl⟩)
              go_ret
              exact ⟨ret_int HE.out.symm, rfl⟩
      · obtain rfl : k = s.size := by omega
        have HD := Lib.hid (show (nums s).drop s.size = [] by rw [← nums_length, List.drop_length])
        cases ob with
        | false =>
          have HE := Lib.hid (Fld.chkE_ok (HC.out.trans (HR.out.trans (by rw [HD.out]; rfl))))
          go_wp2_with fail
          go_ret
          exact ⟨ret_int HE.out.symm, rfl⟩
        | true =>
          have HE := Lib.hid (Fld.chkE_no (HC.out.trans (HR.out.trans (by rw [HD.out]; rfl))))
          go_wp2_with fail
          go_ret
          exact ⟨ret_int HE.out.symm, rfl⟩
end Go.Proofs.Ytgakmkglejddeaa
