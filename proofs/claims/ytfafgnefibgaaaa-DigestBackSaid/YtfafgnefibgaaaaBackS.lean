/-
  The law package's DigestBack: a text that is an id's.
-/
import Derived.Test.YtfafgnefibgaaaaBack
namespace Go.Proofs.Ytfafgnefibgaaaa
set_option linter.unusedSimpArgs false
set_option linter.unusedVariables false
open Go.RowKit Go.Maps Sha
set_option maxRecDepth 100000 in
set_option maxHeartbeats 2000000 in
theorem back_some (xs : List Int) (s : ByteArray) (w : World) (hx : xs.length = 32) (bx : Bytes xs) (hm : s.size ≤ maxLen) (zs : List Int) (hs : ¬ 100 < s.size) (hg : getOf (nums s) = some zs) :
    Calls Try.prog 6 #[.agg (xs.map v8).toArray, .string s] w fun e w' => e = .returned (.bool true) ∧ Below w.heap.size w w' := by
  have hszx : (Try.prog.info? 26).map (fun i => i.size) = some (xs.map v8).toArray.size := by rw [size26]; simp [hx]
  have hsz0 : (zero32.map v8).toArray.size = (xs.map v8).toArray.size := by simp [zero32_length, hx]
  have HT := Lib.hid (get_of_text xs hx bx)
  have HTS := Lib.hid (text_size xs hx bx)
  have Hx := Lib.hid hx
  have Bx := Lib.hid bx
  have HM := Lib.hid hm
  clear hx bx hm
  have t1 : decide ((100 : Int) < (s.size : Int)) = false := by simp; omega
  have Hz := Lib.hid (getOf_length _ _ hg)
  have Bz := Lib.hid (getOf_bd _ _ hg)
  have HTZ := Lib.hid (text_of_get s zs hg)
  have hszz : (Try.prog.info? 26).map (fun i => i.size) = some (zs.map v8).toArray.size := by rw [size26]; simp [Hz.out]
  have hsz1 : (zero32.map v8).toArray.size = (zs.map v8).toArray.size := by simp [zero32_length, Hz.out]
  have HG := Lib.hid hg
  clear hg
  have hself : (s.toList == s.toList) = true := by simp
  go_enter Try.func6, Try.ntmps6
  go_wp2_with (first
    | (refine wpList_box_arr rfl 26 _ rfl _ rfl ?_)
    | (go_at_call 5; refine (known_any _).mono ?_; rintro e w1 ⟨rfl, hb1⟩; have B1 := Lib.hid ((Blk.new w (xs.map v8).toArray 26).on hb1); have Q1 := Lib.hid (below_on ((Below.refl _ w).alloc (Nat.le_refl _) (.cells (xs.map v8).toArray 26)) hb1))
    | (refine wpList_load_row rfl 26 (.tmp 2) rfl _ rfl _ _ _ _ B1.out (Try.underlying26) rfl hszx ?_)
    | (refine BigFrame.wpList_want rfl (fun K hK => wp_load_row 26 (.tmp 8) rfl _ rfl _ _ _ _ BY.out (Try.underlying26) rfl hszz (hK _ _ ?_)))
    | (go_at_call 15; refine (text_any zs wy Hz.out Bz.out).mono ?_; rintro e w5 ⟨rfl, hb5⟩; rw [HTZ.out])
    | (go_at_call 13; refine (get_some s zs wa HM.out HG.out).mono ?_; rintro e w4 ⟨rfl, hb4⟩; have Q4 := Lib.hid (below_on QA.out hb4))
    | (refine wpList_alloc_arr rfl 26 rfl _ info26 ?_)
    | (refine wpList_store_row rfl 26 (.tmp 8) (.tmp 42) rfl _ _ rfl rfl _ _ (Blk.new w4 _ _) hszz hsz1 (one8 _) ?_
       have QY := Lib.hid (below_on Q4.out (Below.setRow ((Below.refl w4.heap.size w4).alloc (Nat.le_refl _) (.cells (zero32.map v8).toArray 26)) (Nat.le_refl _) (zs.map v8).toArray))
       have BY := Lib.hid ((Blk.new w4 (zero32.map v8).toArray 26).row (zs.map v8))
       obtain ⟨wy, hwy⟩ : ∃ wy, wy = (w4.alloc (.cells (zero32.map v8).toArray 26)).setRow w4.heap.size (zs.map v8).toArray := ⟨_, rfl⟩
       rw [← hwy] at QY BY ⊢
       clear hwy)
    | (go_at_call 15; refine (text_any xs w1 Hx.out Bx.out).mono ?_; rintro e w2 ⟨rfl, hb2⟩)
    | (go_at_call 13; refine (get_some _ xs w2 HTS.out HT.out).mono ?_; rintro e w3 ⟨rfl, hb3⟩; have B3 := Lib.hid ((B1.out.on hb2).on hb3); have Q3 := Lib.hid (below_on (below_on Q1.out hb2) hb3))
    | (refine wpList_alloc_arr rfl 26 rfl _ info26 ?_)
    | (refine wpList_store_row rfl 26 (.tmp 6) (.tmp 15) rfl _ _ rfl rfl _ _ (Blk.new w3 _ _) hszx hsz0 (one8 _) ?_
       have QA := Lib.hid (below_on Q3.out (Below.setRow ((Below.refl w3.heap.size w3).alloc (Nat.le_refl _) (.cells (zero32.map v8).toArray 26)) (Nat.le_refl _) (xs.map v8).toArray))
       have BA := Lib.hid ((B3.out.old (.cells (zero32.map v8).toArray 26)).rowOther (xs.map v8).toArray (Nat.ne_of_lt B3.out.lt))
       have BB := Lib.hid ((Blk.new w3 (zero32.map v8).toArray 26).row (xs.map v8))
       obtain ⟨wa, hwa⟩ : ∃ wa, wa = (w3.alloc (.cells (zero32.map v8).toArray 26)).setRow w3.heap.size (xs.map v8).toArray := ⟨_, rfl⟩
       rw [← hwa] at QA BA BB ⊢
       clear hwa)
    | (refine BigFrame.wpList_want rfl (fun K hK => wp_load_row 26 (.tmp 6) rfl _ rfl _ _ _ _ BB.out (Try.underlying26) rfl hszx (hK _ _ ?_)))
    | (refine BigFrame.wpList_want rfl (fun K hK => wp_load_row 26 (.tmp 2) rfl _ rfl _ _ _ _ BA.out (Try.underlying26) rfl hszx (hK _ _ ?_)))
    | (refine BigFrame.wpList_want rfl (fun K hK => wp_neq_self 26 (.tmp 20) (.tmp 21) _ rfl 5 32 .u8 Try.underlying26 Try.underlying5 byte1 xs rfl rfl Hx.out (hK _ _ ?_)))
    | (refine BigFrame.wpList_want rfl (fun K hK => wp_eql_self 26 (.tmp 35) (.tmp 36) _ rfl 5 32 .u8 Try.underlying26 Try.underlying5 byte1 xs rfl rfl Hx.out (hK _ _ ?_))))
  go_ret
  exact ⟨rfl, below_on QY.out hb5⟩
end Go.Proofs.Ytfafgnefibgaaaa
