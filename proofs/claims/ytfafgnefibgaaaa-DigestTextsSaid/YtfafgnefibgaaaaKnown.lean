/-
  The law package's DigestKnown: the chapter's examples.
-/
import Derived.Test.YtfafgnefibgaaaaGetA
import Derived.Lib.SlBytesConst
namespace Go.Proofs.Ytfafgnefibgaaaa
set_option linter.unusedSimpArgs false
set_option linter.unusedVariables false
open Go.RowKit Go.Maps Sha
theorem get_none (s : ByteArray) (w : World) (hm : s.size ≤ maxLen) (h : getOf (nums s) = none) :
    Calls Try.prog 13 #[.string s] w fun e w' => e = .returned (.tuple #[.agg (zero32.map v8).toArray, .int .i64 10]) ∧ Below w.heap.size w w' :=
  (get_any s w hm).mono fun _ _ ⟨he, hb⟩ => ⟨by rw [he, h]; rfl, hb⟩
theorem get_some (s : ByteArray) (zs : List Int) (w : World) (hm : s.size ≤ maxLen) (h : getOf (nums s) = some zs) :
    Calls Try.prog 13 #[.string s] w fun e w' => e = .returned (.tuple #[.agg (zs.map v8).toArray, .int .i64 0]) ∧ Below w.heap.size w w' :=
  (get_any s w hm).mono fun _ _ ⟨he, hb⟩ => ⟨by rw [he, h]; rfl, hb⟩
theorem get_abc : getOf (nums ⟨#[97, 98, 99]⟩) = none := by
  unfold getOf
  rw [if_neg]
  intro h
  have := h.1
  rw [nums_length] at this
  revert this
  decide
theorem known_long : text (Sha.sum (nums ⟨#[97, 98, 99, 100, 98, 99, 100, 101, 99, 100, 101, 102, 100, 101, 102, 103, 101, 102, 103, 104, 102, 103, 104, 105, 103, 104, 105, 106, 104, 105, 106, 107, 105, 106, 107, 108, 106, 107, 108, 109, 107, 108, 109, 110, 108, 109, 110, 111, 109, 110, 111, 112, 110, 111, 112, 113]⟩)) = nums ⟨#[50, 52, 56, 100, 54, 97, 54, 49, 100, 50, 48, 54, 51, 56, 98, 56, 101, 53, 99, 48, 50, 54, 57, 51, 48, 99, 51, 101, 54, 48, 51, 57, 97, 51, 51, 99, 101, 52, 53, 57, 54, 52, 102, 102, 50, 49, 54, 55, 102, 54, 101, 99, 101, 100, 100, 52, 49, 57, 100, 98, 48, 54, 99, 49]⟩ := by decide +kernel
theorem known_empty : text (Sha.sum (nums ⟨#[]⟩)) = nums ⟨#[101, 51, 98, 48, 99, 52, 52, 50, 57, 56, 102, 99, 49, 99, 49, 52, 57, 97, 102, 98, 102, 52, 99, 56, 57, 57, 54, 102, 98, 57, 50, 52, 50, 55, 97, 101, 52, 49, 101, 52, 54, 52, 57, 98, 57, 51, 52, 99, 97, 52, 57, 53, 57, 57, 49, 98, 55, 56, 53, 50, 98, 56, 53, 53]⟩ := by decide +kernel
theorem known_less : less (Sha.sum [97, 98, 99]) (Sha.sum []) = true := by decide +kernel
def five : List Int := zero32.set 7 5
theorem known_weigh : weigh five = 5 := by decide +kernel
theorem five_length : five.length = 32 := by unfold five; simp [zero32_length]
theorem five_row : (zero32.map v8).set 7 (v8 5) = five.map v8 := by unfold five; simp [List.map_set]
theorem five_bd : Bytes five := by unfold five zero32; intro n hn; rcases List.mem_or_eq_of_mem_set hn with h | h <;> simp_all
attribute [irreducible] five
theorem at_abc (w : World) (fr : Nat × Nat) : At (w.alloc (.cells #[.int .u8 97, .int .u8 98, .int .u8 99] 5 fr)) (some ⟨w.heap.size, 0, none⟩) ([97, 98, 99].map v8) := by
  refine Or.inr ⟨_, 0, rfl, fun i v hi => ?_⟩
  rw [Nat.zero_add, cell_of_row _ _ i _ 5 fr (heap_alloc_new w _)]
  simpa using hi
theorem Blk.on {w w' : World} {g : Nat} {cs : List Value} {t : TypeId} (h : Blk w g cs t) (hb : Below w.heap.size w w') : Blk w' g cs t := h.below hb h.lt
theorem below_on {w w' w'' : World} (h : Below w.heap.size w w') (h2 : Below w'.heap.size w' w'') : Below w.heap.size w w'' := h.trans (h2.mono h.size)
theorem five_on (wa w4 : World) (hb : Below (wa.alloc (.cells ((zero32.map v8).set 7 (v8 5)).toArray 26)).heap.size (wa.alloc (.cells ((zero32.map v8).set 7 (v8 5)).toArray 26)) w4) :
    Blk w4 wa.heap.size (five.map v8) 26 := by
  have h := (Blk.new wa ((zero32.map v8).set 7 (v8 5)).toArray 26).on hb
  rw [five_row] at h; exact h
set_option maxRecDepth 100000 in
set_option maxHeartbeats 400000 in
theorem known_any (w : World) : Calls Try.prog 5 #[] w fun e w' => e = .returned (.bool true) ∧ Below w.heap.size w w' := by
  have hszz : (Try.prog.info? 26).map (fun i => i.size) = some (zero32.map v8).toArray.size := by rw [size26]; simp [zero32_length]
  have cv := fun w C n c => Go.Lib.run_convert_bytes_const (P := Try.prog) w 22 5 C n c Try.underlying22 Try.underlying5
  have hsz5 : (Try.prog.info? 26).map (fun i => i.size) = some (five.map v8).toArray.size := by rw [size26]; simp [five_length]
  go_enter Try.func5, Try.ntmps5
  go_wp2_with (first
    | (refine wpList_alloc_arr (w := wa) rfl 26 rfl _ info26 ?_
       have c0 : (wa.alloc (.cells (zero32.map v8).toArray 26)).cell? ⟨wa.heap.size, 7, none⟩ = some (v8 0) := by rw [(Blk.new wa (zero32.map v8).toArray 26).cell]; unfold zero32; rfl
       have cf : (wa.alloc (.cells (zero32.map v8).toArray 26)).frozen? ⟨wa.heap.size, 7, none⟩ = false := (Blk.new wa (zero32.map v8).toArray 26).free _)
    | (refine wpList_alloc_arr rfl 26 rfl _ info26 ?_)
    | (go_at_call 13; refine (get_none _ _ (by decide) get_abc).mono ?_; rintro e w1 ⟨rfl, hb1⟩)
    | (refine wpList_store_row rfl 26 (.tmp 1) (.tmp 7) rfl _ _ rfl rfl _ _ (Blk.new w1 _ _) hszz rfl (one8 _) ?_
       have HA := Lib.hid (Below.setRow ((Below.refl w1.heap.size w1).alloc (Nat.le_refl _) (.cells (zero32.map v8).toArray 26)) (Nat.le_refl _) (zero32.map v8).toArray)
       obtain ⟨wa, hwa⟩ : ∃ wa, wa = (w1.alloc (.cells (zero32.map v8).toArray 26)).setRow w1.heap.size (zero32.map v8).toArray := ⟨_, rfl⟩
       rw [← hwa] at HA ⊢
       clear hwa)
    | (refine BigFrame.wpList_want rfl (fun K hK => wp_load_row 26 (.tmp 3) rfl _ rfl _ _ _ _ F9.out (Try.underlying26) rfl hsz5 (hK _ _ ?_)))
    | (go_at_call 19; refine (weigh_any five w9 five_length five_bd).mono ?_; rintro e w10 ⟨rfl, hb10⟩; rw [known_weigh])
    | (go_at_call 17; refine (less_b _ _ true w8 known_less (sum_length _) (sum_length _) (sum_bd _) (sum_bd _)).mono ?_; rintro e w9 ⟨rfl, hb9⟩; have F9 := Lib.hid ((((((F4.out.on hb5).on hb6).old _).on hb7).on hb8).on hb9))
    | (go_at_call 10; refine (sum_len [] none 0 0 w7 rfl (by simp) (At.nil _ _) (Nat.le_refl _) (fun _ => rfl) (by omega)).mono ?_; rintro e w8 ⟨rfl, hb8⟩)
    | (go_at_call 10; refine (sum_len [97, 98, 99] _ 3 3 (w6.alloc _) rfl (by decide) (at_abc w6 _) (by omega) (fun h => by cases h) (by omega)).mono ?_; rintro e w7 ⟨rfl, hb7⟩)
    | (go_at_call 21; refine (is_true _ _ w5 (by decide) known_empty).mono ?_; rintro e w6 ⟨rfl, hb6⟩)
    | (go_at_call 21; refine (is_true _ _ (wa.alloc _) (by decide) known_long).mono ?_; rintro e w4 ⟨rfl, hb4⟩; have F4 := Lib.hid (five_on wa w4 hb4))
    | (go_at_call 8; refine (awake_any w4).mono ?_; rintro e w5 ⟨rfl, hb5⟩))
  go_ret
  have q1 := below_on hb1 HA.out
  have q2 := below_on q1 ((Below.refl wa.heap.size wa).alloc (Nat.le_refl _) (Obj.cells ((zero32.map v8).set 7 (v8 5)).toArray 26))
  have q3 := below_on (below_on (below_on q2 hb4) hb5) hb6
  have q4 := below_on q3 ((Below.refl w6.heap.size w6).alloc (Nat.le_refl _) (Obj.cells #[.int .u8 97, .int .u8 98, .int .u8 99] 5 (3, 4)))
  exact ⟨rfl, below_on (below_on (below_on (below_on q4 hb7) hb8) hb9) hb10⟩
end Go.Proofs.Ytfafgnefibgaaaa
