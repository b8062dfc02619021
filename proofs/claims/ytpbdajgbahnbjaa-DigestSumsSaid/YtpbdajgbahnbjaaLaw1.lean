/-
  The law package's 'is' and 'awake': the digest of a text that is handed in, as a string, against another; the chapter's example is answered.
-/
import Derived.Test.YtpbdajgbahnbjaaTxtA
import Derived.Test.YtpbdajgbahnbjaaStr
import Derived.Test.YtpbdajgbahnbjaaOrdA
import Derived.Test.YtpbdajgbahnbjaaOrd2
namespace Go.Proofs.Ytpbdajgbahnbjaa
set_option linter.unusedSimpArgs false
set_option linter.unusedVariables false
open Go.RowKit Sha
set_option maxRecDepth 100000 in
set_option maxHeartbeats 2000000 in
theorem is_any (b want : ByteArray) (w : World) (hm : b.size ≤ maxLen) :
    Calls Try.prog 21 #[.string b, .string want] w fun e w' => e = .returned (.bool ((strOfNums (text (Sha.sum (nums b)))).toList == want.toList)) ∧ Below w.heap.size w w' := by
  go_enter Try.func21, Try.ntmps21
  go_wp2_with (first
    | (refine wpList_strbytes rfl 9 22 5 _ rfl _ rfl Try.underlying9 Try.underlying22 Try.underlying5 hm ?_; intro p cap w1 hA hn hc hcm hb1)
    | (go_at_call 10; refine (sum_len _ _ _ _ _ (nums_length b).symm (nums_bd b) hA hc hn (by unfold maxLen at hcm; omega)).mono ?_; rintro e w2 ⟨rfl, hb2⟩)
    | (go_at_call 15; refine (text_any _ _ (sum_length _) (sum_bd _)).mono ?_; rintro e w3 ⟨rfl, hb3⟩))
  go_ret
  exact ⟨rfl, (hb1.trans (hb2.mono hb1.size)).trans (hb3.mono (hb1.trans (hb2.mono hb1.size)).size)⟩
theorem strOfNums_nums (s : ByteArray) : strOfNums (nums s) = s := by
  apply ByteArray.ext
  apply Array.ext'
  rw [strOfNums_data]
  unfold nums
  rw [List.map_map]
  have : ((fun n : Int => UInt8.ofNat n.toNat) ∘ fun b : UInt8 => (b.toNat : Int)) = id := by funext b; simp
  rw [this, List.map_id]
theorem is_true (b want : ByteArray) (w : World) (hm : b.size ≤ maxLen) (hk : text (Sha.sum (nums b)) = nums want) :
    Calls Try.prog 21 #[.string b, .string want] w fun e w' => e = .returned (.bool true) ∧ Below w.heap.size w w' :=
  (is_any b want w hm).mono fun _ _ ⟨he, hb⟩ => ⟨by rw [he, hk, strOfNums_nums]; simp, hb⟩
theorem known_abc : text (Sha.sum (nums ⟨#[97, 98, 99]⟩)) = nums ⟨#[98, 97, 55, 56, 49, 54, 98, 102, 56, 102, 48, 49, 99, 102, 101, 97, 52, 49, 52, 49, 52, 48, 100, 101, 53, 100, 97, 101, 50, 50, 50, 51, 98, 48, 48, 51, 54, 49, 97, 51, 57, 54, 49, 55, 55, 97, 57, 99, 98, 52, 49, 48, 102, 102, 54, 49, 102, 50, 48, 48, 49, 53, 97, 100]⟩ := by decide +kernel
set_option maxRecDepth 100000 in
set_option maxHeartbeats 2000000 in
theorem awake_any (w : World) : Calls Try.prog 8 #[] w fun e w' => e = .returned (.bool true) ∧ Below w.heap.size w w' := by
  go_enter Try.func8, Try.ntmps8
  go_wp2_with (go_at_call 21; refine (is_true _ _ _ (by decide) known_abc).mono ?_; rintro e w1 ⟨rfl, hb1⟩)
  go_ret
  exact ⟨rfl, hb1⟩
theorem less_b (xs ys : List Int) (b : Bool) (w : World) (h : less xs ys = b) (hx : xs.length = 32) (hy : ys.length = 32) (hxz : ∀ n ∈ xs, 0 ≤ n ∧ n ≤ 255) (hyz : ∀ n ∈ ys, 0 ≤ n ∧ n ≤ 255) :
    Calls Try.prog 17 #[.agg (xs.map v8).toArray, .agg (ys.map v8).toArray] w fun e w' => e = .returned (.bool b) ∧ Below w.heap.size w w' :=
  (less_any xs ys w hx hy hxz hyz).mono fun _ _ ⟨he, hb⟩ => ⟨by rw [he, h], hb⟩
end Go.Proofs.Ytpbdajgbahnbjaa
