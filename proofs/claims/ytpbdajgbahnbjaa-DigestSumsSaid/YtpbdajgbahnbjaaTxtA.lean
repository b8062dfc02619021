/-
  The contract of Text.
-/
import Derived.Test.YtpbdajgbahnbjaaShaF
import Derived.Test.YtpbdajgbahnbjaaTxt
namespace Go.Proofs.Ytpbdajgbahnbjaa
set_option linter.unusedSimpArgs false
set_option linter.unusedVariables false
open Go.RowKit Sha
def digits16 : ByteArray := ⟨#[48, 49, 50, 51, 52, 53, 54, 55, 56, 57, 97, 98, 99, 100, 101, 102]⟩
theorem run_digit (n : Int) (h : 0 ≤ n ∧ n ≤ 15) (w : World) : (Instr.index 9 (.string ⟨#[48, 49, 50, 51, 52, 53, 54, 55, 56, 57, 97, 98, 99, 100, 101, 102]⟩) (.int .u8 n)).run Try.prog w = .ok (v8 (digit n)) w := by
  have a0 : ∀ w, (Instr.index 9 (.string ⟨#[48, 49, 50, 51, 52, 53, 54, 55, 56, 57, 97, 98, 99, 100, 101, 102]⟩) (.int .u8 0)).run Try.prog w = .ok (v8 (digit 0)) w := fun _ => by kernel_rfl
  have a1 : ∀ w, (Instr.index 9 (.string ⟨#[48, 49, 50, 51, 52, 53, 54, 55, 56, 57, 97, 98, 99, 100, 101, 102]⟩) (.int .u8 1)).run Try.prog w = .ok (v8 (digit 1)) w := fun _ => by kernel_rfl
  have a2 : ∀ w, (Instr.index 9 (.string ⟨#[48, 49, 50, 51, 52, 53, 54, 55, 56, 57, 97, 98, 99, 100, 101, 102]⟩) (.int .u8 2)).run Try.prog w = .ok (v8 (digit 2)) w := fun _ => by kernel_rfl
  have a3 : ∀ w, (Instr.index 9 (.string ⟨#[48, 49, 50, 51, 52, 53, 54, 55, 56, 57, 97, 98, 99, 100, 101, 102]⟩) (.int .u8 3)).run Try.prog w = .ok (v8 (digit 3)) w := fun _ => by kernel_rfl
  have a4 : ∀ w, (Instr.index 9 (.string ⟨#[48, 49, 50, 51, 52, 53, 54, 55, 56, 57, 97, 98, 99, 100, 101, 102]⟩) (.int .u8 4)).run Try.prog w = .ok (v8 (digit 4)) w := fun _ => by kernel_rfl
  have a5 : ∀ w, (Instr.index 9 (.string ⟨#[48, 49, 50, 51, 52, 53, 54, 55, 56, 57, 97, 98, 99, 100, 101, 102]⟩) (.int .u8 5)).run Try.prog w = .ok (v8 (digit 5)) w := fun _ => by kernel_rfl
  have a6 : ∀ w, (Instr.index 9 (.string ⟨#[48, 49, 50, 51, 52, 53, 54, 55, 56, 57, 97, 98, 99, 100, 101, 102]⟩) (.int .u8 6)).run Try.prog w = .ok (v8 (digit 6)) w := fun _ => by kernel_rfl
  have a7 : ∀ w, (Instr.index 9 (.string ⟨#[48, 49, 50, 51, 52, 53, 54, 55, 56, 57, 97, 98, 99, 100, 101, 102]⟩) (.int .u8 7)).run Try.prog w = .ok (v8 (digit 7)) w := fun _ => by kernel_rfl
  have a8 : ∀ w, (Instr.index 9 (.string ⟨#[48, 49, 50, 51, 52, 53, 54, 55, 56, 57, 97, 98, 99, 100, 101, 102]⟩) (.int .u8 8)).run Try.prog w = .ok (v8 (digit 8)) w := fun _ => by kernel_rfl
  have a9 : ∀ w, (Instr.index 9 (.string ⟨#[48, 49, 50, 51, 52, 53, 54, 55, 56, 57, 97, 98, 99, 100, 101, 102]⟩) (.int .u8 9)).run Try.prog w = .ok (v8 (digit 9)) w := fun _ => by kernel_rfl
  have a10 : ∀ w, (Instr.index 9 (.string ⟨#[48, 49, 50, 51, 52, 53, 54, 55, 56, 57, 97, 98, 99, 100, 101, 102]⟩) (.int .u8 10)).run Try.prog w = .ok (v8 (digit 10)) w := fun _ => by kernel_rfl
  have a11 : ∀ w, (Instr.index 9 (.string ⟨#[48, 49, 50, 51, 52, 53, 54, 55, 56, 57, 97, 98, 99, 100, 101, 102]⟩) (.int .u8 11)).run Try.prog w = .ok (v8 (digit 11)) w := fun _ => by kernel_rfl
  have a12 : ∀ w, (Instr.index 9 (.string ⟨#[48, 49, 50, 51, 52, 53, 54, 55, 56, 57, 97, 98, 99, 100, 101, 102]⟩) (.int .u8 12)).run Try.prog w = .ok (v8 (digit 12)) w := fun _ => by kernel_rfl
  have a13 : ∀ w, (Instr.index 9 (.string ⟨#[48, 49, 50, 51, 52, 53, 54, 55, 56, 57, 97, 98, 99, 100, 101, 102]⟩) (.int .u8 13)).run Try.prog w = .ok (v8 (digit 13)) w := fun _ => by kernel_rfl
  have a14 : ∀ w, (Instr.index 9 (.string ⟨#[48, 49, 50, 51, 52, 53, 54, 55, 56, 57, 97, 98, 99, 100, 101, 102]⟩) (.int .u8 14)).run Try.prog w = .ok (v8 (digit 14)) w := fun _ => by kernel_rfl
  have a15 : ∀ w, (Instr.index 9 (.string ⟨#[48, 49, 50, 51, 52, 53, 54, 55, 56, 57, 97, 98, 99, 100, 101, 102]⟩) (.int .u8 15)).run Try.prog w = .ok (v8 (digit 15)) w := fun _ => by kernel_rfl
  have : n = 0 ∨ n = 1 ∨ n = 2 ∨ n = 3 ∨ n = 4 ∨ n = 5 ∨ n = 6 ∨ n = 7 ∨ n = 8 ∨ n = 9 ∨ n = 10 ∨ n = 11 ∨ n = 12 ∨ n = 13 ∨ n = 14 ∨ n = 15 := by omega
  rcases this with rfl | rfl | rfl | rfl | rfl | rfl | rfl | rfl | rfl | rfl | rfl | rfl | rfl | rfl | rfl | rfl
  · exact a0 w
  · exact a1 w
  · exact a2 w
  · exact a3 w
  · exact a4 w
  · exact a5 w
  · exact a6 w
  · exact a7 w
  · exact a8 w
  · exact a9 w
  · exact a10 w
  · exact a11 w
  · exact a12 w
  · exact a13 w
  · exact a14 w
  · exact a15 w
theorem u8_and15 (n : Int) (h : 0 ≤ n ∧ n ≤ 255) : bits .and .u8 n 15 = n % 16 := by
  obtain ⟨k, rfl⟩ := Int.eq_ofNat_of_zero_le h.1
  have : ∀ k : Fin 256, bits .and .u8 ((k.val : Nat) : Int) 15 = ((k.val : Nat) : Int) % 16 := by decide +kernel
  exact this ⟨k, by omega⟩
theorem info57 : (Try.prog.info? 57).map (fun i => i.zero) = some (some (.agg (zero64.map v8).toArray)) := by kernel_rfl
set_option maxRecDepth 100000 in
set_option maxHeartbeats 2000000 in
theorem text_any (zs : List Int) (w : World) (hl : zs.length = 32) (hz : ∀ n ∈ zs, 0 ≤ n ∧ n ≤ 255) :
    Calls Try.prog 15 #[.agg (zs.map v8).toArray] w fun e w' => e = .returned (.string (strOfNums (text zs))) ∧ Below w.heap.size w w' := by
  have hsz : (Try.prog.info? 26).map (fun i => i.size) = some (zs.map v8).toArray.size := by rw [size26]; simp [hl]
  have Hl := Lib.hid hl
  clear hl
  go_enter Try.func15, Try.ntmps15
  go_wp2_with (first
    | (refine wpList_box_arr rfl 26 _ rfl _ rfl ?_)
    | (refine wpList_alloc_arr rfl 57 rfl _ info57 ?_)
    | (refine wpList_load_row rfl 26 _ rfl _ rfl _ _ _ _ (Blk.old (Blk.new _ _ _) _) (Try.underlying26) rfl hsz ?_))
  have f1 := Blk.new (w.alloc (Obj.cells (zs.map v8).toArray 26)) (zero64.map v8).toArray 57
  have b2 := ((Below.refl w.heap.size w).alloc (by simp) (Obj.cells (zs.map v8).toArray 26)).alloc (by simp) (Obj.cells (zero64.map v8).toArray 57)
  generalize ((w.alloc (Obj.cells (zs.map v8).toArray 26)).alloc (Obj.cells (zero64.map v8).toArray 57)) = w2 at *
  simp only [World.size_alloc] at f1
  go_loopw [7] (fun i wr => ∃ k : Nat, k ≤ 32 ∧ i = .int .i64 k ∧ Below w.heap.size w wr ∧ Blk wr (w.heap.size + 1) ((textUpto zs k).map v8) 57) (fun i _ => 32 - (intOf i).toNat)
  case atStart => exact ⟨0, by omega, rfl, b2, by rw [textUpto_zero]; exact f1⟩
  case round =>
    clear b2 f1
    obtain ⟨k, hk, rfl, hb, h1⟩ := hrel
    have H1 := Lib.hid h1
    clear h1
    by_cases hlt : k < 32
    · obtain ⟨x, hx⟩ : ∃ x, x = zs.getD k 0 := ⟨_, rfl⟩
      have CX : Hid ((zs.map v8).toArray[(k : Int).toNat]? = some (v8 x)) := by show _ = _; simp [Hl.out, hlt, hx]
      have hxb : 0 ≤ x ∧ x ≤ 255 := hz x (by rw [hx]; simp [Hl.out, hlt])
      have d1 := fun w => run_digit (x / 16) (by omega) w
      have d2 := fun w => run_digit (x % 16) (by omega) w
      have e2 := u8_and15 x hxb
      have HX := Lib.hid hx
      clear hx
      go_wp2_with (first | (refine wpList_index_arr rfl 26 _ _ rfl _ rfl _ rfl 32 5 Try.underlying26 _ Try.underlying5 rfl byte1 (by omega) _ CX.out ?_))
      have c0 : wr.cell? ⟨w.heap.size + 1, 2 * k, none⟩ = some (v8 ((textUpto zs k).getD (2 * k) 0)) := by
        rw [H1.out.cell, List.getElem?_map, List.getElem?_eq_getElem (by rw [textUpto_length]; omega)]; simp [textUpto_length, show 2 * k < 64 by omega]
      have c1 : wr.cell? ⟨w.heap.size + 1, 2 * k + 1, none⟩ = some (v8 ((textUpto zs k).getD (2 * k + 1) 0)) := by
        rw [H1.out.cell, List.getElem?_map, List.getElem?_eq_getElem (by rw [textUpto_length]; omega)]; simp [textUpto_length, show 2 * k + 1 < 64 by omega]
      have f0 : wr.frozen? ⟨w.heap.size + 1, 2 * k, none⟩ = false := H1.out.free _
      have f1 : wr.frozen? ⟨w.heap.size + 1, 2 * k + 1, none⟩ = false := H1.out.free _
      go_region
      go_wp2_with fail
      go_roundw
      case rel =>
        refine ⟨k + 1, by omega, by go_num, ((hb.setCell (by simp) _).setCell (by simp) _).drew, ?_⟩
        rw [textUpto_succ zs k x HX.out]
        exact ((H1.out.set _ _).set _ _).drew
      case measure => simp [intOf]; omega
    · obtain rfl : k = 32 := by omega
      have hconv : ∀ w', Below w.heap.size w w' → True := fun _ _ => trivial
      have hcell : ∀ i, i < 64 → wr.cell? ⟨w.heap.size + 1, 0 + i, none⟩ = some (.int .u8 ((textUpto zs 32).getD i 0)) := by
        intro i hi
        rw [Nat.zero_add, H1.out.cell, List.getElem?_map, List.getElem?_eq_getElem (by rw [textUpto_length]; omega)]; simp [textUpto_length, hi]
      have HC := Lib.hid (run_convert_bytes_arg (P := Try.prog) wr 22 5 Try.underlying22 Try.underlying5 (w.heap.size + 1) 0 64 64 (textUpto zs 32) (textUpto_length zs 32) hcell 9 Try.underlying9)
      clear hcell hconv
      have hc := HC.out
      go_wp2_with fail
      go_ret
      exact ⟨congrArg (fun l => Ending.returned (Value.string (strOfNums l))) (text_eq zs).symm, hb⟩
end Go.Proofs.Ytpbdajgbahnbjaa
