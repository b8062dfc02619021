/-
  Texts in memory; the kit's comparison of lists of texts.
-/
import Derived.Test.YtnpageceaknofaaNums
namespace Go.Proofs.Ytnpageceaknofaa
set_option linter.unusedSimpArgs false
set_option linter.unusedVariables false
open Go.RowKit Sha
/-- Texts in memory. -/
structure GoodT (w : World) (xs : List ByteArray) (p : Option Addr) (cap : Nat) : Prop where
  at_ : At w p (xs.map Value.string)
  le : xs.length ≤ cap
  max : cap ≤ 9223372036854775807
  nil : p = none → cap = 0
theorem GoodT.below {w w' : World} {xs : List ByteArray} {p : Option Addr} {cap : Nat} (h : GoodT w xs p cap) (hb : Below w.heap.size w w') : GoodT w' xs p cap := ⟨h.at_.below hb, h.le, h.max, h.nil⟩
theorem GoodT.carry {w w' : World} {xs : List ByteArray} {p : Option Addr} {cap : Nat} (h : GoodT w xs p cap) (hc : ∀ p v, w.cell? p = some v → w'.cell? p = some v) : GoodT w' xs p cap := ⟨h.at_.carry hc, h.le, h.max, h.nil⟩
theorem text_eq (x y : ByteArray) : (x.toList == y.toList) = true ↔ x = y := by
  rw [beq_iff_eq, ByteArray.toList_eq, ByteArray.toList_eq]
  exact ⟨fun h => ByteArray.ext (Array.toList_inj.mp h), fun h => by rw [h]⟩
theorem text_ne (x y : ByteArray) : (x.toList == y.toList) = false ↔ x ≠ y := by rw [Ne, ← text_eq x y, Bool.not_eq_true]
theorem ttake_succ {xs ys : List ByteArray} {k : Nat} (hx : k < xs.length) (hy : k < ys.length) (h : xs.take k = ys.take k) : (xs.take (k + 1) = ys.take (k + 1)) ↔ xs[k] = ys[k] := by
  rw [List.take_succ_eq_append_getElem hx, List.take_succ_eq_append_getElem hy, h]
  exact ⟨fun e => by have := List.append_cancel_left e; simpa using this, fun e => by rw [e]⟩
def SameTDone (b : Bool) (w : World) (e : Ending) (w' : World) : Prop := e = .returned (.bool b) ∧ ∃ m, w' = w.drewN m
set_option maxRecDepth 100000 in
set_option maxHeartbeats 1000000 in
theorem sameT_any (xs ys : List ByteArray) (n m : Nat) (p q : Option Addr) (c d : Nat) (w : World) (hn : xs.length = n) (hm : ys.length = m) (hx : GoodT w xs p c) (hy : GoodT w ys q d) :
    Calls Try.prog 23 #[.slice p n c, .slice q m d] w (SameTDone (decide (xs = ys)) w) := by
  have GX := Lib.hid hx
  have GY := Lib.hid hy
  have HN := Lib.hid hn
  have HM := Lib.hid hm
  have b1 := hx.le
  have b2 := hx.max
  have b3 := hy.le
  have b4 := hy.max
  rw [hn] at b1
  rw [hm] at b3
  clear hx hy
  by_cases hnm : n = m
  · subst hnm
    clear hn hm
    go_enter Try.func23, Try.ntmps23
    go_wp2_with fail
    go_loopw [5, 6] (fun s i wr => ∃ (k j : Nat) (b : Bool), i = .int .i64 k ∧ s = .bool b ∧ k ≤ n ∧ Hid (wr = w.drewN j) ∧ Hid (b = decide (xs.take k = ys.take k)) ∧ Hid (b = false → xs ≠ ys)) (fun s i _ => (match s with | .bool true => 1 | _ => 0) + (n - (intOf i).toNat))
    case atStart => exact ⟨0, 0, true, rfl, rfl, by omega, Lib.hid rfl, Lib.hid (by simp), Lib.hid (fun h => by cases h)⟩
    case round =>
      obtain ⟨k, j, b, rfl, rfl, hk, HW, HB, HF⟩ := hrel
      cases b with
      | false =>
        have HR := Lib.hid (decide_eq_false (HF.out rfl))
        go_wp2_with fail
        go_ret
        exact ⟨by rw [HR.out]; rfl, j, HW.out⟩
      | true =>
        have ht : xs.take k = ys.take k := by have := HB.out; exact of_decide_eq_true this.symm
        by_cases hlt : k < n
        · have hkx : k < xs.length := by rw [HN.out]; exact hlt
          have hky : k < ys.length := by rw [HM.out]; exact hlt
          have HS := Lib.hid (ttake_succ hkx hky ht)
          obtain ⟨bx, ox, rfl, cx⟩ := GX.out.at_.addr (by rw [List.length_map]; omega)
          obtain ⟨by_, oy, rfl, cy⟩ := GY.out.at_.addr (by rw [List.length_map]; omega)
          have c1 : wr.cell? ⟨bx, ox + k, none⟩ = some (Value.string xs[k]) := by rw [HW.out]; exact cx k _ (by rw [List.getElem?_map, List.getElem?_eq_getElem hkx]; rfl)
          have c2 : wr.cell? ⟨by_, oy + k, none⟩ = some (Value.string ys[k]) := by rw [HW.out]; exact cy k _ (by rw [List.getElem?_map, List.getElem?_eq_getElem hky]; rfl)
          have HNE := Lib.hid (show xs[k] ≠ ys[k] → xs ≠ ys from fun h e => h (by simp [e]))
          generalize xs[k] = x at *
          generalize ys[k] = y at *
          clear ht hkx hky cx cy
          by_cases hxy : x = y
          · have HT := Lib.hid (HS.out.2 hxy)
            have hq : (x.toList == y.toList) = true := (text_eq x y).2 hxy
            clear hxy
            go_wp2_with fail
            go_quiet (fail)
            go_wp2_with fail
            go_roundw
            case rel => exact ⟨k + 1, j + nq, true, by go_num, rfl, by omega, Lib.hid (by rw [HW.out, World.drewN_drewN]), Lib.hid (by rw [decide_eq_true HT.out]), Lib.hid (fun h => by cases h)⟩
            case measure => simp [intOf]; omega
          · have HF2 := Lib.hid (HNE.out hxy)
            have HT := Lib.hid (show xs.take (k + 1) ≠ ys.take (k + 1) from fun e => hxy (HS.out.1 e))
            have hq : (x.toList == y.toList) = false := (text_ne x y).2 hxy
            clear hxy
            go_wp2_with fail
            go_quiet (fail)
            go_wp2_with fail
            go_roundw
            case rel => exact ⟨k + 1, j + nq, false, by go_num, rfl, by omega, Lib.hid (by rw [HW.out, World.drewN_drewN]), Lib.hid (by rw [decide_eq_false HT.out]), Lib.hid (fun _ => HF2.out)⟩
            case measure => simp [intOf]; omega
        · obtain rfl : k = n := by omega
          have HR : Hid (decide (xs = ys) = true) := by
            refine decide_eq_true ?_
            rwa [List.take_of_length_le (by rw [HN.out]; exact Nat.le_refl _), List.take_of_length_le (by rw [HM.out]; exact Nat.le_refl _)] at ht
          clear ht
          go_wp2_with fail
          go_ret
          exact ⟨by rw [HR.out]; rfl, j, HW.out⟩
  · have hq : ((n : Int) == (m : Int)) = false := by rw [beq_eq_false_iff_ne]; omega
    have HR := Lib.hid (show decide (xs = ys) = false from decide_eq_false fun e => hnm (by rw [← hn, ← hm, e]))
    clear hnm hn hm
    go_enter Try.func23, Try.ntmps23
    go_wp2_with fail
    go_loopw [5, 6] (fun s i wr => s = .bool false ∧ i = .int .i64 0 ∧ w = wr) (fun _ i _ => (intOf i).toNat)
    case atStart => exact ⟨rfl, rfl, rfl⟩
    case round =>
      obtain ⟨rfl, rfl, rfl⟩ := hrel
      go_wp2_with fail
      go_ret
      exact ⟨by rw [HR.out]; rfl, 0, rfl⟩
end Go.Proofs.Ytnpageceaknofaa
