/-
  What the program's bags of texts are asked to do; the law package's filled.
-/
import Derived.Test.YtnpageceaknofaaBgA
import Derived.Test.YtnpageceaknofaaTxts
namespace Go.Proofs.Ytnpageceaknofaa
set_option linter.unusedSimpArgs false
set_option linter.unusedVariables false
open Go.RowKit Sha Bag
def ownT (w : World) (B : Nat) (v : Value) (l : List ByteArray) : Prop := ∃ p c, v = .slice p l.length c ∧ GoodT w l p c ∧ ∀ a, p = some a → B ≤ a.block
structure TextBagOK (R : BagRep ByteArray) : Prop where
  ok : BagOK textK 39 28 25 42 R
  more : BagMore textK ownT 26 22 24 R
def FilledDone (R : BagRep ByteArray) (l : List ByteArray) (n : Nat) (w : World) (e : Ending) (w' : World) : Prop := ∃ b fp, e = .returned (optr b) ∧ Solo R w w' b fp (n, l)
set_option maxRecDepth 100000 in
set_option maxHeartbeats 1000000 in
theorem filled_any {R : BagRep ByteArray} (F : TextBagOK R) (l : List ByteArray) (n : Nat) (p : Option Addr) (cap : Nat) (w : World) (hn : l.length = n) (hl : GoodT w l p cap) (hm : n ≤ 200) :
    Calls Try.prog 21 #[.int .i64 n, .slice p n cap] w (FilledDone R l n w) := by
  have K := Lib.hid F.ok.held
  have GL := Lib.hid hl
  have HN := Lib.hid hn
  have hc1 := hl.le
  have hc2 := hl.max
  rw [hn] at hc1
  have HNX := Lib.hid (F.ok.new n w (by omega))
  have HZ := Lib.hid (newE_in (n := (n : Int)) (by omega))
  clear hl hn
  go_enter Try.func21, Try.ntmps21
  go_wp2_with fail
  refine HNX.out.mono ?_
  rintro e w1 ⟨hb1, ⟨_, b, fp, rfl, hr, hnew⟩ | ⟨hz, _⟩⟩
  · have S1 := Lib.hid (show Solo R w w1 b fp (n, []) from ⟨hr, hnew, hb1⟩)
    clear hb1 hr hnew HNX HZ
    go_wp2_with fail
    go_loopw [7] (fun i wr => ∃ (k : Nat) (fp : List Nat), i = .int .i64 k ∧ k ≤ n ∧ Hid (Solo R w wr b fp (n, l.take k))) (fun i _ => n - (intOf i).toNat)
    case atStart => exact ⟨0, fp, rfl, by omega, S1⟩
    case round =>
      clear S1
      obtain ⟨k, fp, rfl, hk, S⟩ := hrel
      by_cases hlt : k < n
      · have hkz : k < l.length := by rw [HN.out]; exact hlt
        obtain ⟨g, off, rfl, hcell⟩ := (GL.out.below S.out.below).at_.addr (by rw [List.length_map]; omega)
        have c1 : wr.cell? ⟨g, off + k, none⟩ = some (.string l[k]) := hcell k _ (by rw [List.getElem?_map, List.getElem?_eq_getElem hkz]; rfl)
        have HTK := Lib.hid (show l.take (k + 1) = l.take k ++ [l[k]] from List.take_succ_eq_append_getElem hkz)
        have hlen : (l.take k).length = k := by rw [List.length_take_of_le (by omega)]
        have HPX := Lib.hid (show Calls Try.prog 28 #[optr b, .string l[k]] wr (ODone R b fp (n, l.take (k + 1)) (v64 0) wr) from by
          have h1 := F.ok.put b fp n (l.take k) l[k] wr S.out.one trivial
          have h2 := put_room (l := l.take k) (x := l[k]) (m := n) (by rw [hlen]; exact hlt)
          rw [h2.1, h2.2, ← HTK.out] at h1
          exact h1)
        obtain ⟨x, hx⟩ : ∃ x, x = l[k] := ⟨_, rfl⟩
        rw [← hx] at c1 HPX
        clear hcell hkz hx hlen HTK
        go_wp2_with fail
        refine HPX.out.mono ?_
        rintro e w2 ⟨rfl, fp2, hr, ht, hf⟩
        have S2 := Lib.hid (S.out.step hr ht hf)
        clear hr ht hf S HPX
        go_wp2_with fail
        go_roundw
        case rel => exact ⟨k + 1, fp2, by go_num, by omega, S2⟩
        case measure => simp [intOf]; omega
      · obtain rfl : k = n := by omega
        have HT := Lib.hid (show l.take k = l from List.take_of_length_le (by rw [HN.out]; exact Nat.le_refl _))
        go_wp2_with fail
        go_ret
        refine ⟨b, fp, rfl, ?_⟩
        have := S.out
        rwa [HT.out] at this
  · exact absurd (hz.symm.trans HZ.out) (by decide)
end Go.Proofs.Ytnpageceaknofaa
