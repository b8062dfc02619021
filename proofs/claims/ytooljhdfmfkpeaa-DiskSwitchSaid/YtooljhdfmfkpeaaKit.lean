/-
  The kit's marks, LentBytes and KeptBytes.
-/
import Derived.Test.YtooljhdfmfkpeaaKitS
import Derived.Laws.BytesArg
import Derived.WalkSpells
import Derived.IntWalk
import Derived.WalkLawsBesides
namespace Go.Proofs.Ytooljhdfmfkpeaa
set_option linter.unusedSimpArgs false
set_option linter.unusedVariables false
open Go.RowKit Sha
set_option maxHeartbeats 400000 in
theorem marks_any (w : World) :
    Calls Try.prog 58 #[] w fun e w' => ∃ p cap, e = .returned (.slice p 4 cap) ∧ At w' p (([8, 167, 44, 2] : List Int).map v8) ∧ 4 ≤ cap ∧ cap ≤ 9223372036854775807 ∧ (p = none → cap = 0) ∧ Below w.heap.size w w' := by
  go_enter Try.func58, Try.ntmps58
  go_wp2
  go_ret
  exact ⟨_, _, rfl, at_made _ _ _, Nat.le_refl _, by decide, (fun h => by cases h), (Below.refl _ _).alloc (Nat.le_refl _) _⟩
def markList : List Int := [8, 167, 44, 2]
theorem markList_bd : ∀ n ∈ markList, 0 ≤ n ∧ n ≤ 255 := by unfold markList; decide
theorem markList_length : markList.length = 4 := rfl
theorem marks_eq (w : World) :
    Calls Try.prog 58 #[] w fun e w' => ∃ p cap, e = .returned (.slice p 4 cap) ∧ At w' p (markList.map v8) ∧ 4 ≤ cap ∧ cap ≤ 9223372036854775807 ∧ (p = none → cap = 0) ∧ Below w.heap.size w w' := marks_any w
attribute [irreducible] markList
set_option maxHeartbeats 400000 in
theorem lent_any (zs : List Int) (n : Nat) (p : Option Addr) (cap : Nat) (w : World) (hn : zs.length = n) (hA : At w p (zs.map v8)) (hc : n ≤ cap) (hp : p = none → cap = 0) (hm : n ≤ 100000000000) :
    Calls Try.prog 39 #[.slice p n cap] w fun e w' => ∃ g, e = .returned (.slice (some ⟨g, 0, none⟩) n (n + 4)) ∧ At w' (some ⟨g, 0, none⟩) ((zs ++ markList).map v8) ∧ Below w.heap.size w w' := by
  have HA := Lib.hid hA
  have Hn := Lib.hid hn
  clear hA hn
  go_enter Try.func39, Try.ntmps39
  go_wp2_with fail
  refine (marks_eq _).mono ?_
  rintro e w1 ⟨q, c1, rfl, hA1, hc1, hc2, hq, hb1⟩
  have HA1 := Lib.hid hA1
  clear hA1
  go_wp2_with fail
  refine (copy_any zs n p cap w1 Hn.out (HA.out.below hb1) hc hp (by omega)).mono ?_
  rintro e w2 ⟨v, rfl, hown, hb2⟩
  have HO := Lib.hid hown
  clear hown
  go_wp2_with (at_builtin; refine wpList_app rfl (.tmp 7) (.tmp 8) 32 rfl w1.heap.size 5 Try.underlying32 kbyte_info rfl v n _ rfl HO.out q 4 c1 (markList.map v8) rfl (HA1.out.below hb2) (by rw [List.length_map, markList_length]) hq hc1 (kone8 _) (by omega) (by unfold maxLen; omega) hb2.size ?_; intro v2 w3 hown2 _ hb3 hs3 _; obtain ⟨g, c3, rfl, hg, hgc, hgm, hgs⟩ := own_form hown2 (by omega); have HO2 := Lib.hid hown2; clear hown2)
  go_ret
  refine ⟨g, rfl, ?_, (hb1.trans (hb2.mono hb1.size)).trans (hb3.mono hb1.size)⟩
  have := own_at_g HO2.out
  rwa [← List.map_append] at this
set_option maxHeartbeats 400000 in
theorem kept_any (zs : List Int) (n : Nat) (g : Nat) (p : Option Addr) (cap : Nat) (w : World) (hn : zs.length = n) (hz : ∀ n ∈ zs, 0 ≤ n ∧ n ≤ 255) (hq : At w (some ⟨g, 0, none⟩) ((zs ++ markList).map v8)) (hA : At w p (zs.map v8)) (hm : n ≤ 100000000000) :
    Calls Try.prog 48 #[.slice (some ⟨g, 0, none⟩) n (n + 4), .slice p n cap] w fun e w' => e = .returned (.bool true) ∧ Below w.heap.size w w' := by
  have HA := Lib.hid hA
  have HQ := Lib.hid hq
  have Hn := Lib.hid hn
  clear hA hn hq
  go_enter Try.func48, Try.ntmps48
  go_wp2_with fail
  refine (marks_eq _).mono ?_
  rintro e w1 ⟨q, c1, rfl, hA1, hc1, hc2, hq, hb1⟩
  have HA1 := Lib.hid hA1
  clear hA1
  go_wp2_with fail
  have q1 := HQ.out.below hb1
  rw [List.map_append] at q1
  have Q1 := Lib.hid q1
  clear q1
  refine (same_true zs n n _ _ _ _ w1 Hn.out Hn.out Q1.out.front (HA.out.below hb1) hz).mono ?_
  rintro e w2 ⟨rfl, rfl⟩
  have q2 := Q1.out.back
  rw [List.length_map, Hn.out, Nat.zero_add] at q2
  have Q2 := Lib.hid q2
  clear q2
  go_wp2_with fail
  refine (same_true markList 4 4 _ _ _ _ w1 markList_length markList_length Q2.out HA1.out markList_bd).mono ?_
  rintro e w2 ⟨rfl, rfl⟩
  go_wp2_with fail
  go_ret
  exact ⟨rfl, hb1⟩
end Go.Proofs.Ytooljhdfmfkpeaa
