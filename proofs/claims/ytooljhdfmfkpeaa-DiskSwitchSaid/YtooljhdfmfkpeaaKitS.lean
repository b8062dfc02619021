/-
  The kit's CopyBytes and SameBytes; small laws on what lies in memory.
-/
import Derived.Test.YtooljhdfmfkpeaaRows
import Derived.Test.YtooljhdfmfkpeaaOwn
import Derived.Test.YtooljhdfmfkpeaaSha
import Derived.Laws.BytesArg
import Derived.WalkSpells
import Derived.IntWalk
import Derived.WalkLawsBesides
namespace Go.Proofs.Ytooljhdfmfkpeaa
set_option linter.unusedSimpArgs false
set_option linter.unusedVariables false
open Go.RowKit Sha
theorem kbyte_info : (Try.prog.info? 5).map (fun i => (i.zero, i.size, i.bytes)) = some (some (.int .u8 0), 1, 1) := by kernel_rfl
theorem kslice1 : (Try.prog.info? 5).map (fun i => i.size) = some 1 := by kernel_rfl
theorem kone8 (l : List Int) : ∀ u ∈ l.map v8, u.oneCell' = true := by simp [Value.oneCell']
theorem at_made (w : World) (cs : List Value) (t : TypeId) : At (w.alloc (.cells cs.toArray t)) (some ⟨w.heap.size, 0, none⟩) cs := by
  refine Or.inr ⟨_, 0, rfl, fun i v hi => ?_⟩
  rw [Nat.zero_add, (Blk.new w cs.toArray t).cell]; exact hi
set_option maxHeartbeats 400000 in
theorem copy_any (zs : List Int) (n : Nat) (p : Option Addr) (cap : Nat) (w : World) (hn : zs.length = n) (hA : At w p (zs.map v8)) (hc : n ≤ cap) (hp : p = none → cap = 0) (hm : n ≤ 140737488355328) :
    Calls Try.prog 33 #[.slice p n cap] w fun e w' => ∃ v, e = .returned v ∧ w'.ownsRow w.heap.size 5 1 v n (zs.map v8) ∧ Below w.heap.size w w' := by
  have HA := Lib.hid hA
  have Hn := Lib.hid hn
  clear hA hn
  have hown0 := World.ownsRow_made (base := w.heap.size) (size := 1) (e := 5) w #[] 0 (Nat.le_refl _) (by decide) rfl
  have HO := Lib.hid hown0
  clear hown0
  go_enter Try.func33, Try.ntmps33
  go_wp2_with (at_builtin; refine wpList_app rfl (.tmp 3) (.tmp 4) 32 rfl w.heap.size 5 Try.underlying32 kbyte_info rfl _ 0 [] rfl HO.out p n cap (zs.map v8) rfl (HA.out.alloc _) (by simp [Hn.out]) hp hc (kone8 _) (by omega) (by unfold maxLen; omega) (by simp) ?_; intro v2 w2 hown2 _ hb2 hs2 _; simp only [Nat.zero_add, List.nil_append] at hown2)
  go_ret
  exact ⟨_, rfl, hown2, ((Below.refl w.heap.size w).alloc (Nat.le_refl _) _).trans hb2⟩
theorem run_conv_at {P : Program} (w : World) (src dst e : TypeId) (hs : P.underlying src = some (.slice e)) (he : P.underlying e = some (.int .u8)) (hd : P.underlying dst = some .string) (xs : List Int) (n : Nat) (p : Option Addr) (c : Nat) (hn : xs.length = n) (hA : At w p (xs.map v8)) :
    (convert src dst (.slice p n c)).run P w = .ok (.string (strOfNums xs)) w := by
  cases p with
  | none =>
    have h0 : xs = [] := by
      rcases hA with h | ⟨b, off, h, _⟩
      · simpa using h
      · cases h
    subst h0 hn
    exact run_convert_bytes_nil w src e hs he _ c dst hd
  | some a =>
    by_cases h0 : xs = []
    · subst h0 hn
      rw [run_convert_bytes_string w src dst e _ _ c hs he hd, run_bytesToString w _ _ c [] (by simpa using run_loadCells_list (P := P) w a [] (fun j v hj => by simp at hj))]
      rfl
    · obtain ⟨b, off, ha, hc⟩ := hA.addr (by rw [List.length_map]; exact List.length_pos_iff.2 h0)
      cases ha
      exact run_convert_bytes_arg w src e hs he b off n c xs hn (fun i hi => hc i _ (by rw [List.getElem?_map, List.getElem?_eq_getElem (by omega), List.getD_eq_getElem?_getD, List.getElem?_eq_getElem (by omega)]; rfl)) dst hd
theorem strOfNums_toList (xs : List Int) : (strOfNums xs).toList = xs.map fun n => UInt8.ofNat n.toNat := by
  rw [ByteArray.toList_eq, strOfNums_data]
theorem strOfNums_inj (xs ys : List Int) (hx : ∀ n ∈ xs, 0 ≤ n ∧ n ≤ 255) (hy : ∀ n ∈ ys, 0 ≤ n ∧ n ≤ 255) : ((strOfNums xs).toList == (strOfNums ys).toList) = decide (xs = ys) := by
  rw [Bool.eq_iff_iff, beq_iff_eq, decide_eq_true_iff, strOfNums_toList, strOfNums_toList]
  constructor
  · intro h
    apply List.ext_getElem
    · simpa using congrArg List.length h
    · intro i h1 h2
      have h3 := congrArg (·[i]?) h
      simp [h1, h2] at h3
      have h4 := congrArg UInt8.toNat h3
      have b1 := hx xs[i] (List.getElem_mem h1)
      have b2 := hy ys[i] (List.getElem_mem h2)
      simp at h4
      omega
  · intro h; rw [h]
set_option maxHeartbeats 400000 in
theorem same_any (xs ys : List Int) (n m : Nat) (p q : Option Addr) (c d : Nat) (w : World) (hn : xs.length = n) (hm : ys.length = m) (hx : At w p (xs.map v8)) (hy : At w q (ys.map v8)) (bx : ∀ n ∈ xs, 0 ≤ n ∧ n ≤ 255) (by_ : ∀ n ∈ ys, 0 ≤ n ∧ n ≤ 255) :
    Calls Try.prog 32 #[.slice p n c, .slice q m d] w fun e w' => e = .returned (.bool (decide (xs = ys))) ∧ w = w' := by
  have h1 := run_conv_at (P := Try.prog) w 32 9 5 Try.underlying32 Try.underlying5 Try.underlying9 xs n p c hn hx
  have h2 := run_conv_at (P := Try.prog) w 32 9 5 Try.underlying32 Try.underlying5 Try.underlying9 ys m q d hm hy
  have HI := Lib.hid (strOfNums_inj xs ys bx by_)
  clear hn hm hx hy bx by_
  go_enter Try.func32, Try.ntmps32
  go_wp2_with fail
  go_ret
  exact ⟨congrArg (fun b => Ending.returned (Value.bool b)) HI.out, rfl⟩
theorem own_at_g {w : World} {B n g c : Nat} {e : TypeId} {xs : List Value} (h : w.ownsRow B e 1 (.slice (some ⟨g, 0, none⟩) n c) n xs) : At w (some ⟨g, 0, none⟩) xs := by
  obtain ⟨p, cap, hv, _, _, hA, _⟩ := own_at h
  cases hv; exact hA
theorem At.front {w : World} {a : Option Addr} {xs ys : List Value} (h : At w a (xs ++ ys)) : At w a xs := by
  rcases h with h | ⟨b, off, ha, hc⟩
  · exact Or.inl (List.append_eq_nil_iff.1 h).1
  · exact Or.inr ⟨b, off, ha, fun i v hi => hc i v (by rw [List.getElem?_append_left (by by_cases hl : i < xs.length; exact hl; rw [List.getElem?_eq_none (by omega)] at hi; cases hi)]; exact hi)⟩
theorem At.back {w : World} {b off : Nat} {xs ys : List Value} (h : At w (some ⟨b, off, none⟩) (xs ++ ys)) : At w (some ⟨b, off + xs.length, none⟩) ys := by
  rcases h with h | ⟨b', off', ha, hc⟩
  · exact Or.inl (List.append_eq_nil_iff.1 h).2
  · cases ha
    exact Or.inr ⟨b, off + xs.length, rfl, fun i v hi => by rw [Nat.add_assoc]; exact hc _ v (by rw [List.getElem?_append_right (by omega), Nat.add_sub_cancel_left]; exact hi)⟩
theorem same_true (xs : List Int) (n m : Nat) (p q : Option Addr) (c d : Nat) (w : World) (hn : xs.length = n) (hm : xs.length = m) (hx : At w p (xs.map v8)) (hy : At w q (xs.map v8)) (bx : ∀ n ∈ xs, 0 ≤ n ∧ n ≤ 255) :
    Calls Try.prog 32 #[.slice p n c, .slice q m d] w fun e w' => e = .returned (.bool true) ∧ w = w' :=
  (same_any xs xs n m p q c d w hn hm hx hy bx bx).mono fun _ _ ⟨he, hw⟩ => ⟨by rw [he]; simp, hw⟩
end Go.Proofs.Ytooljhdfmfkpeaa
