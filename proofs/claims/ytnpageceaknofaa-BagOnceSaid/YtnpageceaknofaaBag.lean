/-
  A bag's things, plain.
-/
namespace Go.Proofs.Ytnpageceaknofaa.Bag
variable {α : Type}
def newE (n : Int) : Int := if 0 ≤ n ∧ n ≤ 2000 then 0 else 2
def putL (m : Nat) (l : List α) (x : α) : List α := if l.length < m then l ++ [x] else l
def putE (m : Nat) (l : List α) : Int := if l.length < m then 0 else 8
def atE (l : List α) (i : Int) : Int := if 0 ≤ i ∧ i < l.length then 0 else 5
def atV (z : α) (l : List α) (i : Int) : α := if 0 ≤ i ∧ i < l.length then l.getD i.toNat z else z
def takeL (l : List α) (i : Int) : List α := if 0 ≤ i ∧ i < l.length then l.take i.toNat ++ l.drop (i.toNat + 1) else l
theorem newE_in {n : Int} (h : 0 ≤ n ∧ n ≤ 2000) : newE n = 0 := if_pos h
theorem newE_out {n : Int} (h : n < 0 ∨ 2000 < n) : newE n = 2 := if_neg (by omega)
theorem put_room {m : Nat} {l : List α} {x : α} (h : l.length < m) : putL m l x = l ++ [x] ∧ putE m l = 0 := ⟨if_pos h, if_pos h⟩
theorem put_full {m : Nat} {l : List α} {x : α} (h : m ≤ l.length) : putL m l x = l ∧ putE m l = 8 := ⟨if_neg (by omega), if_neg (by omega)⟩
theorem at_in {z : α} {l : List α} {k : Nat} (h : k < l.length) : atE l k = 0 ∧ atV z l k = l[k] ∧ takeL l k = l.take k ++ l.drop (k + 1) := by
  have h' : (0 : Int) ≤ (k : Int) ∧ (k : Int) < (l.length : Int) := by omega
  refine ⟨if_pos h', ?_, ?_⟩
  · unfold atV; rw [if_pos h']; simp [List.getD_eq_getElem?_getD, List.getElem?_eq_getElem h]
  · unfold takeL; rw [if_pos h']; rfl
theorem at_out {z : α} {l : List α} {i : Int} (h : i < 0 ∨ (l.length : Int) ≤ i) : atE l i = 5 ∧ atV z l i = z ∧ takeL l i = l :=
  ⟨if_neg (by omega), if_neg (by omega), if_neg (by omega)⟩
theorem putL_len {m : Nat} {l : List α} {x : α} (h : l.length ≤ m) : (putL m l x).length ≤ m := by
  unfold putL; split
  · simp; omega
  · exact h
theorem takeL_len (l : List α) (i : Int) : (takeL l i).length ≤ l.length := by
  unfold takeL; split
  · simp; omega
  · exact Nat.le_refl _
theorem takeL_mem {l : List α} {i : Int} {x : α} (h : x ∈ takeL l i) : x ∈ l := by
  unfold takeL at h; split at h
  · rcases List.mem_append.1 h with h | h
    · exact List.mem_of_mem_take h
    · exact List.mem_of_mem_drop h
  · exact h
theorem putL_mem {m : Nat} {l : List α} {x y : α} (h : y ∈ putL m l x) : y ∈ l ∨ y = x := by
  unfold putL at h; split at h
  · rcases List.mem_append.1 h with h | h
    · exact .inl h
    · exact .inr (List.mem_singleton.1 h)
  · exact .inl h
theorem atV_fit {z : α} {P : α → Prop} {l : List α} (hz : P z) (hl : ∀ x ∈ l, P x) (i : Int) : P (atV z l i) := by
  unfold atV; split
  · rename_i h
    rw [List.getD_eq_getElem?_getD, List.getElem?_eq_getElem (by omega)]
    exact hl _ (List.getElem_mem _)
  · exact hz
end Go.Proofs.Ytnpageceaknofaa.Bag
