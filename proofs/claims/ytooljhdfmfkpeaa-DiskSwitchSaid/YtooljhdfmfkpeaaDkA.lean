/-
  What a disk is asked to do, the program's and the reference's alike: a structure over its functions' numbers.
-/
import Derived.Test.YtooljhdfmfkpeaaDsk
import Derived.Test.YtooljhdfmfkpeaaObj2
import Derived.Test.YtooljhdfmfkpeaaOwn8
import Derived.Test.YtooljhdfmfkpeaaKitS
namespace Go.Proofs.Ytooljhdfmfkpeaa
set_option linter.unusedSimpArgs false
set_option linter.unusedVariables false
open Go.RowKit Sha Dsk
abbrev i64v (n : Int) : Value := .int .i64 n
def fit64 (n : Int) : Prop := -9223372036854775808 ≤ n ∧ n ≤ 9223372036854775807
/-- Bytes in memory. -/
structure GoodC (w : World) (xs : List Int) (p : Option Addr) (cap : Nat) : Prop where
  bytes : ∀ n ∈ xs, IsByte n
  at_ : At w p (xs.map v8)
  le : xs.length ≤ cap
  max : cap ≤ 9223372036854775807
  nil : p = none → cap = 0
theorem GoodC.below {w w' : World} {xs : List Int} {p : Option Addr} {cap : Nat} (h : GoodC w xs p cap) (hb : Below w.heap.size w w') : GoodC w' xs p cap := ⟨h.bytes, h.at_.below hb, h.le, h.max, h.nil⟩
theorem GoodC.carry {w w' : World} {xs : List Int} {p : Option Addr} {cap : Nat} (h : GoodC w xs p cap) (hc : ∀ p v, w.cell? p = some v → w'.cell? p = some v) : GoodC w' xs p cap := ⟨h.bytes, h.at_.carry hc, h.le, h.max, h.nil⟩
theorem GoodC.blocks {w w' : World} {xs : List Int} {p : Option Addr} {cap : Nat} (h : GoodC w xs p cap) (hk : ∀ a, p = some a → w'.heap[a.block]? = w.heap[a.block]?) : GoodC w' xs p cap := ⟨h.bytes, h.at_.blocks hk, h.le, h.max, h.nil⟩
theorem row_goodC {w : World} {B n : Nat} {e : TypeId} {v : Value} {xs : List Int} (h : w.ownsRow B e 1 v n (xs.map v8)) (hb : ∀ n ∈ xs, IsByte n) : ∃ p cap, v = .slice p n cap ∧ xs.length = n ∧ GoodC w xs p cap := by
  obtain ⟨p, cap, hv, hl, hm, hA, hx, hn⟩ := own_at h
  rw [List.length_map] at hx
  exact ⟨p, cap, hv, hx, hb, hA, by rw [hx]; exact hl, by unfold maxLen at hm; omega, hn⟩
theorem row_blocks8 {w w' : World} {B n : Nat} {e : TypeId} {v : Value} {xs : List Value} (h : w.ownsRow B e 1 v n xs) (hk : ∀ g, v.ownBlock = some g → w'.heap[g]? = w.heap[g]?) : w'.ownsRow B e 1 v n xs := by
  refine ⟨h.1, ?_⟩
  rcases h.2 with h' | ⟨g, cap, cur, hv, hgB, hh, h4⟩
  · exact .inl h'
  · exact .inr ⟨g, cap, cur, hv, hgB, by rw [hk g (by rw [hv]; rfl)]; exact hh, h4⟩
/-- Bytes that lie apart from an object's blocks, if there are any. -/
def ApartC (zs : List Int) (p : Option Addr) (fp : List Nat) : Prop := zs ≠ [] → ∀ a, p = some a → a.block ∉ fp
theorem At.touchC {fp : List Nat} {w w' : World} {p : Option Addr} {zs : List Int} (h : At w p (zs.map v8)) (ht : Touch fp w w') (ha : ApartC zs p fp) : At w' p (zs.map v8) := by
  by_cases hz : zs = []
  · left; rw [hz]; rfl
  · rcases h with h | ⟨b, off, rfl, hc⟩
    · exact .inl h
    · refine .inr ⟨b, off, rfl, fun i v hi => ?_⟩
      have h1 := hc i v hi
      exact (World.cell?_of_block (w := w) (a := ⟨b, off + i, none⟩) (ht.block b (World.block_lt_of_cell? w _ h1) (ha hz _ rfl))).trans h1
theorem GoodC.block_lt {w : World} {zs : List Int} {p : Option Addr} {cap : Nat} (h : GoodC w zs p cap) (hz : zs ≠ []) : ∀ a, p = some a → a.block < w.heap.size := by
  intro a ha
  obtain ⟨b, off, e, hc⟩ := h.at_.addr (by rw [List.length_map]; exact List.length_pos_iff.2 hz)
  rw [e] at ha; cases ha
  exact World.block_lt_of_cell? w _ (hc 0 _ (by rw [List.getElem?_map, List.getElem?_eq_getElem (List.length_pos_iff.2 hz)]; rfl))
abbrev DiskRep := ObjRep DState
def DNewDone (R : DiskRep) (n : Int) (w : World) (e : Ending) (w' : World) : Prop :=
  Below w.heap.size w w' ∧ ((newE n = 0 ∧ ∃ b fp, e = .returned (.tuple #[optr b, i64v 0]) ∧ R w' b fp (fresh n.toNat) ∧ ∀ k ∈ fp, w.heap.size ≤ k) ∨ (newE n = 2 ∧ e = .returned (.tuple #[.pointer none, i64v 2])))
def DReadDone (R : DiskRep) (b : Nat) (fp : List Nat) (s : DState) (w : World) (e : Ending) (w' : World) : Prop :=
  ∃ v fp', e = .returned (.tuple #[v, i64v (readE s)]) ∧ Own8 w' w.heap.size 5 v (readV s).length ((readV s).map v8) ∧ R w' b fp' s ∧ Touch fp w w' ∧ From fp fp' w ∧ ∀ g, v.ownBlock = some g → g ∉ fp'
structure DiskOK (fN fA fS fX fW fR fM fF fC fZ : Nat) (R : DiskRep) : Prop where
  held : Held R
  ok : ∀ {w b fp s}, R w b fp s → Ok s
  new : ∀ (n : Int) (w : World), fit64 n → Calls Try.prog fN #[i64v n] w (DNewDone R n w)
  append : ∀ (b : Nat) (fp : List Nat) (s : DState) (zs : List Int) (n : Nat) (p : Option Addr) (cap : Nat) (w : World), R w b fp s → s.steps ≤ 1000000000 → zs.length = n → n ≤ 1000000000 → GoodC w zs p cap → ApartC zs p fp → Calls Try.prog fA #[optr b, .slice p n cap] w (ODone R b fp (appS s zs) (i64v (appE s n)) w)
  sync : ∀ (b : Nat) (fp : List Nat) (s : DState) (w : World), R w b fp s → s.steps ≤ 1000000000 → Calls Try.prog fS #[optr b] w (ODone R b fp (syncS s) (i64v (syncE s)) w)
  next : ∀ (b : Nat) (fp : List Nat) (s : DState) (zs : List Int) (n : Nat) (p : Option Addr) (cap : Nat) (w : World), R w b fp s → s.steps ≤ 1000000000 → zs.length = n → n ≤ 1000000000 → GoodC w zs p cap → ApartC zs p fp → Calls Try.prog fX #[optr b, .slice p n cap] w (ODone R b fp (nextS s zs) (i64v (appE s n)) w)
  switch : ∀ (b : Nat) (fp : List Nat) (s : DState) (w : World), R w b fp s → s.steps ≤ 1000000000 → Calls Try.prog fW #[optr b] w (ODone R b fp (swS s) (i64v (syncE s)) w)
  read : ∀ (b : Nat) (fp : List Nat) (s : DState) (w : World), R w b fp s → Calls Try.prog fR #[optr b] w (DReadDone R b fp s w)
  room : ∀ (b : Nat) (fp : List Nat) (s : DState) (n : Int) (w : World), R w b fp s → fit64 n → Calls Try.prog fM #[optr b, i64v n] w (ODone R b fp (roomS s n) (i64v (roomE n)) w)
  fuse : ∀ (b : Nat) (fp : List Nat) (s : DState) (n : Int) (w : World), R w b fp s → fit64 n → Calls Try.prog fF #[optr b, i64v n] w (ODone R b fp (fuseS s n) (i64v (fuseE n)) w)
  crash : ∀ (b : Nat) (fp : List Nat) (s : DState) (n : Int) (w : World), R w b fp s → fit64 n → Calls Try.prog fC #[optr b, i64v n] w (ODone R b fp (crashS s n) (i64v (crashE n)) w)
  wipe : ∀ (b : Nat) (fp : List Nat) (s : DState) (w : World), R w b fp s → Calls Try.prog fZ #[optr b] w (ODone R b fp (wipeS s) (i64v 0) w)
def QDone (v : Value) (w : World) (e : Ending) (w' : World) : Prop := e = .returned v ∧ ∃ k, w' = w.drewN k
structure DiskSees (fL fF fU fS : Nat) (R : DiskRep) : Prop where
  len : ∀ (b : Nat) (fp : List Nat) (s : DState) (w : World), R w b fp s → Calls Try.prog fL #[optr b] w (QDone (i64v s.log.length) w)
  firm : ∀ (b : Nat) (fp : List Nat) (s : DState) (w : World), R w b fp s → Calls Try.prog fF #[optr b] w (QDone (i64v s.firm) w)
  up : ∀ (b : Nat) (fp : List Nat) (s : DState) (w : World), R w b fp s → Calls Try.prog fU #[optr b] w (QDone (.bool !s.out) w)
  steps : ∀ (b : Nat) (fp : List Nat) (s : DState) (w : World), R w b fp s → s.steps ≤ 1000000000 → Calls Try.prog fS #[optr b] w (QDone (i64v s.steps) w)
def DCopyDone (R : DiskRep) (b : Nat) (fp : List Nat) (s : DState) (w : World) (e : Ending) (w' : World) : Prop :=
  ∃ c fp' gp, e = .returned (optr c) ∧ R w' b fp' s ∧ R w' c gp s ∧ Touch fp w w' ∧ From fp fp' w ∧ (∀ k ∈ gp, w.heap.size ≤ k) ∧ Apart fp' gp
/-- What the program's disks are asked to do. -/
structure DisksOK (R : DiskRep) : Prop where
  ok : DiskOK 8 21 22 23 24 16 25 26 27 13 R
  sees : DiskSees 17 18 20 19 R
  copy : ∀ (b : Nat) (fp : List Nat) (s : DState) (w : World), R w b fp s → Calls Try.prog 12 #[optr b] w (DCopyDone R b fp s w)
end Go.Proofs.Ytooljhdfmfkpeaa
