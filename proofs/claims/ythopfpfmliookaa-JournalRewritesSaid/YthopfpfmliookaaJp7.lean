/-
  The kit's CopyBytes and SameBytes; small laws on what lies in memory.
  What a disk is asked to do, the program's and the reference's alike: a structure over its functions' numbers.
  Slices of slices of bytes in memory: what came in, what the call itself made.
-/
import Derived.Test.YthopfpfmliookaaRows
import Derived.Test.YthopfpfmliookaaJp6
import Derived.Test.YthopfpfmliookaaJp1
import Derived.Laws.BytesArg
import Derived.WalkSpells
import Derived.IntWalk
import Derived.WalkLawsBesides
namespace Go.Proofs.Ythopfpfmliookaa
section
set_option linter.unusedSimpArgs false
set_option linter.unusedVariables false
open Go.RowKit Sha
theorem kbyte_info : (Try.prog.info? 5).map (fun i => (i.zero, i.size, i.bytes)) = some (some (.int .u8 0), 1, 1) := by kernel_rfl
theorem kslice1 : (Try.prog.info? 5).map (fun i => i.size) = some 1 := by kernel_rfl
theorem kone8 (l : List Int) : ∀ u ∈ l.map v8, u.oneCell' = true := by simp [Value.oneCell']
theorem at_made (w : World) (cs : List Value) (t : TypeId) : At (w.alloc (.cells cs.toArray t)) (some ⟨w.heap.size, 0, none⟩) cs := by
  refine Or.inr ⟨_, 0, rfl, fun i v hi => ?_⟩
  rw [Nat.zero_add, (Blk.new w cs.toArray t).cell]; exact hi
theorem run_conv_at {P : Program} (w : World) (src dst e : TypeId) (hs : P.underlying src = some (.slice e)) (he : P.underlying e = some (.int .u8)) (hd : P.underlying dst = some .string) (xs : List Int) (n : Nat) (p : Option Addr) (c : Nat) (hn : xs.length = n) (hA : At w p (xs.map v8)) :
    (convert src dst (.slice p n c)).run P w = .ok (.string (strOfNums xs)) w := by
  cases p with
  | none =>
    have h0 : xs = [] := by
      rcases hA with h | ⟨b, off, h, _⟩
      · simpa using h
      · cases h
    subst h0 hn
    exact run_convert_bytes_nil w src e hs he _ c dst hd
  | some a =>
    by_cases h0 : xs = []
    · subst h0 hn
      rw [run_convert_bytes_string w src dst e _ _ c hs he hd, run_bytesToString w _ _ c [] (by simpa using run_loadCells_list (P := P) w a [] (fun j v hj => by simp at hj))]
      rfl
    · obtain ⟨b, off, ha, hc⟩ := hA.addr (by rw [List.length_map]; exact List.length_pos_iff.2 h0)
      cases ha
      exact run_convert_bytes_arg w src e hs he b off n c xs hn (fun i hi => hc i _ (by rw [List.getElem?_map, List.getElem?_eq_getElem (by omega), List.getD_eq_getElem?_getD, List.getElem?_eq_getElem (by omega)]; rfl)) dst hd
theorem strOfNums_toList (xs : List Int) : (strOfNums xs).toList = xs.map fun n => UInt8.ofNat n.toNat := by
  rw [ByteArray.toList_eq, strOfNums_data]
theorem strOfNums_inj (xs ys : List Int) (hx : ∀ n ∈ xs, 0 ≤ n ∧ n ≤ 255) (hy : ∀ n ∈ ys, 0 ≤ n ∧ n ≤ 255) : ((strOfNums xs).toList == (strOfNums ys).toList) = decide (xs = ys) := by
  rw [Bool.eq_iff_iff, beq_iff_eq, decide_eq_true_iff, strOfNums_toList, strOfNums_toList]
  constructor
  · intro h
    apply List.ext_getElem
    · simpa using congrArg List.length h
    · intro i h1 h2
      have h3 := congrArg (·[i]?) h
      simp [h1, h2] at h3
      have h4 := congrArg UInt8.toNat h3
      have b1 := hx xs[i] (List.getElem_mem h1)
      have b2 := hy ys[i] (List.getElem_mem h2)
      simp at h4
      omega
  · intro h; rw [h]
set_option maxHeartbeats 400000 in
theorem same_any (xs ys : List Int) (n m : Nat) (p q : Option Addr) (c d : Nat) (w : World) (hn : xs.length = n) (hm : ys.length = m) (hx : At w p (xs.map v8)) (hy : At w q (ys.map v8)) (bx : ∀ n ∈ xs, 0 ≤ n ∧ n ≤ 255) (by_ : ∀ n ∈ ys, 0 ≤ n ∧ n ≤ 255) :
    Calls Try.prog 41 #[.slice p n c, .slice q m d] w fun e w' => e = .returned (.bool (decide (xs = ys))) ∧ w = w' := by
  have h1 := run_conv_at (P := Try.prog) w 22 9 5 Try.underlying22 Try.underlying5 Try.underlying9 xs n p c hn hx
  have h2 := run_conv_at (P := Try.prog) w 22 9 5 Try.underlying22 Try.underlying5 Try.underlying9 ys m q d hm hy
  have HI := Lib.hid (strOfNums_inj xs ys bx by_)
  clear hn hm hx hy bx by_
  go_enter Try.func41, Try.ntmps41
  go_wp2_with fail
  go_ret
  exact ⟨congrArg (fun b => Ending.returned (Value.bool b)) HI.out, rfl⟩
theorem own_at_g {w : World} {B n g c : Nat} {e : TypeId} {xs : List Value} (h : w.ownsRow B e 1 (.slice (some ⟨g, 0, none⟩) n c) n xs) : At w (some ⟨g, 0, none⟩) xs := by
  obtain ⟨p, cap, hv, _, _, hA, _⟩ := own_at h
  cases hv; exact hA
theorem At.front {w : World} {a : Option Addr} {xs ys : List Value} (h : At w a (xs ++ ys)) : At w a xs := by
  rcases h with h | ⟨b, off, ha, hc⟩
  · exact Or.inl (List.append_eq_nil_iff.1 h).1
  · exact Or.inr ⟨b, off, ha, fun i v hi => hc i v (by rw [List.getElem?_append_left (by by_cases hl : i < xs.length; exact hl; rw [List.getElem?_eq_none (by omega)] at hi; cases hi)]; exact hi)⟩
theorem At.back {w : World} {b off : Nat} {xs ys : List Value} (h : At w (some ⟨b, off, none⟩) (xs ++ ys)) : At w (some ⟨b, off + xs.length, none⟩) ys := by
  rcases h with h | ⟨b', off', ha, hc⟩
  · exact Or.inl (List.append_eq_nil_iff.1 h).2
  · cases ha
    exact Or.inr ⟨b, off + xs.length, rfl, fun i v hi => by rw [Nat.add_assoc]; exact hc _ v (by rw [List.getElem?_append_right (by omega), Nat.add_sub_cancel_left]; exact hi)⟩
theorem same_true (xs : List Int) (n m : Nat) (p q : Option Addr) (c d : Nat) (w : World) (hn : xs.length = n) (hm : xs.length = m) (hx : At w p (xs.map v8)) (hy : At w q (xs.map v8)) (bx : ∀ n ∈ xs, 0 ≤ n ∧ n ≤ 255) :
    Calls Try.prog 41 #[.slice p n c, .slice q m d] w fun e w' => e = .returned (.bool true) ∧ w = w' :=
  (same_any xs xs n m p q c d w hn hm hx hy bx bx).mono fun _ _ ⟨he, hw⟩ => ⟨by rw [he]; simp, hw⟩
end
section
set_option linter.unusedSimpArgs false
set_option linter.unusedVariables false
open Go.RowKit Sha Dsk
abbrev i64v (n : Int) : Value := .int .i64 n
def fit64 (n : Int) : Prop := -9223372036854775808 ≤ n ∧ n ≤ 9223372036854775807
/-- Bytes in memory. -/
structure GoodC (w : World) (xs : List Int) (p : Option Addr) (cap : Nat) : Prop where
  bytes : ∀ n ∈ xs, IsByte n
  at_ : At w p (xs.map v8)
  le : xs.length ≤ cap
  max : cap ≤ 9223372036854775807
  nil : p = none → cap = 0
theorem GoodC.below {w w' : World} {xs : List Int} {p : Option Addr} {cap : Nat} (h : GoodC w xs p cap) (hb : Below w.heap.size w w') : GoodC w' xs p cap := ⟨h.bytes, h.at_.below hb, h.le, h.max, h.nil⟩
theorem GoodC.carry {w w' : World} {xs : List Int} {p : Option Addr} {cap : Nat} (h : GoodC w xs p cap) (hc : ∀ p v, w.cell? p = some v → w'.cell? p = some v) : GoodC w' xs p cap := ⟨h.bytes, h.at_.carry hc, h.le, h.max, h.nil⟩
theorem GoodC.blocks {w w' : World} {xs : List Int} {p : Option Addr} {cap : Nat} (h : GoodC w xs p cap) (hk : ∀ a, p = some a → w'.heap[a.block]? = w.heap[a.block]?) : GoodC w' xs p cap := ⟨h.bytes, h.at_.blocks hk, h.le, h.max, h.nil⟩
theorem row_goodC {w : World} {B n : Nat} {e : TypeId} {v : Value} {xs : List Int} (h : w.ownsRow B e 1 v n (xs.map v8)) (hb : ∀ n ∈ xs, IsByte n) : ∃ p cap, v = .slice p n cap ∧ xs.length = n ∧ GoodC w xs p cap := by
  obtain ⟨p, cap, hv, hl, hm, hA, hx, hn⟩ := own_at h
  rw [List.length_map] at hx
  exact ⟨p, cap, hv, hx, hb, hA, by rw [hx]; exact hl, by unfold maxLen at hm; omega, hn⟩
theorem row_blocks8 {w w' : World} {B n : Nat} {e : TypeId} {v : Value} {xs : List Value} (h : w.ownsRow B e 1 v n xs) (hk : ∀ g, v.ownBlock = some g → w'.heap[g]? = w.heap[g]?) : w'.ownsRow B e 1 v n xs := by
  refine ⟨h.1, ?_⟩
  rcases h.2 with h' | ⟨g, cap, cur, hv, hgB, hh, h4⟩
  · exact .inl h'
  · exact .inr ⟨g, cap, cur, hv, hgB, by rw [hk g (by rw [hv]; rfl)]; exact hh, h4⟩
/-- Bytes that lie apart from an object's blocks, if there are any. -/
def ApartC (zs : List Int) (p : Option Addr) (fp : List Nat) : Prop := zs ≠ [] → ∀ a, p = some a → a.block ∉ fp
theorem At.touchC {fp : List Nat} {w w' : World} {p : Option Addr} {zs : List Int} (h : At w p (zs.map v8)) (ht : Touch fp w w') (ha : ApartC zs p fp) : At w' p (zs.map v8) := by
  by_cases hz : zs = []
  · left; rw [hz]; rfl
  · rcases h with h | ⟨b, off, rfl, hc⟩
    · exact .inl h
    · refine .inr ⟨b, off, rfl, fun i v hi => ?_⟩
      have h1 := hc i v hi
      exact (World.cell?_of_block (w := w) (a := ⟨b, off + i, none⟩) (ht.block b (World.block_lt_of_cell? w _ h1) (ha hz _ rfl))).trans h1
theorem GoodC.block_lt {w : World} {zs : List Int} {p : Option Addr} {cap : Nat} (h : GoodC w zs p cap) (hz : zs ≠ []) : ∀ a, p = some a → a.block < w.heap.size := by
  intro a ha
  obtain ⟨b, off, e, hc⟩ := h.at_.addr (by rw [List.length_map]; exact List.length_pos_iff.2 hz)
  rw [e] at ha; cases ha
  exact World.block_lt_of_cell? w _ (hc 0 _ (by rw [List.getElem?_map, List.getElem?_eq_getElem (List.length_pos_iff.2 hz)]; rfl))
abbrev DiskRep := ObjRep DState
def DNewDone (R : DiskRep) (n : Int) (w : World) (e : Ending) (w' : World) : Prop :=
  Below w.heap.size w w' ∧ ((newE n = 0 ∧ ∃ b fp, e = .returned (.tuple #[optr b, i64v 0]) ∧ R w' b fp (fresh n.toNat) ∧ ∀ k ∈ fp, w.heap.size ≤ k) ∨ (newE n = 2 ∧ e = .returned (.tuple #[.pointer none, i64v 2])))
def DReadDone (R : DiskRep) (b : Nat) (fp : List Nat) (s : DState) (w : World) (e : Ending) (w' : World) : Prop :=
  ∃ v fp', e = .returned (.tuple #[v, i64v (readE s)]) ∧ Own8 w' w.heap.size 5 v (readV s).length ((readV s).map v8) ∧ R w' b fp' s ∧ Touch fp w w' ∧ From fp fp' w ∧ ∀ g, v.ownBlock = some g → g ∉ fp'
structure DiskOK (fN fA fS fX fW fR fM fF fC fZ : Nat) (R : DiskRep) : Prop where
  held : Held R
  ok : ∀ {w b fp s}, R w b fp s → Ok s
  new : ∀ (n : Int) (w : World), fit64 n → Calls Try.prog fN #[i64v n] w (DNewDone R n w)
  append : ∀ (b : Nat) (fp : List Nat) (s : DState) (zs : List Int) (n : Nat) (p : Option Addr) (cap : Nat) (w : World), R w b fp s → s.steps ≤ 1000000000 → zs.length = n → n ≤ 1000000000 → GoodC w zs p cap → ApartC zs p fp → Calls Try.prog fA #[optr b, .slice p n cap] w (ODone R b fp (appS s zs) (i64v (appE s n)) w)
  sync : ∀ (b : Nat) (fp : List Nat) (s : DState) (w : World), R w b fp s → s.steps ≤ 1000000000 → Calls Try.prog fS #[optr b] w (ODone R b fp (syncS s) (i64v (syncE s)) w)
  next : ∀ (b : Nat) (fp : List Nat) (s : DState) (zs : List Int) (n : Nat) (p : Option Addr) (cap : Nat) (w : World), R w b fp s → s.steps ≤ 1000000000 → zs.length = n → n ≤ 1000000000 → GoodC w zs p cap → ApartC zs p fp → Calls Try.prog fX #[optr b, .slice p n cap] w (ODone R b fp (nextS s zs) (i64v (appE s n)) w)
  switch : ∀ (b : Nat) (fp : List Nat) (s : DState) (w : World), R w b fp s → s.steps ≤ 1000000000 → Calls Try.prog fW #[optr b] w (ODone R b fp (swS s) (i64v (syncE s)) w)
  read : ∀ (b : Nat) (fp : List Nat) (s : DState) (w : World), R w b fp s → Calls Try.prog fR #[optr b] w (DReadDone R b fp s w)
  room : ∀ (b : Nat) (fp : List Nat) (s : DState) (n : Int) (w : World), R w b fp s → fit64 n → Calls Try.prog fM #[optr b, i64v n] w (ODone R b fp (roomS s n) (i64v (roomE n)) w)
  fuse : ∀ (b : Nat) (fp : List Nat) (s : DState) (n : Int) (w : World), R w b fp s → fit64 n → Calls Try.prog fF #[optr b, i64v n] w (ODone R b fp (fuseS s n) (i64v (fuseE n)) w)
  crash : ∀ (b : Nat) (fp : List Nat) (s : DState) (n : Int) (w : World), R w b fp s → fit64 n → Calls Try.prog fC #[optr b, i64v n] w (ODone R b fp (crashS s n) (i64v (crashE n)) w)
  wipe : ∀ (b : Nat) (fp : List Nat) (s : DState) (w : World), R w b fp s → Calls Try.prog fZ #[optr b] w (ODone R b fp (wipeS s) (i64v 0) w)
def QDone (v : Value) (w : World) (e : Ending) (w' : World) : Prop := e = .returned v ∧ ∃ k, w' = w.drewN k
structure DiskSees (fL fF fU fS : Nat) (R : DiskRep) : Prop where
  len : ∀ (b : Nat) (fp : List Nat) (s : DState) (w : World), R w b fp s → Calls Try.prog fL #[optr b] w (QDone (i64v s.log.length) w)
  firm : ∀ (b : Nat) (fp : List Nat) (s : DState) (w : World), R w b fp s → Calls Try.prog fF #[optr b] w (QDone (i64v s.firm) w)
  up : ∀ (b : Nat) (fp : List Nat) (s : DState) (w : World), R w b fp s → Calls Try.prog fU #[optr b] w (QDone (.bool !s.out) w)
  steps : ∀ (b : Nat) (fp : List Nat) (s : DState) (w : World), R w b fp s → s.steps ≤ 1000000000 → Calls Try.prog fS #[optr b] w (QDone (i64v s.steps) w)
def DCopyDone (R : DiskRep) (b : Nat) (fp : List Nat) (s : DState) (w : World) (e : Ending) (w' : World) : Prop :=
  ∃ c fp' gp, e = .returned (optr c) ∧ R w' b fp' s ∧ R w' c gp s ∧ Touch fp w w' ∧ From fp fp' w ∧ (∀ k ∈ gp, w.heap.size ≤ k) ∧ Apart fp' gp
end
section
set_option linter.unusedSimpArgs false
set_option linter.unusedVariables false
open Go.RowKit Sha
/-- A record, where its bytes lie, how much room they have. -/
abbrev SHdr := List Int × Option Addr × Nat
def cellS (y : SHdr) : Value := .slice y.2.1 y.1.length y.2.2
theorem cellS_one (y : SHdr) : (cellS y).oneCell' = true := rfl
structure GoodS (w : World) (y : SHdr) : Prop where
  bytes : ∀ n ∈ y.1, 0 ≤ n ∧ n ≤ 255
  at_ : At w y.2.1 (y.1.map v8)
  le : y.1.length ≤ y.2.2
  max : y.2.2 ≤ 9223372036854775807
  nil : y.2.1 = none → y.2.2 = 0
theorem GoodS.below {w w' : World} {y : SHdr} (h : GoodS w y) (hb : Below w.heap.size w w') : GoodS w' y := ⟨h.bytes, h.at_.below hb, h.le, h.max, h.nil⟩
/-- Records that came in, or are told: a slice of slices that reads as they are. -/
structure Recs (w : World) (p : Option Addr) (n c : Nat) (l : List (List Int)) : Prop where
  len : n = l.length
  le : n ≤ c
  max : c ≤ 9223372036854775807
  nil : p = none → c = 0
  recs : ∃ ys : List SHdr, ys.map (·.1) = l ∧ At w p (ys.map cellS) ∧ ∀ y ∈ ys, GoodS w y
theorem Recs.below {w w' : World} {p : Option Addr} {n c : Nat} {l : List (List Int)} (h : Recs w p n c l) (hb : Below w.heap.size w w') : Recs w' p n c l :=
  ⟨h.len, h.le, h.max, h.nil, by obtain ⟨ys, h1, h2, h3⟩ := h.recs; exact ⟨ys, h1, h2.below hb, fun y hy => (h3 y hy).below hb⟩⟩
theorem Recs.none_ (w : World) : Recs w none 0 0 [] := ⟨rfl, by omega, by omega, fun _ => rfl, [], rfl, At.nil _ _, by simp⟩
theorem Recs.bytes {w : World} {p : Option Addr} {n c : Nat} {l : List (List Int)} (h : Recs w p n c l) : ∀ b ∈ l, ∀ n ∈ b, 0 ≤ n ∧ n ≤ 255 := by
  obtain ⟨ys, rfl, _, h3⟩ := h.recs
  intro b hb
  obtain ⟨y, hy, rfl⟩ := List.mem_map.1 hb
  exact (h3 y hy).bytes
/-- The i-th record. -/
theorem Recs.get {w : World} {p : Option Addr} {n c : Nat} {l : List (List Int)} (h : Recs w p n c l) (i : Nat) (hi : i < l.length) :
    ∃ b off q d, p = some ⟨b, off, none⟩ ∧ w.cell? ⟨b, off + i, none⟩ = some (.slice q l[i].length d) ∧ GoodS w (l[i], q, d) := by
  obtain ⟨ys, rfl, h2, h3⟩ := h.recs
  rw [List.length_map] at hi
  obtain ⟨b, off, rfl, hc⟩ := h2.addr (by rw [List.length_map]; omega)
  refine ⟨b, off, (ys[i]).2.1, (ys[i]).2.2, rfl, ?_, ?_⟩
  · rw [hc i (cellS ys[i]) (by rw [List.getElem?_map, List.getElem?_eq_getElem hi]; rfl)]
    simp [cellS]
  · simpa using h3 ys[i] (List.getElem_mem hi)
/-- The first ones. -/
theorem Recs.take {w : World} {p : Option Addr} {n c : Nat} {l : List (List Int)} (h : Recs w p n c l) (k : Nat) (hk : k ≤ n) : Recs w p k c (l.take k) := by
  obtain ⟨ys, h1, h2, h3⟩ := h.recs
  refine ⟨by rw [List.length_take, ← h.len]; omega, by have := h.le; omega, h.max, h.nil, ys.take k, by rw [List.map_take, h1], ?_, fun y hy => h3 y (List.mem_of_mem_take hy)⟩
  rw [List.map_take]
  have e : ys.map cellS = (ys.map cellS).take k ++ (ys.map cellS).drop k := (List.take_append_drop ..).symm
  rw [e] at h2
  exact h2.front
/-! ### A slice of slices that the call itself makes -/
/-- A record of the call's own. -/
structure RecO (B : Nat) (w : World) (y : SHdr) : Prop where
  bytes : ∀ n ∈ y.1, 0 ≤ n ∧ n ≤ 255
  own : w.ownsRow B 5 1 (cellS y) y.1.length (y.1.map v8)
theorem RecO.good {B : Nat} {w : World} {y : SHdr} (h : RecO B w y) : GoodS w y := by
  obtain ⟨p, cap, hv, hl, hm, hA, hx, hn⟩ := own_at h.own
  unfold cellS at hv
  cases hv
  exact ⟨h.bytes, hA, hl, by unfold maxLen at hm; omega, hn⟩
theorem RecO.carry {B : Nat} {w w' : World} {y : SHdr} (h : RecO B w y) (hc : ∀ (k : Nat) (c : Array Value) (fz : Nat × Nat), w.heap[k]? = some (Obj.cells c 5 fz) → w'.heap[k]? = some (Obj.cells c 5 fz)) : RecO B w' y := by
  refine ⟨h.bytes, h.own.1, ?_⟩
  rcases h.own.2 with h | ⟨g, cap, cur, hv, hg, hh, h4⟩
  · exact Or.inl h
  · exact Or.inr ⟨g, cap, cur, hv, hg, hc g _ _ hh, h4⟩
structure OwnS (B : Nat) (w : World) (v : Value) (ys : List SHdr) : Prop where
  own : w.ownsRow B 22 1 v ys.length (ys.map cellS)
  good : ∀ y ∈ ys, RecO B w y
theorem OwnS.nil (B : Nat) (w : World) : OwnS B w (.slice none 0 0) [] := ⟨World.ownsRow_nil _ _ _ _, by simp⟩
theorem slice_info : (Try.prog.info? 22).map (fun i => (i.zero, i.size, i.bytes)) = some (some (.slice none 0 0), 1, 24) := by kernel_rfl
theorem us_ne : (5 : TypeId) ≠ 22 := by decide
theorem OwnS.on {B : Nat} {w w' : World} {v : Value} {ys : List SHdr} (h : OwnS B w v ys) (hb : Below w.heap.size w w') : OwnS B w' v ys := by
  refine ⟨⟨h.own.1, ?_⟩, fun y hy => (h.good y hy).carry fun k c fz hh => ?_⟩
  · rcases h.own.2 with h' | ⟨g, cap, cur, hv, hg, hh, h4⟩
    · exact Or.inl h'
    · exact Or.inr ⟨g, cap, cur, hv, hg, by rw [hb.block g (h.own.lt g (by rw [hv]; rfl)).2]; exact hh, h4⟩
  · have hk : k < w.heap.size := (Array.getElem?_eq_some_iff.1 hh).1
    rw [hb.block k hk]; exact hh
/-- One more behind them: what append leaves. -/
theorem OwnS.snoc {B : Nat} {w w' : World} {v v' : Value} {ys : List SHdr} {y : SHdr} {o : Obj} (h : OwnS B w v ys) (hy : RecO B w y) (hg : (w.alloc o).grownBy w' v.ownBlock) (hown : w'.ownsRow B 22 1 v' (ys.length + 1) (ys.map cellS ++ [cellS y])) : OwnS B w' v' (ys ++ [y]) := by
  have hc : ∀ (k : Nat) (c : Array Value) (fz : Nat × Nat), w.heap[k]? = some (Obj.cells c 5 fz) → w'.heap[k]? = some (Obj.cells c 5 fz) := by
    intro k c fz hh
    have hk : k < w.heap.size := (Array.getElem?_eq_some_iff.1 hh).1
    have hne : some k ≠ v.ownBlock := by
      intro e
      rcases h.own.2 with ⟨hv, _⟩ | ⟨g, cap, cur, hv, _, hh', _⟩
      · rw [hv] at e; cases e
      · rw [hv] at e
        cases e
        rw [hh'] at hh
        injection hh with hh; injection hh with _ ht
        exact us_ne ht.symm
    rw [hg.block k (by simp; omega) hne, (World.grownBy_alloc w o none).block k hk (by simp)]
    exact hh
  refine ⟨by simpa using hown, fun z hz => ?_⟩
  rcases List.mem_append.1 hz with hz | hz
  · exact (h.good z hz).carry hc
  · rw [List.mem_singleton.1 hz]; exact hy.carry hc
theorem own_weak {w : World} {B B' n size : Nat} {e : TypeId} {v : Value} {xs : List Value} (h : w.ownsRow B e size v n xs) (hb : B' ≤ B) : w.ownsRow B' e size v n xs := by
  refine ⟨h.1, ?_⟩
  rcases h.2 with h | ⟨g, cap, cur, hv, hg, hh⟩
  · exact Or.inl h
  · exact Or.inr ⟨g, cap, cur, hv, Nat.le_trans hb hg, hh⟩
/-- Under an append to bytes of another's that are new. -/
theorem OwnS.grown8 {B n c : Nat} {w w' : World} {v : Value} {ys : List SHdr} {o : Obj} (h : OwnS B w v ys) (hg : (w.alloc o).grownBy w' (Value.ownBlock (.slice (some ⟨w.heap.size, 0, none⟩) n c))) : OwnS B w' v ys := by
  have hk : ∀ k, k < w.heap.size → w'.heap[k]? = w.heap[k]? := fun k hk => by
    rw [hg.block k (by simp; omega) (by simp [Value.ownBlock]; omega), (World.grownBy_alloc w o none).block k hk (by simp)]
  refine ⟨⟨h.own.1, ?_⟩, fun y hy => (h.good y hy).carry fun k c fz hh => ?_⟩
  · rcases h.own.2 with h' | ⟨g, cap, cur, hv, hg', hh, h4⟩
    · exact Or.inl h'
    · exact Or.inr ⟨g, cap, cur, hv, hg', by rw [hk g (h.own.lt g (by rw [hv]; rfl)).2]; exact hh, h4⟩
  · rw [hk k (Array.getElem?_eq_some_iff.1 hh).1]; exact hh
theorem OwnS.told {B : Nat} {w : World} {v : Value} {ys : List SHdr} (h : OwnS B w v ys) : ∃ q c, v = .slice q ys.length c ∧ Recs w q ys.length c (ys.map (·.1)) := by
  obtain ⟨p, cap, hv, hl, hm, hA, hx, hn⟩ := own_at h.own
  exact ⟨p, cap, hv, by simp, hl, by unfold maxLen at hm; omega, hn, ys, rfl, hA, fun y hy => (h.good y hy).good⟩
end
end Go.Proofs.Ythopfpfmliookaa
