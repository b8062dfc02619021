/-
  Notes in memory: their cells, ids and words; loads of their parts.
  A region that draws its order, all of whose operations answer the same in every world behind one: read, and call what only adds to memory. General: no program is named here.
  The kit's SameIDs and SameMembers over ids and words in memory.
  Structs laid, boxed, stored, built: one operation each, that the walk does not open. General: no function is named here.
  Notes in a block: what is loaded of them; notes boxed, compared part by part.
  Slices of slices of bytes in memory: what came in, what the call itself made.
  The contracts of bitOn, byteOn and byteTable.
  The reference's on, More, Sum.
-/
import Derived.Test.YtbogjfmefkhglaaGreatP1
import Derived.Test.YtbogjfmefkhglaaGreatP2
import Derived.WalkSpells
import Derived.IntWalk
import Derived.WalkLawsBesides
import Derived.Laws.StructEq
import Derived.Deep.Quiet
import Derived.BigQuiet
import Derived.Deep.WholeRow
import Derived.Test.YtbogjfmefkhglaaGreatRows
namespace Go.Proofs.YtbogjfmefkhglaaGreat
section
set_option linter.unusedSimpArgs false
set_option linter.unusedVariables false
open Go.RowKit Sha Nte
open Frm (Bytes)
abbrev nic (n : Int) : Value := .int .i64 n
theorem nv8_cells {l : List Int} : ∀ v ∈ l.map v8, v.oneCell' = true := by
  intro v hv
  obtain ⟨n, _, rfl⟩ := List.mem_map.1 hv
  simp [Value.oneCell']
def nmc (m : Mb) : List Value := [nic m.I, nic m.S, nic m.N]
def sW : Shp Mb := ⟨3, fun _ => [], fun m _ _ => nmc m, Mb.ok, by omega, fun _ _ _ => rfl, fun x q c v hv => by
  unfold nmc at hv; simp at hv; rcases hv with rfl | rfl | rfl <;> rfl, fun _ => by simp⟩
def sI : Shp (List Int) := ⟨32, fun _ => [], fun d _ _ => d.map v8, fun d => Bytes d ∧ d.length = 32, by omega, fun _ _ h => by simp [h.2], fun _ _ _ => nv8_cells, fun _ => by simp⟩
/-- Where a note's bytes, ids, words begin, and how much room they have. -/
structure NHd where
  q : Option Addr
  c : Nat
  r : Option Addr
  d : Nat
  s : Option Addr
  e : Nat
def NHd.none_ : NHd := ⟨none, 0, none, 0, none, 0⟩
def ncells (x : Not) (h : NHd) : List Value :=
  nic x.K :: nic x.F :: nic x.T :: nic x.C1 :: nic x.C2 :: nic x.C3 :: nic x.S :: nic x.H :: nic x.B1 :: nic x.B2 :: nic x.O1 :: nic x.O2 :: .bool x.Y :: (x.D.map v8 ++ [.slice h.q x.X.length h.c, .slice h.r x.I.length h.d, .slice h.s x.W.length h.e])
structure NGood (w : World) (x : Not) (h : NHd) : Prop where
  ok : x.ok
  X : At w h.q (x.X.map v8)
  Xc : x.X.length ≤ h.c
  Xm : h.c ≤ 9223372036854775807
  Xn : h.q = none → h.c = 0
  I : sI.Told w h.r x.I.length h.d x.I
  W : sW.Told w h.s x.W.length h.e x.W
theorem NGood.below {w w' : World} {x : Not} {h : NHd} (g : NGood w x h) (hb : Below w.heap.size w w') : NGood w' x h := ⟨g.ok, g.X.below hb, g.Xc, g.Xm, g.Xn, g.I.below hb, g.W.below hb⟩
theorem ncells_0 (x : Not) (h : NHd) : (ncells x h)[0]? = some (nic x.K) := rfl
theorem ncells_1 (x : Not) (h : NHd) : (ncells x h)[1]? = some (nic x.F) := rfl
theorem ncells_2 (x : Not) (h : NHd) : (ncells x h)[2]? = some (nic x.T) := rfl
theorem ncells_6 (x : Not) (h : NHd) : (ncells x h)[6]? = some (nic x.S) := rfl
theorem ncells_7 (x : Not) (h : NHd) : (ncells x h)[7]? = some (nic x.H) := rfl
theorem ncells_12 (x : Not) (h : NHd) : (ncells x h)[12]? = some (.bool x.Y) := rfl
theorem ncells_far (x : Not) (h : NHd) (j : Nat) : (ncells x h)[13 + j]? = (x.D.map v8 ++ [.slice h.q x.X.length h.c, .slice h.r x.I.length h.d, .slice h.s x.W.length h.e])[j]? := by
  unfold ncells
  rw [show 13 + j = j + 1 + 1 + 1 + 1 + 1 + 1 + 1 + 1 + 1 + 1 + 1 + 1 + 1 by omega]
  simp only [List.getElem?_cons_succ]
theorem ncells_D (x : Not) (h : NHd) (j : Nat) (v : Value) (hv : (x.D.map v8)[j]? = some v) : (ncells x h)[13 + j]? = some v := by
  rw [ncells_far, List.getElem?_append_left (List.getElem?_eq_some_iff.1 hv).1]; exact hv
theorem ncells_X {x : Not} (hx : x.D.length = 32) (h : NHd) : (ncells x h)[45]? = some (.slice h.q x.X.length h.c) := by
  rw [show 45 = 13 + 32 from rfl, ncells_far, List.getElem?_append_right (by simp [hx])]; simp [hx]
theorem ncells_I {x : Not} (hx : x.D.length = 32) (h : NHd) : (ncells x h)[46]? = some (.slice h.r x.I.length h.d) := by
  rw [show 46 = 13 + 33 from rfl, ncells_far, List.getElem?_append_right (by simp [hx])]; simp [hx]
theorem ncells_W {x : Not} (hx : x.D.length = 32) (h : NHd) : (ncells x h)[47]? = some (.slice h.s x.W.length h.e) := by
  rw [show 47 = 13 + 34 from rfl, ncells_far, List.getElem?_append_right (by simp [hx])]; simp [hx]
theorem ncells_length {x : Not} (hx : x.D.length = 32) (h : NHd) : (ncells x h).length = 48 := by unfold ncells; simp [hx]
theorem ncells_one (x : Not) (h : NHd) : ∀ v ∈ ncells x h, v.oneCell' = true := by
  unfold ncells
  intro v hv
  simp only [List.mem_cons, List.mem_append, List.not_mem_nil, or_false] at hv
  rcases hv with rfl | rfl | rfl | rfl | rfl | rfl | rfl | rfl | rfl | rfl | rfl | rfl | rfl | hv | rfl | rfl | rfl
  all_goals first | rfl | exact nv8_cells v hv
theorem execOp_loadNote (ρ : Operand → Value) (dst : Option Tmp) (x : Operand) (ty : TypeId) (pos : String) (after : Array Edge) (guard : Option (Nat × Bool)) :
    execOp ρ { dst := dst, op := .load 32 x, type := ty, pos := pos, after := after, guard := guard } = loadOp 32 (ρ x) := by unfold loadOp; rfl
theorem execOp_loadCall (ρ : Operand → Value) (dst : Option Tmp) (x : Operand) (ty : TypeId) (pos : String) (after : Array Edge) (guard : Option (Nat × Bool)) :
    execOp ρ { dst := dst, op := .load 23 x, type := ty, pos := pos, after := after, guard := guard } = loadOp 23 (ρ x) := by unfold loadOp; rfl
theorem execOp_loadBall (ρ : Operand → Value) (dst : Option Tmp) (x : Operand) (ty : TypeId) (pos : String) (after : Array Edge) (guard : Option (Nat × Bool)) :
    execOp ρ { dst := dst, op := .load 25 x, type := ty, pos := pos, after := after, guard := guard } = loadOp 25 (ρ x) := by unfold loadOp; rfl
theorem execOp_loadWord (ρ : Operand → Value) (dst : Option Tmp) (x : Operand) (ty : TypeId) (pos : String) (after : Array Edge) (guard : Option (Nat × Bool)) :
    execOp ρ { dst := dst, op := .load 57 x, type := ty, pos := pos, after := after, guard := guard } = loadOp 57 (ρ x) := by unfold loadOp; rfl
theorem note_size : (Tryz.prog.info? 32).map (fun i => i.size) = some 48 := by kernel_rfl
theorem call_size : (Tryz.prog.info? 23).map (fun i => i.size) = some 3 := by kernel_rfl
theorem ball_size : (Tryz.prog.info? 25).map (fun i => i.size) = some 2 := by kernel_rfl
theorem word_size : (Tryz.prog.info? 57).map (fun i => i.size) = some 3 := by kernel_rfl
theorem rangeAt_part {w : World} {g o : Nat} {cs : List Value} (h : w.rangeAt g o cs) (k : Nat) {ds : List Value} (hd : ∀ j v, ds[j]? = some v → cs[k + j]? = some v) : w.rangeAt g (o + k) ds := fun j v hv => by
  rw [Nat.add_assoc]; exact h _ v (hd j v hv)
theorem load_note {w : World} {g o : Nat} {x : Not} {h : NHd} (hx : x.D.length = 32) (hr : w.rangeAt g o (ncells x h)) : (loadOp 32 (.pointer (some ⟨g, o, none⟩))).run Tryz.prog w = .ok (.value (.agg (ncells x h).toArray)) w :=
  run_loadOp (run_loadAt_mid w g o 32 _ _ hr Tryz.underlying32 rfl (by rw [note_size, ncells_length hx]))
theorem load_nid {w : World} {g o : Nat} {x : Not} {h : NHd} (hx : x.D.length = 32) (hr : w.rangeAt g o (ncells x h)) : (loadOp 27 (.pointer (some ⟨g, o + 13, none⟩))).run Tryz.prog w = .ok (.value (.agg (x.D.map v8).toArray)) w :=
  run_loadOp (run_loadAt_mid w g (o + 13) 27 _ _ (rangeAt_part hr 13 (ncells_D x h)) Tryz.underlying27 rfl (by rw [id_size, List.length_map, hx]))
theorem load_ncall {w : World} {g o : Nat} {x : Not} {h : NHd} (hr : w.rangeAt g o (ncells x h)) : (loadOp 23 (.pointer (some ⟨g, o + 3, none⟩))).run Tryz.prog w = .ok (.value (.agg #[nic x.C1, nic x.C2, nic x.C3])) w :=
  run_loadOp (run_loadAt_mid w g (o + 3) 23 [nic x.C1, nic x.C2, nic x.C3] _ (rangeAt_part hr 3 (fun j v hv => by
    match j with
    | 0 => exact hv
    | 1 => exact hv
    | 2 => exact hv
    | j + 3 => simp at hv)) Tryz.underlying23 rfl (by rw [call_size]; rfl))
theorem load_nball {w : World} {g o : Nat} {x : Not} {h : NHd} (hr : w.rangeAt g o (ncells x h)) : (loadOp 25 (.pointer (some ⟨g, o + 8, none⟩))).run Tryz.prog w = .ok (.value (.agg #[nic x.B1, nic x.B2])) w :=
  run_loadOp (run_loadAt_mid w g (o + 8) 25 [nic x.B1, nic x.B2] _ (rangeAt_part hr 8 (fun j v hv => by
    match j with
    | 0 => exact hv
    | 1 => exact hv
    | j + 2 => simp at hv)) Tryz.underlying25 rfl (by rw [ball_size]; rfl))
theorem load_noth {w : World} {g o : Nat} {x : Not} {h : NHd} (hr : w.rangeAt g o (ncells x h)) : (loadOp 25 (.pointer (some ⟨g, o + 10, none⟩))).run Tryz.prog w = .ok (.value (.agg #[nic x.O1, nic x.O2])) w :=
  run_loadOp (run_loadAt_mid w g (o + 10) 25 [nic x.O1, nic x.O2] _ (rangeAt_part hr 10 (fun j v hv => by
    match j with
    | 0 => exact hv
    | 1 => exact hv
    | j + 2 => simp at hv)) Tryz.underlying25 rfl (by rw [ball_size]; rfl))
theorem load_word {w : World} {g o : Nat} {m : Mb} (hr : w.rangeAt g o (nmc m)) : (loadOp 57 (.pointer (some ⟨g, o, none⟩))).run Tryz.prog w = .ok (.value (.agg (nmc m).toArray)) w :=
  run_loadOp (run_loadAt_mid w g o 57 _ _ hr Tryz.underlying57 rfl (by rw [word_size]; rfl))
theorem load_idr {w : World} {g o : Nat} {d : List Int} (hx : d.length = 32) (hr : w.rangeAt g o (d.map v8)) : (loadOp 27 (.pointer (some ⟨g, o, none⟩))).run Tryz.prog w = .ok (.value (.agg (d.map v8).toArray)) w :=
  run_loadOp (run_loadAt_mid w g o 27 _ _ hr Tryz.underlying27 rfl (by rw [id_size, List.length_map, hx]))
end
section
set_option linter.unusedSimpArgs false
set_option linter.unusedVariables false
open Go.RowKit
variable {P : Program}
theorem wp_region_cls {I : Type} (W : I → World) {id : Nat} {Q : Exit → Act → World → Prop} {a : Act} {w : World} {l : List Oper} (hm : P.follows .mixedOrders = true) (hB : Region.lexB .any l.toArray = true) (h0 : ∃ n, w.drew = W n)
    (h : wpQuiet P l.toArray (fun w' => ∃ n, w' = W n) (fun a' => ∀ w', (∃ n, w' = W n) → Q .normal a' w') l a) : (Code.region id l.toArray true).wp P Q a w :=
  wp_region_quiet (C := fun w' => ∃ n, w' = W n) hm hB h0 (by simpa using h)
/-- The worlds behind one, by number. -/
structure Cls (w : World) (I : Type) (W : I → World) : Prop where
  back : ∀ n, Below w.heap.size w (W n)
  all : ∀ w', Below w.heap.size w w' → ∃ n, w' = W n
theorem cls_of (w : World) : ∃ (I : Type) (W : I → World), Cls w I W := ⟨{w' : World // Below w.heap.size w w'}, Subtype.val, fun n => n.2, fun w' h => ⟨⟨w', h⟩, rfl⟩⟩
section
variable {w : World} {I : Type} {W : I → World}
theorem Cls.ne (h : Cls w I W) : Nonempty I := by
  obtain ⟨n, _⟩ := h.all w (Below.refl _ _)
  exact ⟨n⟩
theorem Cls.one (h : Cls w I W) : ∃ n, w.drew = W n := h.all _ (Below.refl _ _).drew
theorem Cls.cell (h : Cls w I W) {p : Addr} {v : Value} (hc : w.cell? p = some v) : ∀ n, (W n).cell? p = some v := fun n => ((h.back n).cell (World.block_lt_of_cell? w p hc)).trans hc
theorem Cls.call (h : Cls w I W) {f : Nat} {args : Array Value} {v : Value} (hc : ∀ w', Below w.heap.size w w' → Calls P f args w' fun e w'' => e = .returned v ∧ Below w'.heap.size w' w'') : ∀ n, Calls P f args (W n) fun e w'' => e = .returned v ∧ ∃ m, w'' = W m := fun n =>
  (hc _ (h.back n)).mono fun e w'' ⟨he, hb⟩ => ⟨he, h.all _ ((h.back n).trans (hb.mono (h.back n).size))⟩
end
end
section
set_option linter.unusedSimpArgs false
set_option linter.unusedVariables false
open Go.RowKit Sha Nte
@[irreducible] def eqO (t : TypeId) (x y : Operand) (u v : Value) : Sem Next := do pure (.value (← (do eqGuard .eql t x y u v; binOp .eql t u v)))
@[irreducible] def neO (t : TypeId) (x y : Operand) (u v : Value) : Sem Next := do pure (.value (← (do eqGuard .neq t x y u v; binOp .neq t u v)))
theorem execOp_eqId (ρ : Operand → Value) (dst : Option Tmp) (x y : Operand) (r : TypeId) (ty : TypeId) (pos : String) (after : Array Edge) (guard : Option (Nat × Bool)) :
    execOp ρ { dst := dst, op := .binOp .eql 27 x y r, type := ty, pos := pos, after := after, guard := guard } = eqO 27 x y (ρ x) (ρ y) := by unfold eqO; rfl
theorem execOp_neWord (ρ : Operand → Value) (dst : Option Tmp) (x y : Operand) (r : TypeId) (ty : TypeId) (pos : String) (after : Array Edge) (guard : Option (Nat × Bool)) :
    execOp ρ { dst := dst, op := .binOp .neq 57 x y r, type := ty, pos := pos, after := after, guard := guard } = neO 57 x y (ρ x) (ρ y) := by unfold neO; rfl
theorem run_eqId (x y : Operand) (xs ys : List Int) (hx : xs.length = 32) (hy : ys.length = 32) (b : Bool) (hb : b = decide (xs = ys)) (w : World) : (eqO 27 x y (.agg (xs.map v8).toArray) (.agg (ys.map v8).toArray)).run Tryz.prog w = .ok (.value (.bool b)) w := by
  have hr := run_eql_arr (P := Tryz.prog) w x y 27 5 32 .u8 Tryz.underlying27 Tryz.underlying5 kslice1 xs ys hx hy
  subst hb
  unfold eqO
  simp only [Sem.run_bind, Sem.run_pure, Result.andThen_ok] at hr ⊢
  rw [hr]
  rfl
theorem run_neWord (a b : Mb) (e : Bool) (he : e = decide (a ≠ b)) (x y : Operand) (w : World) : (neO 57 x y (.agg (nmc a).toArray) (.agg (nmc b).toArray)).run Tryz.prog w = .ok (.value (.bool e)) w := by
  subst he
  have hd : decide (a ≠ b) = !(a.I == b.I && a.S == b.S && a.N == b.N) := by
    rw [Bool.eq_iff_iff]; simp [Mb.eq_iff, and_assoc]; omega
  rw [hd]
  unfold neO nmc
  by_cases h : a.I = b.I <;> by_cases h2 : a.S = b.S <;> by_cases h3 : a.N = b.N <;> simp [go_sem, h, h2, h3]
theorem rangeN_on {w w' : World} {g o : Nat} {cs : List Value} (h : w.rangeAt g o cs) (hb : Below w.heap.size w w') : w'.rangeAt g o cs := fun j v hv => by
  have := h j v hv
  exact (hb.cell (World.block_lt_of_cell? w _ this)).trans this
theorem take_next {α : Type} (l l' : List α) (k : Nat) (h1 : k < l.length) (h2 : k < l'.length) (h : l.take k = l'.take k) : (l.take (k + 1) = l'.take (k + 1)) ↔ l[k] = l'[k] := by
  rw [List.take_succ_eq_append_getElem h1, List.take_succ_eq_append_getElem h2, h]
  exact ⟨fun e => by simpa using List.append_cancel_left e, fun e => by rw [e]⟩
section
attribute [local go_sem ↓] execOp_loadId execOp_loadWord execOp_eqId execOp_neWord
set_option maxRecDepth 100000 in
set_option maxHeartbeats 2000000 in
theorem sameIds_any (l l' : List (List Int)) (n m : Nat) (q p : Option Addr) (c d : Nat) (w : World) (hl : sI.Told w q n c l) (hl' : sI.Told w p m d l') :
    Calls Tryz.prog 35 #[.slice q n c, .slice p m d] w fun e w' => e = .returned (.bool (decide (l = l'))) ∧ Below w.heap.size w w' := by
  have HL := Lib.hid hl
  have HR := Lib.hid hl'
  have HN := Lib.hid hl.len
  have HM := Lib.hid hl'.len
  have b1 := hl.le
  have b2 := hl.max
  have b3 := hl'.le
  have b4 := hl'.max
  obtain ⟨z, hz⟩ : ∃ z, z = ((n : Int) == (m : Int)) := ⟨_, rfl⟩
  have HZ := Lib.hid (show (z = true → n = m) ∧ (z = false → l ≠ l') from by
    rw [hz]
    refine ⟨fun h => ?_, fun h e => ?_⟩
    · have := of_decide_eq_true h; omega
    · have h1 := hl.len
      have h2 := hl'.len
      rw [e] at h1
      have := of_decide_eq_false h
      omega)
  have tz := hz.symm
  clear hl hl' hz
  go_enter Tryz.func35, Tryz.ntmps35
  go_wp2_with fail
  clear tz
  go_loopw [5, 6] (fun s i wr => ∃ (b : Bool) (k : Nat), s = .bool b ∧ i = .int .i64 k ∧ k ≤ n ∧ Hid ((b = true → n = m ∧ l.take k = l'.take k) ∧ (b = false → l ≠ l')) ∧ Hid (Below w.heap.size w wr)) (fun _ i _ => n - (intOf i).toNat)
  case atStart => exact ⟨z, 0, rfl, rfl, by omega, Lib.hid ⟨fun h => ⟨HZ.out.1 h, rfl⟩, HZ.out.2⟩, Lib.hid (Below.refl _ _)⟩
  case round =>
    obtain ⟨b, k, rfl, rfl, hk, HT, HB⟩ := hrel
    cases b with
    | false =>
      have HV := Lib.hid (show decide (l = l') = false from decide_eq_false (HT.out.2 rfl))
      clear HT HZ
      go_wp2_with fail
      go_ret
      exact ⟨by rw [HV.out]; rfl, HB.out⟩
    | true =>
      obtain ⟨hnm, ht⟩ := HT.out.1 rfl
      subst hnm
      clear HT HZ
      by_cases hlt : k < n
      · have hk1 : k < l.length := by rw [← HN.out]; exact hlt
        have hk2 : k < l'.length := by rw [← HM.out]; exact hlt
        obtain ⟨b, off, q1, c1, rfl, hr, hg⟩ := HL.out.rows.get k hk1
        obtain ⟨b', off', q2, c2, rfl, hr', hg'⟩ := HR.out.rows.get k hk2
        have hr : w.rangeAt b (off + k * 32) (l[k].map v8) := hr
        have hr' : w.rangeAt b' (off' + k * 32) (l'[k].map v8) := hr'
        have jk : (0 : Int) ≤ (k : Int) ∧ (k : Int) < (n : Int) := by omega
        have m1 := load_idr hg.ok.2 (rangeN_on hr HB.out.drew)
        have m2 := load_idr hg'.ok.2 (rangeN_on hr' HB.out.drew)
        have HS := Lib.hid (take_next l l' k hk1 hk2 ht)
        have HNE := Lib.hid (show l[k] ≠ l'[k] → l ≠ l' from fun h e => h (by simp [e]))
        have e1 := hg.ok.2
        have e2 := hg'.ok.2
        generalize l[k] = x at *
        generalize l'[k] = y at *
        obtain ⟨v, hv⟩ : ∃ v, v = decide (x = y) := ⟨_, rfl⟩
        have HQ := fun o1 o2 => run_eqId o1 o2 x y e1 e2 v hv
        have HP := Lib.hid (show (v = true → n = n ∧ l.take (k + 1) = l'.take (k + 1)) ∧ (v = false → l ≠ l') from by
          rw [hv]
          exact ⟨fun h => ⟨rfl, HS.out.2 (of_decide_eq_true h)⟩, fun h => HNE.out (of_decide_eq_false h)⟩)
        have B2 := Lib.hid HB.out.drew
        clear hr hr' hk1 hk2 hg hg' e1 e2 hv HS HNE ht
        go_wp2_with fail
        refine region_tail 9 (by kernel_rfl) (by kernel_rfl) ?_
        simp only [List.take_succ_cons, List.take_zero, List.drop_succ_cons, List.drop_zero]
        generalize wr.drew = wv at *
        repeat go_big_quiet_step (fail)
        refine wpQuiet_nil ?_
        clear m1 m2 HQ
        go_wp2_with fail
        go_roundw
        case rel => exact ⟨v, k + 1, rfl, by go_num, by omega, HP, B2⟩
        case measure => simp [intOf]; omega
      · obtain rfl : n = k := by omega
        have HV := Lib.hid (show decide (l = l') = true from decide_eq_true (by
          rwa [List.take_of_length_le (by rw [← HN.out]; exact Nat.le_refl _), List.take_of_length_le (by rw [← HM.out]; exact Nat.le_refl _)] at ht))
        clear ht
        go_wp2_with fail
        go_ret
        exact ⟨by rw [HV.out]; rfl, HB.out⟩
set_option maxRecDepth 100000 in
set_option maxHeartbeats 2000000 in
theorem sameWords_any (l l' : List Mb) (n m : Nat) (q p : Option Addr) (c d : Nat) (w : World) (hl : sW.Told w q n c l) (hl' : sW.Told w p m d l') :
    Calls Tryz.prog 36 #[.slice q n c, .slice p m d] w fun e w' => e = .returned (.bool (decide (l = l'))) ∧ Below w.heap.size w w' := by
  have HL := Lib.hid hl
  have HR := Lib.hid hl'
  have HN := Lib.hid hl.len
  have HM := Lib.hid hl'.len
  have b1 := hl.le
  have b2 := hl.max
  have b3 := hl'.le
  have b4 := hl'.max
  clear hl hl'
  by_cases hnm : n = m
  · subst hnm
    have t0 : ((n : Int) != (n : Int)) = false := by simp
    go_enter Tryz.func36, Tryz.ntmps36
    go_wp2_with fail
    go_loopw [5] (fun i wr => ∃ k : Nat, i = .int .i64 k ∧ k ≤ n ∧ Hid (l.take k = l'.take k) ∧ Hid (Below w.heap.size w wr)) (fun i _ => n - (intOf i).toNat)
    case atStart => exact ⟨0, rfl, by omega, Lib.hid rfl, Lib.hid (Below.refl _ _)⟩
    case round =>
      obtain ⟨k, rfl, hk, HT, HB⟩ := hrel
      by_cases hlt : k < n
      · have hk1 : k < l.length := by rw [← HN.out]; exact hlt
        have hk2 : k < l'.length := by rw [← HM.out]; exact hlt
        obtain ⟨b, off, q1, c1, rfl, hr, hg⟩ := HL.out.rows.get k hk1
        obtain ⟨b', off', q2, c2, rfl, hr', hg'⟩ := HR.out.rows.get k hk2
        have hr : w.rangeAt b (off + k * 3) (nmc l[k]) := hr
        have hr' : w.rangeAt b' (off' + k * 3) (nmc l'[k]) := hr'
        have jk : (0 : Int) ≤ (k : Int) ∧ (k : Int) < (n : Int) := by omega
        obtain ⟨I, W, hC⟩ := cls_of wr
        have hne : Nonempty I := hC.ne
        have m1 := fun i => load_word (rangeN_on hr (HB.out.trans ((hC.back i).mono HB.out.size)))
        have m2 := fun i => load_word (rangeN_on hr' (HB.out.trans ((hC.back i).mono HB.out.size)))
        have HC := Lib.hid hC
        have HS := Lib.hid (take_next l l' k hk1 hk2 HT.out)
        have HNE := Lib.hid (show l[k] ≠ l'[k] → l ≠ l' from fun h e => h (by simp [e]))
        generalize l[k] = x at *
        generalize l'[k] = y at *
        clear hC hr hr' hk1 hk2 HT hg hg'
        by_cases hxy : x = y
        · have HT2 := Lib.hid (HS.out.2 hxy)
          have HQ := run_neWord x y false (by simp [hxy])
          clear hxy HS HNE
          go_wp2_with fail
          refine wp_region_cls W (by kernel_rfl) (by kernel_rfl) HC.out.one ?_
          repeat go_big_quiet_step (fail)
          refine wpQuiet_nil ?_
          rintro _ ⟨mm, rfl⟩
          have B2 := Lib.hid (HB.out.trans ((HC.out.back mm).mono HB.out.size))
          clear m1 m2 HQ HC
          generalize W mm = wv at *
          go_wp2_with fail
          go_roundw
          case rel => exact ⟨k + 1, by go_num, by omega, HT2, B2⟩
          case measure => simp [intOf]; omega
        · have HV := Lib.hid (decide_eq_false (HNE.out hxy))
          have HQ := run_neWord x y true (by simp [hxy])
          clear hxy HS HNE
          go_wp2_with fail
          refine wp_region_cls W (by kernel_rfl) (by kernel_rfl) HC.out.one ?_
          repeat go_big_quiet_step (fail)
          refine wpQuiet_nil ?_
          rintro _ ⟨mm, rfl⟩
          have B2 := Lib.hid (HB.out.trans ((HC.out.back mm).mono HB.out.size))
          clear m1 m2 HQ HC
          generalize W mm = wv at *
          go_wp2_with fail
          try rw [Exit.noGoto_ret]
          go_ret
          exact ⟨by rw [HV.out]; rfl, B2.out⟩
      · obtain rfl : n = k := by omega
        have HV := Lib.hid (show decide (l = l') = true from decide_eq_true (by
          have := HT.out
          rwa [List.take_of_length_le (by rw [← HN.out]; exact Nat.le_refl _), List.take_of_length_le (by rw [← HM.out]; exact Nat.le_refl _)] at this))
        clear HT
        go_wp2_with fail
        go_ret
        exact ⟨by rw [HV.out]; rfl, HB.out⟩
  · have t0 : ((n : Int) != (m : Int)) = true := by simpa using (show (n : Int) ≠ (m : Int) by omega)
    have HV := Lib.hid (show decide (l = l') = false from decide_eq_false (fun e => hnm (by rw [HN.out, HM.out, e])))
    clear hnm
    go_enter Tryz.func36, Tryz.ntmps36
    go_wp2_with fail
    go_ret
    exact ⟨by rw [HV.out]; rfl, Below.refl _ _⟩
end
end
section
set_option linter.unusedSimpArgs false
set_option linter.unusedVariables false
open Go.RowKit Sha
@[irreducible] def allocOp (t : TypeId) : Sem Next := do pure (.value (← Instr.alloc t true (.tuple #[])))
@[irreducible] def storeOp (t : TypeId) (x v : Value) : Sem Next := do Instr.storeAt t x v; pure .skip
@[irreducible] def boxOp (t : TypeId) (x : Value) : Sem Next := do pure (.value (← Instr.box t x))
@[irreducible] def makeOp (t : TypeId) (parts : Array (Nat × Value)) : Sem Next := do pure (.value (← Instr.build t parts))
section
variable {P : Program} {t : TypeId} {w : World} {cs old : Array Value}
theorem run_allocOp (w : World) (hz : (P.info? t).map (fun i => i.zero) = some (some (.agg cs))) : (allocOp t).run P w = .ok (.value (.pointer (some ⟨w.heap.size, 0, none⟩))) (w.alloc (.cells cs t)) := by
  have hz' : (zeroValue t).run P w = .ok (.agg cs) w := by
    cases hq : P.info? t with
    | none => simp [hq] at hz
    | some i => simp [hq] at hz; simp [zeroValue, typeInfo, hq, hz]
  unfold allocOp
  simp only [Instr.alloc, Sem.run_bind, hz', Result.andThen_ok, Sem.run_pure]
  rfl
theorem run_boxOp (w : World) : (boxOp t (.agg cs)).run P w = .ok (.value (.pointer (some ⟨w.heap.size, 0, none⟩))) (w.alloc (.cells cs t)) := by
  unfold boxOp
  simp only [Instr.box, Sem.run_bind, Result.andThen_ok, Sem.run_pure]
  rfl
theorem run_storeOp {g : Nat} {te : TypeId} (hg : w.heap[g]? = some (.cells old te (0, 0))) (hi : (P.info? t).map (fun i => i.size) = some cs.size) (ho : old.size = cs.size) (h1 : cs.all (·.oneCell') = true) : (storeOp t (.pointer (some ⟨g, 0, none⟩)) (.agg cs)).run P w = .ok .skip (w.setRow g cs) := by
  unfold storeOp
  simp only [Instr.storeAt, Instr.sureAddr, Sem.run_bind, Sem.run_pure, Result.andThen_ok, run_storeVar_row w g te t old cs hg hi ho h1]
theorem run_storeNew (w : World) (hi : (P.info? t).map (fun i => i.size) = some cs.size) (ho : old.size = cs.size) (h1 : cs.all (·.oneCell') = true) : (storeOp t (.pointer (some ⟨w.heap.size, 0, none⟩)) (.agg cs)).run P (w.alloc (.cells old t)) = .ok .skip (w.alloc (.cells cs t)) := by
  rw [run_storeOp (heap_alloc_new w _) hi ho h1, World.setRow_alloc_new]
theorem run_loadRow {g : Nat} {te : TypeId} {d : TypeDesc} (hg : w.heap[g]? = some (.cells cs te (0, 0))) (hu : P.underlying t = some d) (hd : (match d with | .struct _ | .array _ _ => true | _ => false) = true) (hi : (P.info? t).map (fun i => i.size) = some cs.size) : (loadOp t (.pointer (some ⟨g, 0, none⟩))).run P w = .ok (.value (.agg cs)) w := by
  refine run_loadOp ?_
  simp only [Instr.loadAt, Instr.sureAddr, Sem.run_bind, Sem.run_pure, Result.andThen_ok, run_loadVar_row w g te t cs (0, 0) d hg hu hd hi]
theorem run_makeOp {parts : Array (Nat × Value)} (w : World) (h : P.built t parts.toList = some cs) : (makeOp t parts).run P w = .ok (.value (.agg cs)) w := by
  unfold makeOp; simp only [Sem.run_bind, run_build w t _ cs h, Result.andThen_ok, Sem.run_pure]
end
end
section
set_option linter.unusedSimpArgs false
set_option linter.unusedVariables false
open Go.RowKit Sha Nte
theorem execOp_eqCall (ρ : Operand → Value) (dst : Option Tmp) (x y : Operand) (r : TypeId) (ty : TypeId) (pos : String) (after : Array Edge) (guard : Option (Nat × Bool)) :
    execOp ρ { dst := dst, op := .binOp .eql 23 x y r, type := ty, pos := pos, after := after, guard := guard } = eqO 23 x y (ρ x) (ρ y) := by unfold eqO; rfl
theorem execOp_eqBall (ρ : Operand → Value) (dst : Option Tmp) (x y : Operand) (r : TypeId) (ty : TypeId) (pos : String) (after : Array Edge) (guard : Option (Nat × Bool)) :
    execOp ρ { dst := dst, op := .binOp .eql 25 x y r, type := ty, pos := pos, after := after, guard := guard } = eqO 25 x y (ρ x) (ρ y) := by unfold eqO; rfl
theorem run_eqCall (a b c a' b' c' : Int) (e : Bool) (he : e = decide (a = a' ∧ b = b' ∧ c = c')) (x y : Operand) (w : World) : (eqO 23 x y (.agg #[nic a, nic b, nic c]) (.agg #[nic a', nic b', nic c'])).run Tryz.prog w = .ok (.value (.bool e)) w := by
  subst he
  have hd : decide (a = a' ∧ b = b' ∧ c = c') = (a == a' && b == b' && c == c') := by
    rw [Bool.eq_iff_iff]; simp [and_assoc]
  rw [hd]
  unfold eqO
  by_cases h : a = a' <;> by_cases h2 : b = b' <;> by_cases h3 : c = c' <;> simp [go_sem, h, h2, h3]
theorem run_eqBall (a b a' b' : Int) (e : Bool) (he : e = decide (a = a' ∧ b = b')) (x y : Operand) (w : World) : (eqO 25 x y (.agg #[nic a, nic b]) (.agg #[nic a', nic b'])).run Tryz.prog w = .ok (.value (.bool e)) w := by
  subst he
  have hd : decide (a = a' ∧ b = b') = (a == a' && b == b') := by
    rw [Bool.eq_iff_iff]; simp
  rw [hd]
  unfold eqO
  by_cases h : a = a' <;> by_cases h2 : b = b' <;> simp [go_sem, h, h2]
theorem not_ext (x y : Not) : decide (x = y) = ((x.K == y.K) && (x.F == y.F) && (x.T == y.T) && decide (x.C1 = y.C1 ∧ x.C2 = y.C2 ∧ x.C3 = y.C3) && (x.S == y.S) && (x.H == y.H) && decide (x.B1 = y.B1 ∧ x.B2 = y.B2) && decide (x.O1 = y.O1 ∧ x.O2 = y.O2) && (x.Y == y.Y) && decide (x.D = y.D) && decide (x.X = y.X) && decide (x.I = y.I) && decide (x.W = y.W)) := by
  cases x; cases y
  rw [Bool.eq_iff_iff]
  simp [and_assoc]
section
variable (ρ : Operand → Value) (dst : Option Tmp) (x : Operand) (ty : TypeId) (pos : String) (after : Array Edge) (guard : Option (Nat × Bool))
theorem execOp_loadInt : execOp ρ { dst := dst, op := .load 3 x, type := ty, pos := pos, after := after, guard := guard } = loadOp 3 (ρ x) := by unfold loadOp; rfl
theorem execOp_loadBool : execOp ρ { dst := dst, op := .load 4 x, type := ty, pos := pos, after := after, guard := guard } = loadOp 4 (ρ x) := by unfold loadOp; rfl
theorem execOp_loadBytes : execOp ρ { dst := dst, op := .load 28 x, type := ty, pos := pos, after := after, guard := guard } = loadOp 28 (ρ x) := by unfold loadOp; rfl
theorem execOp_loadIds : execOp ρ { dst := dst, op := .load 29 x, type := ty, pos := pos, after := after, guard := guard } = loadOp 29 (ρ x) := by unfold loadOp; rfl
theorem execOp_loadWords : execOp ρ { dst := dst, op := .load 30 x, type := ty, pos := pos, after := after, guard := guard } = loadOp 30 (ρ x) := by unfold loadOp; rfl
end
theorem load_int {w : World} {g o : Nat} {n : Int} (h : w.cell? ⟨g, o, none⟩ = some (nic n)) : (loadOp 3 (.pointer (some ⟨g, o, none⟩))).run Tryz.prog w = .ok (.value (nic n)) w := by unfold loadOp; simp [go_sem, h]
theorem load_bool {w : World} {g o : Nat} {n : Bool} (h : w.cell? ⟨g, o, none⟩ = some (.bool n)) : (loadOp 4 (.pointer (some ⟨g, o, none⟩))).run Tryz.prog w = .ok (.value (.bool n)) w := by unfold loadOp; simp [go_sem, h]
theorem load_bytes {w : World} {g o : Nat} {v : Value} (h : w.cell? ⟨g, o, none⟩ = some v) : (loadOp 28 (.pointer (some ⟨g, o, none⟩))).run Tryz.prog w = .ok (.value v) w := by unfold loadOp; simp [go_sem, h]
theorem load_ids {w : World} {g o : Nat} {v : Value} (h : w.cell? ⟨g, o, none⟩ = some v) : (loadOp 29 (.pointer (some ⟨g, o, none⟩))).run Tryz.prog w = .ok (.value v) w := by unfold loadOp; simp [go_sem, h]
theorem load_words {w : World} {g o : Nat} {v : Value} (h : w.cell? ⟨g, o, none⟩ = some v) : (loadOp 30 (.pointer (some ⟨g, o, none⟩))).run Tryz.prog w = .ok (.value v) w := by unfold loadOp; simp [go_sem, h]
/-- A note in a block: what is loaded of it. -/
structure NBlk (w : World) (g : Nat) (x : Not) (h : NHd) : Prop where
  c0 : (loadOp 3 (.pointer (some ⟨g, 0, none⟩))).run Tryz.prog w = .ok (.value (nic x.K)) w
  c1 : (loadOp 3 (.pointer (some ⟨g, 1, none⟩))).run Tryz.prog w = .ok (.value (nic x.F)) w
  c2 : (loadOp 3 (.pointer (some ⟨g, 2, none⟩))).run Tryz.prog w = .ok (.value (nic x.T)) w
  c3 : (loadOp 23 (.pointer (some ⟨g, 3, none⟩))).run Tryz.prog w = .ok (.value (.agg #[nic x.C1, nic x.C2, nic x.C3])) w
  c6 : (loadOp 3 (.pointer (some ⟨g, 6, none⟩))).run Tryz.prog w = .ok (.value (nic x.S)) w
  c7 : (loadOp 3 (.pointer (some ⟨g, 7, none⟩))).run Tryz.prog w = .ok (.value (nic x.H)) w
  c8 : (loadOp 25 (.pointer (some ⟨g, 8, none⟩))).run Tryz.prog w = .ok (.value (.agg #[nic x.B1, nic x.B2])) w
  c10 : (loadOp 25 (.pointer (some ⟨g, 10, none⟩))).run Tryz.prog w = .ok (.value (.agg #[nic x.O1, nic x.O2])) w
  c12 : (loadOp 4 (.pointer (some ⟨g, 12, none⟩))).run Tryz.prog w = .ok (.value (.bool x.Y)) w
  c13 : (loadOp 27 (.pointer (some ⟨g, 13, none⟩))).run Tryz.prog w = .ok (.value (.agg (x.D.map v8).toArray)) w
  c45 : (loadOp 28 (.pointer (some ⟨g, 45, none⟩))).run Tryz.prog w = .ok (.value (.slice h.q x.X.length h.c)) w
  c46 : (loadOp 29 (.pointer (some ⟨g, 46, none⟩))).run Tryz.prog w = .ok (.value (.slice h.r x.I.length h.d)) w
  c47 : (loadOp 30 (.pointer (some ⟨g, 47, none⟩))).run Tryz.prog w = .ok (.value (.slice h.s x.W.length h.e)) w
theorem nblk_cells {w : World} {g : Nat} {x : Not} {h : NHd} (hr : w.rangeAt g 0 (ncells x h)) (i : Nat) {v : Value} (hv : (ncells x h)[i]? = some v) : w.cell? ⟨g, i, none⟩ = some v := by
  have := hr i v hv
  rwa [Nat.zero_add] at this
theorem nblk_of {w : World} {g : Nat} {x : Not} {h : NHd} (hr : w.rangeAt g 0 (ncells x h)) (hx : x.D.length = 32) : NBlk w g x h :=
  ⟨load_int (nblk_cells hr 0 (ncells_0 x h)), load_int (nblk_cells hr 1 (ncells_1 x h)), load_int (nblk_cells hr 2 (ncells_2 x h)), load_ncall (o := 0) hr, load_int (nblk_cells hr 6 (ncells_6 x h)), load_int (nblk_cells hr 7 (ncells_7 x h)), load_nball (o := 0) hr, load_noth (o := 0) hr,
   load_bool (nblk_cells hr 12 (ncells_12 x h)), load_nid (o := 0) hx hr, load_bytes (nblk_cells hr 45 (ncells_X hx h)), load_ids (nblk_cells hr 46 (ncells_I hx h)), load_words (nblk_cells hr 47 (ncells_W hx h))⟩
theorem nblk {w : World} {g : Nat} {x : Not} {h : NHd} (k : Blk w g (ncells x h) 32) (hx : x.D.length = 32) : NBlk w g x h := nblk_of k.range hx
theorem execOp_boxNote (ρ : Operand → Value) (dst : Option Tmp) (x : Operand) (ty : TypeId) (pos : String) (after : Array Edge) (guard : Option (Nat × Bool)) :
    execOp ρ { dst := dst, op := .box 32 x, type := ty, pos := pos, after := after, guard := guard } = boxOp 32 (ρ x) := by unfold boxOp; rfl
/-- A note boxed. -/
theorem box_note (w : World) (x : Not) (h : NHd) : ∃ (g : Nat) (w1 : World), (boxOp 32 (.agg (ncells x h).toArray)).run Tryz.prog w = .ok (.value (.pointer (some ⟨g, 0, none⟩))) w1 ∧ g = w.heap.size ∧ g < w1.heap.size ∧ Blk w1 g (ncells x h) 32 ∧ Below w.heap.size w w1 :=
  ⟨w.heap.size, w.alloc (.cells (ncells x h).toArray 32), run_boxOp w, rfl, by simp, Blk.new w (ncells x h).toArray 32, (Below.refl _ w).alloc (Nat.le_refl _) _⟩
section
variable (ρ : Operand → Value) (dst : Option Tmp) (ty : TypeId) (pos : String) (after : Array Edge) (guard : Option (Nat × Bool)) (x y : Operand) (parts : Array (Nat × Operand)) (len : Nat)
theorem execOp_allocNote : execOp ρ { dst := dst, op := .alloc 32, type := ty, pos := pos, after := after, guard := guard } = allocOp 32 := by unfold allocOp; rfl
theorem execOp_storeNote : execOp ρ { dst := dst, op := .store 32 x y, type := ty, pos := pos, after := after, guard := guard } = storeOp 32 (ρ x) (ρ y) := by unfold storeOp; rfl
theorem execOp_makeNote : execOp ρ { dst := dst, op := .build 32 parts, type := ty, pos := pos, after := after, guard := guard } = makeOp 32 (parts.map fun (i, x) => (i, ρ x)) := by unfold makeOp; rfl
end
theorem nz_len : none_.D.length = 32 := Fld.zero32_length
theorem note_zero : (Tryz.prog.info? 32).map (fun i => i.zero) = some (some (.agg (ncells none_ NHd.none_).toArray)) := by unfold ncells; kernel_rfl
theorem note_sizeA {x : Not} (hx : x.D.length = 32) (h : NHd) : (Tryz.prog.info? 32).map (fun i => i.size) = some (ncells x h).toArray.size := by
  rw [note_size, List.size_toArray, ncells_length hx]
theorem note_sizeE {x y : Not} (hx : x.D.length = 32) (hy : y.D.length = 32) (h k : NHd) : (ncells x h).toArray.size = (ncells y k).toArray.size := by
  rw [List.size_toArray, List.size_toArray, ncells_length hx, ncells_length hy]
theorem note_all1 (x : Not) (h : NHd) : (ncells x h).toArray.all (·.oneCell') = true := by
  rw [Array.all_eq_true]
  intro i hi
  simp only [List.getElem_toArray]
  exact ncells_one x h _ (List.getElem_mem _)
theorem alloc_note (w : World) : (allocOp 32).run Tryz.prog w = .ok (.value (.pointer (some ⟨w.heap.size, 0, none⟩))) (w.alloc (.cells (ncells none_ NHd.none_).toArray 32)) := run_allocOp w note_zero
theorem store_note {x y : Not} {h k : NHd} {w : World} {g : Nat} (hb : Blk w g (ncells y k) 32) (hy : y.D.length = 32) (hx : x.D.length = 32) : (storeOp 32 (.pointer (some ⟨g, 0, none⟩)) (.agg (ncells x h).toArray)).run Tryz.prog w = .ok .skip (w.setRow g (ncells x h).toArray) :=
  run_storeOp hb (note_sizeA hx h) (note_sizeE hy hx ..) (note_all1 ..)
theorem store_note1 (w : World) {x : Not} {h : NHd} (hx : x.D.length = 32) : (storeOp 32 (.pointer (some ⟨w.heap.size, 0, none⟩)) (.agg (ncells x h).toArray)).run Tryz.prog (w.alloc (.cells (ncells none_ NHd.none_).toArray 32)) = .ok .skip (w.alloc (.cells (ncells x h).toArray 32)) :=
  run_storeNew w (note_sizeA hx h) (note_sizeE nz_len hx ..) (note_all1 ..)
end
section
set_option linter.unusedSimpArgs false
set_option linter.unusedVariables false
open Go.RowKit Sha
/-- A record, where its bytes lie, how much room they have. -/
abbrev SHdr := List Int × Option Addr × Nat
def cellS (y : SHdr) : Value := .slice y.2.1 y.1.length y.2.2
theorem cellS_one (y : SHdr) : (cellS y).oneCell' = true := rfl
structure GoodS (w : World) (y : SHdr) : Prop where
  bytes : ∀ n ∈ y.1, 0 ≤ n ∧ n ≤ 255
  at_ : At w y.2.1 (y.1.map v8)
  le : y.1.length ≤ y.2.2
  max : y.2.2 ≤ 9223372036854775807
  nil : y.2.1 = none → y.2.2 = 0
theorem GoodS.below {w w' : World} {y : SHdr} (h : GoodS w y) (hb : Below w.heap.size w w') : GoodS w' y := ⟨h.bytes, h.at_.below hb, h.le, h.max, h.nil⟩
/-- Records that came in, or are told: a slice of slices that reads as they are. -/
structure Recs (w : World) (p : Option Addr) (n c : Nat) (l : List (List Int)) : Prop where
  len : n = l.length
  le : n ≤ c
  max : c ≤ 9223372036854775807
  nil : p = none → c = 0
  recs : ∃ ys : List SHdr, ys.map (·.1) = l ∧ At w p (ys.map cellS) ∧ ∀ y ∈ ys, GoodS w y
theorem Recs.below {w w' : World} {p : Option Addr} {n c : Nat} {l : List (List Int)} (h : Recs w p n c l) (hb : Below w.heap.size w w') : Recs w' p n c l :=
  ⟨h.len, h.le, h.max, h.nil, by obtain ⟨ys, h1, h2, h3⟩ := h.recs; exact ⟨ys, h1, h2.below hb, fun y hy => (h3 y hy).below hb⟩⟩
/-- The i-th record. -/
theorem Recs.get {w : World} {p : Option Addr} {n c : Nat} {l : List (List Int)} (h : Recs w p n c l) (i : Nat) (hi : i < l.length) :
    ∃ b off q d, p = some ⟨b, off, none⟩ ∧ w.cell? ⟨b, off + i, none⟩ = some (.slice q l[i].length d) ∧ GoodS w (l[i], q, d) := by
  obtain ⟨ys, rfl, h2, h3⟩ := h.recs
  rw [List.length_map] at hi
  obtain ⟨b, off, rfl, hc⟩ := h2.addr (by rw [List.length_map]; omega)
  refine ⟨b, off, (ys[i]).2.1, (ys[i]).2.2, rfl, ?_, ?_⟩
  · rw [hc i (cellS ys[i]) (by rw [List.getElem?_map, List.getElem?_eq_getElem hi]; rfl)]
    simp [cellS]
  · simpa using h3 ys[i] (List.getElem_mem hi)
/-- A record of the call's own. -/
structure RecO (B : Nat) (w : World) (y : SHdr) : Prop where
  bytes : ∀ n ∈ y.1, 0 ≤ n ∧ n ≤ 255
  own : w.ownsRow B 5 1 (cellS y) y.1.length (y.1.map v8)
theorem RecO.good {B : Nat} {w : World} {y : SHdr} (h : RecO B w y) : GoodS w y := by
  obtain ⟨p, cap, hv, hl, hm, hA, hx, hn⟩ := own_at h.own
  unfold cellS at hv
  cases hv
  exact ⟨h.bytes, hA, hl, by unfold maxLen at hm; omega, hn⟩
theorem RecO.carry {B : Nat} {w w' : World} {y : SHdr} (h : RecO B w y) (hc : ∀ (k : Nat) (c : Array Value) (fz : Nat × Nat), w.heap[k]? = some (Obj.cells c 5 fz) → w'.heap[k]? = some (Obj.cells c 5 fz)) : RecO B w' y := by
  refine ⟨h.bytes, h.own.1, ?_⟩
  rcases h.own.2 with h | ⟨g, cap, cur, hv, hg, hh, h4⟩
  · exact Or.inl h
  · exact Or.inr ⟨g, cap, cur, hv, hg, hc g _ _ hh, h4⟩
structure OwnS (B : Nat) (w : World) (v : Value) (ys : List SHdr) : Prop where
  own : w.ownsRow B 28 1 v ys.length (ys.map cellS)
  good : ∀ y ∈ ys, RecO B w y
theorem OwnS.nil (B : Nat) (w : World) : OwnS B w (.slice none 0 0) [] := ⟨World.ownsRow_nil _ _ _ _, by simp⟩
theorem slice_info : (Tryz.prog.info? 28).map (fun i => (i.zero, i.size, i.bytes)) = some (some (.slice none 0 0), 1, 24) := by kernel_rfl
theorem us_ne : (5 : TypeId) ≠ 28 := by decide
theorem OwnS.on {B : Nat} {w w' : World} {v : Value} {ys : List SHdr} (h : OwnS B w v ys) (hb : Below w.heap.size w w') : OwnS B w' v ys := by
  refine ⟨⟨h.own.1, ?_⟩, fun y hy => (h.good y hy).carry fun k c fz hh => ?_⟩
  · rcases h.own.2 with h' | ⟨g, cap, cur, hv, hg, hh, h4⟩
    · exact Or.inl h'
    · exact Or.inr ⟨g, cap, cur, hv, hg, by rw [hb.block g (h.own.lt g (by rw [hv]; rfl)).2]; exact hh, h4⟩
  · have hk : k < w.heap.size := (Array.getElem?_eq_some_iff.1 hh).1
    rw [hb.block k hk]; exact hh
/-- One more behind them: what append leaves. -/
theorem OwnS.snoc {B : Nat} {w w' : World} {v v' : Value} {ys : List SHdr} {y : SHdr} {o : Obj} (h : OwnS B w v ys) (hy : RecO B w y) (hg : (w.alloc o).grownBy w' v.ownBlock) (hown : w'.ownsRow B 28 1 v' (ys.length + 1) (ys.map cellS ++ [cellS y])) : OwnS B w' v' (ys ++ [y]) := by
  have hc : ∀ (k : Nat) (c : Array Value) (fz : Nat × Nat), w.heap[k]? = some (Obj.cells c 5 fz) → w'.heap[k]? = some (Obj.cells c 5 fz) := by
    intro k c fz hh
    have hk : k < w.heap.size := (Array.getElem?_eq_some_iff.1 hh).1
    have hne : some k ≠ v.ownBlock := by
      intro e
      rcases h.own.2 with ⟨hv, _⟩ | ⟨g, cap, cur, hv, _, hh', _⟩
      · rw [hv] at e; cases e
      · rw [hv] at e
        cases e
        rw [hh'] at hh
        injection hh with hh; injection hh with _ ht
        exact us_ne ht.symm
    rw [hg.block k (by simp; omega) hne, (World.grownBy_alloc w o none).block k hk (by simp)]
    exact hh
  refine ⟨by simpa using hown, fun z hz => ?_⟩
  rcases List.mem_append.1 hz with hz | hz
  · exact (h.good z hz).carry hc
  · rw [List.mem_singleton.1 hz]; exact hy.carry hc
theorem own_weak {w : World} {B B' n size : Nat} {e : TypeId} {v : Value} {xs : List Value} (h : w.ownsRow B e size v n xs) (hb : B' ≤ B) : w.ownsRow B' e size v n xs := by
  refine ⟨h.1, ?_⟩
  rcases h.2 with h | ⟨g, cap, cur, hv, hg, hh⟩
  · exact Or.inl h
  · exact Or.inr ⟨g, cap, cur, hv, Nat.le_trans hb hg, hh⟩
theorem OwnS.told {B : Nat} {w : World} {v : Value} {ys : List SHdr} (h : OwnS B w v ys) : ∃ q c, v = .slice q ys.length c ∧ Recs w q ys.length c (ys.map (·.1)) := by
  obtain ⟨p, cap, hv, hl, hm, hA, hx, hn⟩ := own_at h.own
  exact ⟨p, cap, hv, by simp, hl, by unfold maxLen at hm; omega, hn, ys, rfl, hA, fun y hy => (h.good y hy).good⟩
end
section
set_option linter.unusedSimpArgs false
set_option linter.unusedVariables false
open Go.RowKit Sha
theorem bit_test (x : W) : (bits BinOp.and IntKind.u32 (U x) 1 == 1) = x.getLsbD 0 := by
  rw [show (1 : Int) = U 1#32 by decide, U_and]
  rw [Bool.eq_iff_iff, beq_iff_eq]
  constructor
  · intro h
    have h1 : x &&& 1#32 = 1#32 := by rw [← ofInt_U (x &&& 1#32), h]; rfl
    have := congrArg (·.getLsbD 0) h1
    simpa using this
  · intro h
    congr 1
    apply BitVec.eq_of_getLsbD_eq
    intro i hi
    rw [BitVec.getLsbD_and, BitVec.getLsbD_one]
    by_cases h0 : i = 0
    · subst h0; simp [h]
    · simp [h0]
theorem bit_half (x : W) : U x / (2 : Int) = U (x >>> 1) := U_shr x 1
theorem bit_poly (x : W) : bits BinOp.xor IntKind.u32 (U x) 3988292384 = U (x ^^^ Crc.poly) := by
  rw [show (3988292384 : Int) = U Crc.poly by decide, U_xor]
theorem bitOn_if (x : W) : Crc.bitOn x = if x.getLsbD 0 then x >>> 1 ^^^ Crc.poly else x >>> 1 := by unfold Crc.bitOn; rfl
set_option maxHeartbeats 400000 in
theorem bitOn_any (x : W) (w : World) :
    Calls Tryz.prog 130 #[v32 x] w fun e w' => e = .returned (v32 (Crc.bitOn x)) ∧ w = w' := by
  have hb := bit_test x
  have HF := Lib.hid (bitOn_if x)
  cases hc : x.getLsbD 0 with
  | true =>
    rw [hc] at hb
    have HC := Lib.hid hc
    clear hc
    go_enter Tryz.func130, Tryz.ntmps130
    go_wp2
    go_ret
    exact ⟨ret_int (by rw [HF.out, HC.out, bit_half, bit_poly]; rfl), rfl⟩
  | false =>
    rw [hc] at hb
    have HC := Lib.hid hc
    clear hc
    go_enter Tryz.func130, Tryz.ntmps130
    go_wp2
    go_ret
    exact ⟨ret_int (by rw [HF.out, HC.out, bit_half]; rfl), rfl⟩
set_option maxHeartbeats 400000 in
theorem byteOn_any (x : W) (w : World) :
    Calls Tryz.prog 129 #[v32 x] w fun e w' => e = .returned (v32 (Crc.on 8 x)) ∧ w = w' := by
  go_enter Tryz.func129, Tryz.ntmps129
  go_wp2
  go_loop [0, 3] (fun v i => ∃ k : Nat, k ≤ 8 ∧ i = .int .i64 k ∧ v = v32 (Crc.on k x)) (fun _ i => 8 - (intOf i).toNat)
  case atStart => exact ⟨0, by omega, rfl, by rw [Crc.on_zero]⟩
  case round =>
    obtain ⟨k, hk, rfl, rfl⟩ := hrel
    by_cases hlt : k < 8
    · have HL := Lib.hid (Crc.on_last k x)
      go_wp2_with (go_at_call 130; refine (bitOn_any _ _).mono ?_; rintro e w' ⟨rfl, rfl⟩)
      go_round
      case rel => exact ⟨k + 1, by omega, by go_num, by rw [HL.out]⟩
      case measure => simp [intOf]; omega
    · obtain rfl : k = 8 := by omega
      go_wp2
      go_ret
      exact ⟨rfl, rfl⟩
theorem byteOn_int (n : Int) (w : World) (h : 0 ≤ n ∧ n < 4294967296) :
    Calls Tryz.prog 129 #[.int .u32 n] w fun e w' => e = .returned (v32 (Crc.on 8 (BitVec.ofInt 32 n))) ∧ w = w' := by
  have := byteOn_any (BitVec.ofInt 32 n) w
  rwa [show v32 (BitVec.ofInt 32 n) = .int .u32 n by show Value.int .u32 _ = _; rw [U_ofInt, Int.emod_eq_of_lt h.1 h.2]] at this
theorem infoTab : (Tryz.prog.info? 157).map (fun i => i.zero) = some (some (.agg ((Crc.tabUpto 0).map v32).toArray)) := by kernel_rfl
theorem sizeTab : (Tryz.prog.info? 157).map (fun i => i.size) = some 256 := by kernel_rfl
theorem cone32 (l : List W) : (l.map v32).toArray.all (·.oneCell') = true := by simp [Value.oneCell']
set_option maxRecDepth 100000 in
set_option maxHeartbeats 1000000 in
theorem table_any (w : World) : Calls Tryz.prog 128 #[] w fun e w' => e = .returned (.agg ((Crc.tabUpto 256).map v32).toArray) ∧ Below w.heap.size w w' := by
  go_enter Tryz.func128, Tryz.ntmps128
  go_wp2_with (refine wpList_alloc_arr rfl 157 rfl _ infoTab ?_)
  have b2 := ((Below.refl w.heap.size w).alloc (by simp) (Obj.cells ((Crc.tabUpto 0).map v32).toArray 157)).alloc (by simp) (Obj.cells ((Crc.tabUpto 0).map v32).toArray 157)
  have f0 := (Blk.new w ((Crc.tabUpto 0).map v32).toArray 157).old (Obj.cells ((Crc.tabUpto 0).map v32).toArray 157)
  have f1 := Blk.new (w.alloc (Obj.cells ((Crc.tabUpto 0).map v32).toArray 157)) ((Crc.tabUpto 0).map v32).toArray 157
  generalize (w.alloc (Obj.cells ((Crc.tabUpto 0).map v32).toArray 157)).alloc (Obj.cells ((Crc.tabUpto 0).map v32).toArray 157) = w2 at *
  simp only [World.size_alloc] at f0 f1
  go_loopw [4] (fun i wr => ∃ k : Nat, k ≤ 256 ∧ i = .int .i64 k ∧ Below w.heap.size w wr ∧ Blk wr w.heap.size ((Crc.tabUpto 0).map v32) 157 ∧ Blk wr (w.heap.size + 1) ((Crc.tabUpto k).map v32) 157) (fun i _ => 256 - (intOf i).toNat)
  case atStart => exact ⟨0, by omega, rfl, b2, f0, f1⟩
  case round =>
    clear b2 f0 f1
    obtain ⟨k, hk, rfl, hb, h0, h1⟩ := hrel
    by_cases hlt : k < 256
    · have hand := Crc.low_and k hlt
      have hle := Crc.lowOf_le k hlt
      have HS := Lib.hid (Crc.tabUpto_succ k hlt)
      have HO := Lib.hid (Crc.low_on k hlt)
      have HP := Lib.hid (Crc.lowOf_pos k hlt)
      have cg : ∀ i, i < k → wr.cell? ⟨w.heap.size + 1, i, none⟩ = some (v32 (Crc.on 8 (BitVec.ofNat 32 i))) := by
        intro i hi
        rw [h1.cell, List.getElem?_map, Crc.tabUpto_get k i hi (by omega)]; rfl
      have CG := Lib.hid cg
      have cf : wr.frozen? ⟨w.heap.size + 1, k, none⟩ = false := h1.free _
      have ck : wr.cell? ⟨w.heap.size + 1, k, none⟩ = some (v32 ((Crc.tabUpto k).getD k 0)) := by
        rw [h1.cell, List.getElem?_map, List.getElem?_eq_getElem (by rw [Crc.tabUpto_length]; omega)]; simp [Crc.tabUpto_length, hlt]
      have H0 := Lib.hid h0
      have H1 := Lib.hid h1
      clear cg h0 h1
      generalize Crc.lowOf k = lo at *
      by_cases he : k = lo
      · have t1 : ((k : Int) == (lo : Int)) = true := by rw [beq_iff_eq]; omega
        have HE := Lib.hid he
        clear he
        go_wp2_with (go_at_call 129; refine (byteOn_int _ _ (by omega)).mono ?_; rintro e w' ⟨rfl, rfl⟩)
        go_roundw
        case rel =>
          refine ⟨k + 1, by omega, by go_num, hb.setCell (by simp) _, H0.out.setOther _ _ (by simp), ?_⟩
          rw [HS.out]
          exact H1.out.set _ _
        case measure => simp [intOf]; omega
      · obtain ⟨hp1, hp2⟩ := HP.out (fun h => he h.symm)
        have t1 : ((k : Int) == (lo : Int)) = false := by rw [beq_eq_false_iff_ne]; omega
        have c1 := CG.out lo (by omega)
        have c2 := CG.out (k - lo) (by omega)
        clear he
        have v1 : (0 : Int) ≤ (k : Int) - (lo : Int) := by omega
        have v2 : ((k : Int) - (lo : Int)).toNat = k - lo := by omega
        have HV2 := Lib.hid v2
        clear v2
        go_wp2_with fail
        refine region_tail 11 (by kernel_rfl) (by kernel_rfl) ?_
        simp only [List.take_succ_cons, List.take_zero, List.drop_succ_cons, List.drop_zero]
        repeat (go_big_quiet_step (fail))
        refine wpQuiet_nil ?_
        go_wp2_with fail
        go_roundw
        case rel =>
          refine ⟨k + 1, by omega, by go_num, hb.drew.setCell (by simp) _, H0.out.drew.setOther _ _ (by simp), ?_⟩
          rw [HS.out, ← HO.out]
          unfold v32
          rw [← U_xor]
          exact (H1.out.set _ _).drew
        case measure => simp [intOf]; omega
    · obtain rfl : k = 256 := by omega
      have hsz2 : (Tryz.prog.info? 157).map (fun i => i.size) = some ((Crc.tabUpto 256).map v32).toArray.size := by rw [sizeTab]; simp [Crc.tabUpto_length]
      have H0 := Lib.hid h0
      have H1 := Lib.hid h1
      clear h0 h1
      go_wp2_with (first
        | (refine wpList_load_row rfl 157 _ rfl _ rfl _ _ _ _ H1.out (Tryz.underlying157) rfl hsz2 ?_)
        | (refine wpList_store_row rfl 157 _ _ rfl _ _ rfl rfl _ _ H0.out hsz2 (by simp [Crc.tabUpto_length]) (cone32 _) ?_))
      refine bodyPost_ret (v := .agg ((Crc.tabUpto 256).map v32).toArray) ?_ rfl ⟨rfl, Below.setRow hb (by omega) _⟩
      exact results_cell_row rfl _ _ _ _ _ _ _ rfl (H0.out.row _) (Tryz.underlying157) rfl hsz2
/-- Bytes behind a sum: the table's way. -/
theorem place_get (x : W) (c : Int) : (Crc.tabUpto 256)[Crc.placeOf x c]? = some (Crc.on 8 (BitVec.ofNat 32 (Crc.placeOf x c))) := Crc.tabUpto_get 256 _ (Crc.placeOf_lt x c) (Crc.placeOf_lt x c)
theorem shr8 (x : W) : U x / (256 : Int) = U (x >>> 8) := U_shr x 8
set_option maxRecDepth 100000 in
set_option maxHeartbeats 1000000 in
theorem more_any (n : Int) (s : W) (hn : n = U s) (zs : List Int) (p : Option Addr) (cap : Nat) (w : World) (hz : ∀ n ∈ zs, 0 ≤ n ∧ n ≤ 255) (hA : At w p (zs.map v8)) (hc : zs.length ≤ cap) (hm : cap ≤ 9223372036854775807) :
    Calls Tryz.prog 120 #[.int .u32 n, .slice p zs.length cap] w fun e w' => e = .returned (v32 (Crc.more s zs)) ∧ Below w.heap.size w w' := by
  subst hn
  obtain ⟨len, hlen⟩ : ∃ n, n = zs.length := ⟨_, rfl⟩
  rw [← hlen] at hc ⊢
  have Hlen := Lib.hid hlen
  clear hlen
  go_enter Tryz.func120, Tryz.ntmps120
  have lk : ((Crc.tabUpto 256).map v32).toArray.size = 256 := by simp [Crc.tabUpto_length]
  have hsz : (Tryz.prog.info? 157).map (fun i => i.size) = some ((Crc.tabUpto 256).map v32).toArray.size := by rw [sizeTab, lk]
  have LK := Lib.hid lk
  clear lk
  go_wp2_with (first
    | (refine wpList_alloc_arr rfl 157 rfl _ infoTab ?_)
    | (refine wpList_store_row rfl 157 _ _ rfl _ _ rfl rfl _ _ (Blk.new _ _ _) hsz (by rw [LK.out]; simp [Crc.tabUpto_length]) (cone32 _) ?_)
    | (go_at_call 128; refine (table_any _).mono ?_; rintro e w1 ⟨rfl, hb1⟩))
  obtain ⟨g, hg⟩ : ∃ g, g = w1.heap.size := ⟨_, rfl⟩
  have W0 : Below w.heap.size w ((w1.alloc (Obj.cells ((Crc.tabUpto 0).map v32).toArray 157)).setRow w1.heap.size ((Crc.tabUpto 256).map v32).toArray) :=
    Below.setRow (hb1.alloc hb1.size _) hb1.size _
  have W1 : Blk ((w1.alloc (Obj.cells ((Crc.tabUpto 0).map v32).toArray 157)).setRow w1.heap.size ((Crc.tabUpto 256).map v32).toArray) g ((Crc.tabUpto 256).map v32) 157 := by rw [hg]; exact (Blk.new _ _ _).row _
  rw [← hg] at W0 W1 ⊢
  generalize ((w1.alloc (Obj.cells ((Crc.tabUpto 0).map v32).toArray 157)).setRow g ((Crc.tabUpto 256).map v32).toArray) = w2 at *
  have HA := Lib.hid (hA.below W0)
  have H1 := Lib.hid W1
  have HB := Lib.hid W0
  clear hb1 hg hA W0 W1 hsz LK
  go_loop [6, 14] (fun v i => ∃ k : Nat, k ≤ len ∧ i = .int .i64 k ∧ v = v32 (Crc.run (~~~s) (zs.take k))) (fun _ i => len - (intOf i).toNat)
  case atStart => exact ⟨0, by omega, rfl, by rw [U_notmax, List.take_zero, Crc.run_nil]⟩
  case round =>
    obtain ⟨k, hk, rfl, rfl⟩ := hrel
    by_cases hlt : k < len
    · obtain ⟨c, hcc⟩ : ∃ c, c = zs.getD k 0 := ⟨_, rfl⟩
      have hlz : k < zs.length := by rw [← Hlen.out]; exact hlt
      have HT := Lib.hid (Crc.run_take (~~~s) zs k c hlz hcc)
      have hcb : 0 ≤ c ∧ c ≤ 255 := hz c (by rw [hcc, List.getD_eq_getElem?_getD, List.getElem?_eq_getElem hlz]; simp)
      obtain ⟨bb, off, rfl, hcell⟩ := HA.out.addr (by rw [List.length_map]; omega)
      have cc : w2.cell? ⟨bb, off + k, none⟩ = some (v8 c) := hcell k _ (by rw [List.getElem?_map, List.getElem?_eq_getElem hlz, hcc, List.getD_eq_getElem?_getD, List.getElem?_eq_getElem hlz]; rfl)
      generalize Crc.run (~~~s) (zs.take k) = x at *
      have px := Crc.place_xor x c hcb
      have pl := Crc.placeOf_lt x c
      have HU := Lib.hid (Crc.upd_eq x c hcb)
      have cp : w2.cell? ⟨g, Crc.placeOf x c, none⟩ = some (v32 (Crc.on 8 (BitVec.ofNat 32 (Crc.placeOf x c)))) := by
        rw [H1.out.cell, List.getElem?_map, place_get]; rfl
      generalize Crc.placeOf x c = j at *
      clear hcc hcell hlz
      go_wp2_with fail
      go_round
      case rel => exact ⟨k + 1, by omega, by go_num, by rw [HT.out, ← HU.out, shr8, U_xor]⟩
      case measure => simp [intOf]; omega
    · obtain rfl : k = len := by omega
      have HF : Hid (Crc.more s zs = ~~~(Crc.run (~~~s) (zs.take k))) := by show _ = _; rw [Hlen.out, List.take_length, Crc.more_eq]
      go_wp2_with fail
      go_ret
      exact ⟨ret_int (by rw [HF.out, U_notmax]), HB.out⟩
set_option maxHeartbeats 400000 in
theorem csum_any (zs : List Int) (len : Nat) (p : Option Addr) (cap : Nat) (w : World) (hl : len = zs.length) (hz : ∀ n ∈ zs, 0 ≤ n ∧ n ≤ 255) (hA : At w p (zs.map v8)) (hc : len ≤ cap) (hm : cap ≤ 9223372036854775807) :
    Calls Tryz.prog 85 #[.slice p len cap] w fun e w' => e = .returned (v32 (Crc.sum zs)) ∧ Below w.heap.size w w' := by
  subst hl
  have HA := Lib.hid hA
  clear hA
  go_enter Tryz.func85, Tryz.ntmps85
  go_wp2_with (go_at_call 120; refine (more_any 0 0#32 rfl zs _ _ _ hz HA.out hc hm).mono ?_; rintro e w1 ⟨rfl, hb1⟩)
  go_ret
  exact ⟨ret_int (by rw [Crc.sum_eq]), hb1⟩
end
section
set_option linter.unusedSimpArgs false
set_option linter.unusedVariables false
open Go.RowKit Sha
theorem bit_mod (x : W) : (U x % 2 == 1) = x.getLsbD 0 := by
  unfold U
  rw [Bool.eq_iff_iff, beq_iff_eq]
  have h : x.getLsbD 0 = decide (x.toNat % 2 = 1) := by
    rw [BitVec.getLsbD, Nat.testBit_zero]
  rw [h, decide_eq_true_iff]
  omega
set_option maxHeartbeats 400000 in
theorem ron_any (x : W) (n : Nat) (w : World) (hn : n ≤ 1000) :
    Calls Tryz.prog 121 #[v32 x, .int .i64 n] w fun e w' => e = .returned (v32 (Crc.on n x)) ∧ w = w' := by
  go_enter Tryz.func121, Tryz.ntmps121
  go_wp2
  go_loop [0, 1] (fun v i => ∃ (k : Nat) (y : W), k ≤ n ∧ i = .int .i64 k ∧ v = v32 y ∧ Hid (Crc.on k y = Crc.on n x)) (fun _ i => (intOf i).toNat)
  case atStart => exact ⟨n, x, by omega, rfl, rfl, rfl⟩
  case round =>
    obtain ⟨k, y, hk, rfl, rfl, HE⟩ := hrel
    by_cases hlt : 0 < k
    · have hb := bit_mod y
      obtain ⟨ub1, ub2⟩ := U_bd y
      have HF := Lib.hid (bitOn_if y)
      have HS : Hid (Crc.on (k - 1) (Crc.bitOn y) = Crc.on n x) := by
        show _ = _
        rw [← HE.out, ← Crc.on_succ, show k - 1 + 1 = k by omega]
      cases hc : y.getLsbD 0 with
      | true =>
        rw [hc] at hb
        have HC := Lib.hid hc
        clear hc
        go_wp2_with fail
        go_round
        case rel => exact ⟨k - 1, Crc.bitOn y, by omega, by go_num, by rw [HF.out, HC.out, bit_half, bit_poly]; rfl, HS⟩
        case measure => simp [intOf]; omega
      | false =>
        rw [hc] at hb
        have HC := Lib.hid hc
        clear hc
        go_wp2_with fail
        go_round
        case rel => exact ⟨k - 1, Crc.bitOn y, by omega, by go_num, by rw [HF.out, HC.out, bit_half]; rfl, HS⟩
        case measure => simp [intOf]; omega
    · obtain rfl : k = 0 := by omega
      rw [Crc.on_zero] at HE
      go_wp2_with fail
      go_ret
      exact ⟨ret_int (by rw [HE.out]), rfl⟩
theorem xor_byte (x : W) (c : Int) (hc : 0 ≤ c ∧ c ≤ 255) : bits BinOp.xor IntKind.u32 (U x) c = U (x ^^^ BitVec.ofInt 32 c) := by
  have : c = U (BitVec.ofInt 32 c) := by rw [U_ofInt, Int.emod_eq_of_lt (by omega) (by omega)]
  conv => lhs; rw [this]
  rw [U_xor]
set_option maxRecDepth 100000 in
set_option maxHeartbeats 1000000 in
theorem rmore_any (n : Int) (s : W) (hn : n = U s) (zs : List Int) (p : Option Addr) (cap : Nat) (w : World) (hz : ∀ n ∈ zs, 0 ≤ n ∧ n ≤ 255) (hA : At w p (zs.map v8)) (hc : zs.length ≤ cap) (hm : cap ≤ 9223372036854775807) :
    Calls Tryz.prog 87 #[.int .u32 n, .slice p zs.length cap] w fun e w' => e = .returned (v32 (Crc.more s zs)) ∧ w = w' := by
  subst hn
  obtain ⟨len, hlen⟩ : ∃ n, n = zs.length := ⟨_, rfl⟩
  rw [← hlen] at hc ⊢
  have Hlen := Lib.hid hlen
  have HA := Lib.hid hA
  clear hlen hA
  go_enter Tryz.func87, Tryz.ntmps87
  go_wp2_with fail
  go_loop [5, 6] (fun v i => ∃ k : Nat, k ≤ len ∧ i = .int .i64 k ∧ v = v32 (Crc.run (~~~s) (zs.take k))) (fun _ i => len - (intOf i).toNat)
  case atStart => exact ⟨0, by omega, rfl, by rw [U_notmax, List.take_zero, Crc.run_nil]⟩
  case round =>
    obtain ⟨k, hk, rfl, rfl⟩ := hrel
    by_cases hlt : k < len
    · obtain ⟨c, hcc⟩ : ∃ c, c = zs.getD k 0 := ⟨_, rfl⟩
      have hlz : k < zs.length := by rw [← Hlen.out]; exact hlt
      have HT := Lib.hid (Crc.run_take (~~~s) zs k c hlz hcc)
      have hcb : 0 ≤ c ∧ c ≤ 255 := hz c (by rw [hcc, List.getD_eq_getElem?_getD, List.getElem?_eq_getElem hlz]; simp)
      obtain ⟨bb, off, rfl, hcell⟩ := HA.out.addr (by rw [List.length_map]; omega)
      have cc : w.cell? ⟨bb, off + k, none⟩ = some (v8 c) := hcell k _ (by rw [List.getElem?_map, List.getElem?_eq_getElem hlz, hcc, List.getD_eq_getElem?_getD, List.getElem?_eq_getElem hlz]; rfl)
      generalize Crc.run (~~~s) (zs.take k) = x at *
      have px := xor_byte x c hcb
      have HU := Lib.hid (Crc.upd_on x c)
      clear hcc hcell hlz
      obtain ⟨y, hy⟩ : ∃ y, y = x ^^^ BitVec.ofInt 32 c := ⟨_, rfl⟩
      rw [← hy] at px HU
      clear hy
      go_wp2_with (go_at_call 121; refine (ron_any _ 8 _ (by omega)).mono ?_; rintro e w' ⟨rfl, rfl⟩)
      go_round
      case rel => exact ⟨k + 1, by omega, by go_num, by rw [HT.out, HU.out]⟩
      case measure => simp [intOf]; omega
    · obtain rfl : k = len := by omega
      have HF : Hid (Crc.more s zs = ~~~(Crc.run (~~~s) (zs.take k))) := by show _ = _; rw [Hlen.out, List.take_length, Crc.more_eq]
      go_wp2_with fail
      go_ret
      exact ⟨ret_int (by rw [HF.out, U_notmax]), rfl⟩
set_option maxHeartbeats 400000 in
theorem rsum_any (zs : List Int) (len : Nat) (p : Option Addr) (cap : Nat) (w : World) (hl : len = zs.length) (hz : ∀ n ∈ zs, 0 ≤ n ∧ n ≤ 255) (hA : At w p (zs.map v8)) (hc : len ≤ cap) (hm : cap ≤ 9223372036854775807) :
    Calls Tryz.prog 55 #[.slice p len cap] w fun e w' => e = .returned (v32 (Crc.sum zs)) ∧ w = w' := by
  subst hl
  have HA := Lib.hid hA
  clear hA
  go_enter Tryz.func55, Tryz.ntmps55
  go_wp2_with (go_at_call 87; refine (rmore_any 0 0#32 rfl zs _ _ _ hz HA.out hc hm).mono ?_; rintro e w1 ⟨rfl, rfl⟩)
  go_ret
  exact ⟨ret_int (by rw [Crc.sum_eq]), rfl⟩
end
end Go.Proofs.YtbogjfmefkhglaaGreat
