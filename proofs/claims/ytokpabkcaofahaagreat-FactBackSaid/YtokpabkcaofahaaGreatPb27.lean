/-
  The program's slices.Clone of bytes: the same bytes in a block of their own.
  Rows of things: what a change of a map leaves, where the k-th thing lies; changes one behind the other.
  The program's slices.IndexFunc at api.Keep (written by mk9.py from Ix.src).
  Slices of structs: cleared, stored into; what may change. General: no function is named here.
  Things taken out of a row, one after the other: what the row's block holds meanwhile.
-/
import Derived.Test.YtokpabkcaofahaaGreatPb26
import Derived.Test.YtokpabkcaofahaaGreatPb16
import Derived.Test.YtokpabkcaofahaaGreatPb3
import Derived.Deep.MidRow
namespace Go.Proofs.YtokpabkcaofahaaGreat
section
set_option linter.unusedSimpArgs false
set_option linter.unusedVariables false
open Go.RowKit Sha Fct
theorem run_nilb_eq (w : World) (p : Option Addr) (n c : Nat) : (binOp .eql 26 (.slice p n c) (.slice none 0 0)).run Tryz.prog w = .ok (.bool p.isNone) w := Lib.run_eql_slice_nil w _ _ p n c 0 0 Tryz.underlying26
/-- Where a copy of bytes lies. -/
structure Cpy (w' : World) (zs : List Int) (q : Option Addr) (c : Nat) : Prop where
  at_ : At w' q (zs.map v8)
  le : zs.length ≤ c
  max : c ≤ 9223372036854775807
  nil : q = none → c = 0
  u8 : U8 w' q zs
def CpyP (w : World) (zs : List Int) (n : Nat) (e : Ending) (w' : World) : Prop := ∃ q c, e = .returned (.slice q n c) ∧ Cpy w' zs q c ∧ Below w.heap.size w w'
theorem cpy_own {w w' : World} {zs : List Int} {v : Value} {n : Nat} (h : Own8 w' w.heap.size 5 v n (zs.map v8)) (hn : zs.length = n) (hb : Below w.heap.size w w') : CpyP w zs n (.returned v) w' := by
  obtain ⟨p, cap, hv, h1, h2, h3, h4, h5⟩ := own_at h.row
  refine ⟨p, cap, by rw [hv], ⟨h3, by omega, h2, h5, ?_⟩, hb⟩
  by_cases h0 : n = 0
  · exact Or.inl (List.eq_nil_of_length_eq_zero (by omega))
  · obtain ⟨g, c2, rest, e, _, _, _, hk, _, _⟩ := own_whole h.row (by omega)
    rw [hv] at e
    injection e with e1 e2 e3
    exact Or.inr ⟨g, _, e1, hk⟩
set_option maxRecDepth 100000 in
set_option maxHeartbeats 1000000 in
theorem clone8_any (zs : List Int) (n : Nat) (p : Option Addr) (cap : Nat) (w : World) (hn : zs.length = n) (hA : At w p (zs.map v8)) (hc : n ≤ cap) (hm : cap ≤ 9223372036854775807) (hnil : p = none → cap = 0) (hs : n ≤ 1000000) :
    Calls Tryz.prog 128 #[.slice p n cap] w (CpyP w zs n) := by
  have HA := Lib.hid hA
  have HN := Lib.hid hn
  have q := fun w n c => run_nilb_eq w p n c
  cases p with
  | none =>
    have h0 := hnil rfl
    subst h0
    obtain rfl : n = 0 := by omega
    have hz : zs = [] := List.eq_nil_of_length_eq_zero hn
    subst hz
    clear hA hn
    go_enter Tryz.func128, Tryz.ntmps128
    go_wp2_with fail
    go_ret
    exact cpy_own (Own8.nil _ _ _) rfl (Below.refl _ _)
  | some a =>
    have H0 := Lib.hid (Own8.mk (World.ownsRow_made (base := w.heap.size) (size := 1) (e := 5) w #[] 0 (Nat.le_refl _) (by decide) rfl) (ints_block (n := 0) (c := 0) (heap_alloc_new _ _) (by simp)))
    have HI := Lib.hid (fun h : (some a : Option Addr) = none => hnil h)
    clear hA hn hnil
    go_enter Tryz.func128, Tryz.ntmps128
    go_wp2_with (at_builtin; refine wpList_app8 rfl (.tmp 5) (.tmp 6) 26 rfl w.heap.size 5 Tryz.underlying26 kbyte_info _ 0 [] rfl H0.out (some a) n cap (zs.map v8) rfl (HA.out.alloc _) (by rw [List.length_map]; exact HN.out) HI.out hc (ints_map _) (by omega) (by unfold maxLen; omega) (by simp) ?_; intro v4 w4 hown4 _ hb4 hs4; have O4 := Lib.hid hown4; have B4 := Lib.hid (((Below.refl _ w).alloc (Nat.le_refl _) _).trans hb4); clear hown4 hb4)
    go_ret
    exact cpy_own (by have := O4.out; rw [Nat.zero_add, List.nil_append] at this; exact this) HN.out B4.out
end
section
set_option linter.unusedSimpArgs false
set_option linter.unusedVariables false
open Go.RowKit Sha Fct
def IsMapB (w : World) (b : Nat) : Prop := ∃ es c, w.heap[b]? = some (.map es c)
theorem Takn.isMap {w : World} {b : Nat} {S : List Fct.Id} (h : Takn w b S) : IsMapB w b := by
  obtain ⟨es, c, h1, _⟩ := h.at_
  exact ⟨es, c, h1⟩
theorem grown_refl (w : World) (row : Option Nat) : w.grownBy w row := ⟨rfl, rfl, rfl, Nat.le_refl _, fun _ _ _ => rfl⟩
theorem grown_trans {a b c : World} {row : Option Nat} (h : a.grownBy b row) (k : b.grownBy c row) : a.grownBy c row := ⟨k.os.trans h.os, k.tape.trans h.tape, k.output.trans h.output, Nat.le_trans h.size k.size, fun j hj hn => (k.block j (Nat.lt_of_lt_of_le hj h.size) hn).trans (h.block j hj hn)⟩
theorem below_grown {a b : World} (h : Below a.heap.size a b) (row : Option Nat) : a.grownBy b row := ⟨h.os, h.tape, h.output, h.size, fun j hj _ => h.block j hj⟩
theorem alloc_grown (w : World) (o : Obj) (row : Option Nat) : w.grownBy (w.alloc o) row := below_grown ((Below.refl w.heap.size w).alloc (Nat.le_refl _) o) row
theorem blk_grown {w w' : World} {g : Nat} {cs : List Value} {t : TypeId} {row : Option Nat} (h : Blk w g cs t) (hg : w.grownBy w' row) (hne : row ≠ some g) : Blk w' g cs t := by
  unfold Blk; rw [hg.block g h.lt (fun e => hne e.symm)]; exact h
theorem isMap_ne {w : World} {b g : Nat} {cs : List Value} {t : TypeId} (h : IsMapB w b) (hk : Blk w g cs t) : b ≠ g := by
  rintro rfl
  obtain ⟨es, c, h1⟩ := h
  unfold Blk at hk
  rw [h1] at hk; cases hk
section
variable {V : Type} {S : Shp V} {w w' : World}
theorem u8_map {q : Option Addr} {b : List Int} {m : Nat} (hu : U8 w q b) (hg : w.grownBy w' (some m)) (hm : IsMapB w m) : U8 w' q b := hu.on fun g cs hk => blk_grown hk hg fun e => isMap_ne hm hk (by cases e; rfl)
theorem good_map {x : V} {q : Option Addr} {c m : Nat} (h : S.Good w x q c) (hg : w.grownBy w' (some m)) (hm : IsMapB w m) : S.Good w' x q c := h.carry fun p v hv => by
  by_cases e : p.block = m
  · obtain ⟨es, cl, h1⟩ := hm
    rw [← e] at h1
    unfold World.cell? at hv
    simp [h1] at hv
  · exact hg.cell hv (by simpa using e)
theorem own_map {t : TypeId} {B n s m : Nat} {v : Value} {xs : List Value} (h : w.ownsRow B t s v n xs) (hg : w.grownBy w' (some m)) (hm : IsMapB w m) : w'.ownsRow B t s v n xs := by
  refine h.kept hg ?_
  cases hv : v.ownBlock with
  | none => exact Or.inl rfl
  | some k =>
    refine Or.inr fun e => ?_
    obtain ⟨c1, f1, h1⟩ := RowTy.of h k hv
    obtain ⟨es, cl, h2⟩ := hm
    cases e
    rw [h1] at h2; cases h2
theorem Rws.map_ {t : TypeId} {B m : Nat} {v : Value} {ys : List (Hd V)} (h : Rws S t w B v ys) (hg : w.grownBy w' (some m)) (hm : IsMapB w m) : Rws S t w' B v ys :=
  ⟨own_map h.own hg hm, fun y hy => ⟨good_map (h.good y hy).1 hg hm, u8_map (h.good y hy).2 hg hm⟩⟩
theorem flat_el {ys : List (Hd V)} (hok : ∀ y ∈ ys, S.ok y.1) (k : Nat) (hk : k < ys.length) : ys.flatMap S.row = (ys.take k).flatMap S.row ++ S.row ys[k] ++ (ys.drop (k + 1)).flatMap S.row := by
  conv => lhs; rw [← List.take_append_drop k ys, List.flatMap_append, List.drop_eq_getElem_cons hk, List.flatMap_cons]
  rw [List.append_assoc]
theorem flat_len {ys : List (Hd V)} (hok : ∀ y ∈ ys, S.ok y.1) : (ys.flatMap S.row).length = ys.length * S.n := Shp.flat_length ys hok
/-- The k-th thing of a row. -/
theorem Rws.el {t : TypeId} {B : Nat} {v : Value} {ys : List (Hd V)} (h : Rws S t w B v ys) (k : Nat) (hk : k < ys.length) : ∃ g c, v = .slice (some ⟨g, 0, none⟩) ys.length c ∧ w.rangeAt g (k * S.n) (S.row ys[k]) := by
  obtain ⟨g, cap, rest, hv, _, _, _, hb, hl, _⟩ := own_whole h.own (by omega)
  refine ⟨g, cap, hv, fun j u hj => ?_⟩
  rw [flat_el h.ok k hk, List.append_assoc ((ys.take k).flatMap S.row ++ _)] at hb
  have := cells_in (o := k * S.n) hb (by rw [flat_len (fun y hy => h.ok y (List.mem_of_mem_take hy)), List.length_take, Nat.min_eq_left (by omega)]) j u hj
  rw [Addr.add_mid] at this; exact this
end
end
section
set_option linter.unusedSimpArgs false
set_option linter.unusedVariables false
open Go.RowKit Sha Fct
/-- What a question about a thing tells, asked of one after the other: it may change a map. -/
structure PrdK (mb : Nat) (cap : Value) (Pr : Int × Fct.Id → Bool) (ys : List (Hd (Int × Fct.Id))) (I : World → Nat → Prop) : Prop where
  call : ∀ w k (hk : k < ys.length), I w k → Calls Tryz.prog 165 #[.agg (kcells ys[k].1 ys[k].2.1 ys[k].2.2).toArray, cap] w fun e w' => e = .returned (.bool (Pr ys[k].1)) ∧ I w' (k + 1) ∧ w.grownBy w' (some mb)
  stays : ∀ w w' k row, I w k → w.grownBy w' row → RowTy w row 95 → I w' k
  map : ∀ w k, I w k → IsMapB w mb
attribute [local go_sem ↓] execOp_loadOK
/-- The first that it is true of. -/
def ixK (Pr : Int × Fct.Id → Bool) (ys : List (Hd (Int × Fct.Id))) : Nat := ys.findIdx fun y => Pr y.1
def IxdK (mb : Nat) (Pr : Int × Fct.Id → Bool) (ys : List (Hd (Int × Fct.Id))) (I : World → Nat → Prop) (w : World) (e : Ending) (w' : World) : Prop :=
  ∃ r : Int, e = .returned (.int .i64 r) ∧ ((r = -1 ∧ ixK Pr ys = ys.length ∧ I w' ys.length) ∨ (r = (ixK Pr ys : Nat) ∧ ixK Pr ys < ys.length ∧ I w' (ixK Pr ys + 1))) ∧ w.grownBy w' (some mb)
set_option maxRecDepth 100000 in
set_option maxHeartbeats 2000000 in
theorem idx_K (mb : Nat) (cap : Value) (Pr : Int × Fct.Id → Bool) (ys : List (Hd (Int × Fct.Id))) (I : World → Nat → Prop) (HP : PrdK mb cap Pr ys I) (w : World) (B : Nat) (v : Value) (h : Rws sK 95 w B v ys) (hI : I w 0) (hn : ys.length ≤ 1000000000) :
    Calls Tryz.prog 184 #[v, .func (.func 165) #[] #[cap]] w (IxdK mb Pr ys I w) := by
  obtain ⟨p, c, rfl, _⟩ := h.told
  obtain ⟨n, hnl⟩ : ∃ n, n = ys.length := ⟨_, rfl⟩
  obtain ⟨ix, hix⟩ : ∃ i, i = ixK Pr ys := ⟨_, rfl⟩
  have hle : ix ≤ n := by rw [hix, hnl]; exact List.findIdx_le_length
  have H1 := Lib.hid (show ∀ a (ha : a < ys.length), a < ix → Pr ys[a].1 = false from fun a ha h => by
    have := List.not_of_lt_findIdx (p := fun y : Hd (Int × Fct.Id) => Pr y.1) (xs := ys) (i := a) (by rw [hix] at h; exact h)
    simpa using this)
  have H2 := Lib.hid (show ∀ (ha : ix < ys.length), Pr ys[ix].1 = true from fun ha => by
    subst hix
    exact List.findIdx_getElem (p := fun y : Hd (Int × Fct.Id) => Pr y.1) (xs := ys) (w := ha))
  have HR := Lib.hid h
  have HNL := Lib.hid hnl
  have HIX := Lib.hid hix
  have HI := Lib.hid hI
  rw [← hnl] at hn ⊢
  clear hnl hix h hI
  go_enter Tryz.func184, Tryz.ntmps184
  go_wp2_with fail
  go_loopw [8] (fun i wr => ∃ a : Nat, i = .int .i64 a ∧ a ≤ ix ∧ Hid (I wr a) ∧ Hid (w.grownBy wr (some mb))) (fun i _ => n - (intOf i).toNat)
  case atStart => exact ⟨0, rfl, by omega, HI, Lib.hid (grown_refl _ _)⟩
  case round =>
    obtain ⟨a, rfl, ha, HA, HG⟩ := hrel
    by_cases han : a < n
    · have hay : a < ys.length := by rw [← HNL.out]; exact han
      have HR2 := Lib.hid (HR.out.map_ HG.out (HP.map _ _ HI.out))
      obtain ⟨g, c2, hv, hr⟩ := HR2.out.el a hay
      have hv2 : p = some ⟨g, 0, none⟩ := by injection hv
      subst hv2
      have hr2 : wr.rangeAt g (a * 33) (kcells ys[a].1 ys[a].2.1 ys[a].2.2) := hr
      have l1 := load_OK (HR2.out.ok _ (List.getElem_mem hay)) hr2
      have HC := Lib.hid (HP.call wr a hay HA.out)
      have h1 := H1.out a hay
      have h2 : ∀ (e : a = ix), Pr ys[a].1 = true := fun e => by subst e; exact H2.out hay
      generalize ys[a].1 = x at *
      generalize ys[a].2.1 = xq at *
      generalize ys[a].2.2 = xc at *
      clear hr hr2 hv
      go_wp2_with fail
      refine HC.out.mono ?_
      rintro e w2 ⟨rfl, hI2, hg2⟩
      have HA2 := Lib.hid hI2
      have HG2 := Lib.hid (grown_trans HG.out hg2)
      clear hI2 hg2 l1
      by_cases hai : a = ix
      · have hp : Pr x = true := h2 hai
        rw [hp]
        clear h1 h2 hp HC
        go_wp2_with fail
        go_ret
        subst hai
        exact ⟨_, rfl, Or.inr ⟨by rw [HIX.out], by rw [← HIX.out]; exact hay, by rw [← HIX.out]; exact HA2.out⟩, HG2.out⟩
      · have hp : Pr x = false := h1 (by omega)
        rw [hp]
        clear h1 h2 hp HC
        go_wp2_with fail
        go_roundw
        case rel => exact ⟨a + 1, by go_num, by omega, HA2, HG2⟩
        case measure => simp [intOf]; omega
    · obtain rfl : a = n := by omega
      obtain rfl : ix = a := by omega
      go_wp2_with fail
      go_ret
      exact ⟨_, rfl, Or.inl ⟨rfl, by rw [← HIX.out, HNL.out], by rw [← HNL.out]; exact HA.out⟩, HG.out⟩
end
section
set_option linter.unusedSimpArgs false
set_option linter.unusedVariables false
open Go.RowKit Sha
/-- Only such blocks change, and new ones come. -/
structure Chg (S : Nat → Prop) (w w' : World) : Prop where
  os : w'.os = w.os
  tape : w'.tape = w.tape
  output : w'.output = w.output
  size : w.heap.size ≤ w'.heap.size
  block : ∀ k, k < w.heap.size → ¬ S k → w'.heap[k]? = w.heap[k]?
theorem Chg.refl (S : Nat → Prop) (w : World) : Chg S w w := ⟨rfl, rfl, rfl, Nat.le_refl _, fun _ _ _ => rfl⟩
theorem Chg.trans {S : Nat → Prop} {a b c : World} (h : Chg S a b) (k : Chg S b c) : Chg S a c := ⟨k.os.trans h.os, k.tape.trans h.tape, k.output.trans h.output, Nat.le_trans h.size k.size, fun j hj hn => (k.block j (Nat.lt_of_lt_of_le hj h.size) hn).trans (h.block j hj hn)⟩
theorem Chg.mono {S S' : Nat → Prop} {a b : World} (h : Chg S a b) (hs : ∀ k, k < a.heap.size → S k → S' k) : Chg S' a b := ⟨h.os, h.tape, h.output, h.size, fun j hj hn => h.block j hj fun e => hn (hs j hj e)⟩
theorem Chg.grown {S : Nat → Prop} {a b c : World} {row : Option Nat} (h : Chg S a b) (hg : b.grownBy c row) (hr : ∀ k, row = some k → k < a.heap.size → S k) : Chg S a c :=
  ⟨hg.os.trans h.os, hg.tape.trans h.tape, hg.output.trans h.output, Nat.le_trans h.size hg.size, fun j hj hn => (hg.block j (Nat.lt_of_lt_of_le hj h.size) (fun e => hn (hr j e.symm hj))).trans (h.block j hj hn)⟩
theorem Chg.blk {S : Nat → Prop} {w w' : World} {g : Nat} {cs : List Value} {t : TypeId} (h : Chg S w w') (hb : Blk w g cs t) (hs : ¬ S g) : Blk w' g cs t := by
  unfold Blk; rw [h.block g hb.lt hs]; exact hb
theorem setCells_grown (w : World) (g o : Nat) (vs : List Value) : w.grownBy (w.setCells g o vs) (some g) := by
  have h := setCells_below (a := w) (B := g) (Nat.le_refl _) vs o w (Below.refl _ _)
  exact ⟨h.os, h.tape, h.output, h.size, fun k hk hn => setCells_heap g _ o w k (fun e => hn (by rw [e]))⟩
section
variable {P : Program} {t e : TypeId} {s : Nat}
theorem zeroCells_one {z : Array Value} (hz : 0 < z.size) (h1 : ∀ v ∈ z.toList, v.oneCell' = true) (n : Nat) : ∀ v ∈ (Builtin.zeroCells z n).toList, v.oneCell' = true := by
  intro v hv
  rw [Array.mem_toList_iff] at hv
  obtain ⟨i, hi, rfl⟩ := Array.mem_iff_getElem.1 hv
  simp only [Builtin.zeroCells, Array.getElem_map, Array.getElem_range]
  have hlt : i % z.size < z.size := Nat.mod_lt _ hz
  rw [getElem!_pos z (i % z.size) hlt]
  exact h1 _ (by simp)
theorem run_clearS (w : World) (hu : P.underlying t = some (.slice e)) {z : Value} (hz : ∀ w, (zeroValue e).run P w = .ok z w) (hp : 0 < z.cells.size) (h1 : ∀ v ∈ z.cells.toList, v.oneCell' = true) (g o n c : Nat) (hn : 0 < n)
    (ht : w.there g o (n * z.cells.size)) (ty : TypeId) : (Builtin.clear_ #[t] ty #[.slice (some ⟨g, o, none⟩) n c]).run P w = .ok (.tuple #[]) (w.setCells g o (Builtin.zeroCells z.cells n).toList) := by
  have hl : (Builtin.zeroCells z.cells n).toList.length = n * z.cells.size := by rw [Array.length_toList, size_zeroCells]
  have h2 := run_storeCells_cells (P := P) g o (Builtin.zeroCells z.cells n).toList 0 w (fun j hj => by rw [hl] at hj; simpa using (ht j hj).1) (fun j hj => by rw [hl] at hj; simpa using (ht j hj).2) (zeroCells_one hp h1 n)
  simp only [Nat.add_zero] at h2
  obtain ⟨m, rfl⟩ : ∃ m, n = m + 1 := ⟨n - 1, by omega⟩
  simp [Builtin.clear_, run_underlying hu, hz, h2]
theorem clear_law (w : World) {ops : Array Oper} {rest : List Oper} {o : Oper} {a : Act} {Q : Exit → Act → World → Prop} (hgd : o.guard = none) (d : Operand) (t1 : TypeId)
    (ho : o.op = .call { callee := .builtin .clear, args := #[d], argTypes := #[t1] }) (v : Value) (hd : a.eval d = v) {v' : Value} {w' : World}
    (hr : (Builtin.clear_ #[t1] o.type #[v]).run P w = .ok v' w') (h : wpList P ops Q rest (a.put o.dst v') w') : wpList P ops Q (o :: rest) a w := by
  refine wpList_plain hgd fun K hK => ?_
  unfold Oper.wp execOp
  simp only [ho, resolve, invoke, builtin, Sem.run_bind, Sem.run_pure, Result.andThen_ok, List.map_toArray, List.map_cons, List.map_nil, hd, hr]
  exact hK _ _ h
theorem delete_law (w : World) {ops : Array Oper} {rest : List Oper} {o : Oper} {a : Act} {Q : Exit → Act → World → Prop} (hgd : o.guard = none) (d x : Operand) (t1 t2 : TypeId)
    (ho : o.op = .call { callee := .builtin .delete, args := #[d, x], argTypes := #[t1, t2] }) (v u : Value) (hd : a.eval d = v) (hx : a.eval x = u) {v' : Value} {w' : World}
    (hr : (Builtin.delete_ #[t1, t2] o.type #[v, u]).run P w = .ok v' w') (h : wpList P ops Q rest (a.put o.dst v') w') : wpList P ops Q (o :: rest) a w := by
  refine wpList_plain hgd fun K hK => ?_
  unfold Oper.wp execOp
  simp only [ho, resolve, invoke, builtin, Sem.run_bind, Sem.run_pure, Result.andThen_ok, List.map_toArray, List.map_cons, List.map_nil, hd, hx, hr]
  exact hK _ _ h
/-- A store into the middle of a row. -/
theorem run_storeMid {w : World} {g : Nat} {pre mid post cs : List Value} {te : TypeId} (hb : Blk w g (pre ++ mid ++ post) te) (hl : mid.length = cs.length) (hi : (P.info? t).map (·.size) = some cs.length) (h1 : ∀ v ∈ cs, v.oneCell' = true) :
    (storeOp t (.pointer (some ⟨g, pre.length, none⟩)) (.agg cs.toArray)).run P w = .ok .skip (w.setCells g pre.length cs) := by
  have := run_storeAt_mid (P := P) w g pre.length t cs.toArray (hb.there _ _ (by simp [hl])) (by simpa using hi) (by simpa using h1)
  unfold storeOp
  simp only [Sem.run_bind, this, Result.andThen_ok, Sem.run_pure]
end
end
section
set_option linter.unusedSimpArgs false
set_option linter.unusedVariables false
open Go.RowKit Sha Fct
section
variable {V : Type} {S : Shp V} {w : World} {g : Nat} {t : TypeId}
theorem good_blk {w' : World} {x : V} {q : Option Addr} {c : Nat} (h : S.Good w x q c) (hu : U8 w q (S.byt x)) (hk : ∀ g cs, Blk w g cs 5 → Blk w' g cs 5) : S.Good w' x q c := by
  refine ⟨h.ok, ?_, h.le, h.max, h.nil⟩
  rcases hu with h0 | ⟨g, cs, rfl, hb⟩
  · left; rw [h0]; rfl
  · rcases h.at_ with h1 | ⟨b, off, ha, hc⟩
    · exact Or.inl h1
    · cases ha
      refine Or.inr ⟨g, 0, rfl, fun i u hi => ?_⟩
      have h2 := hc i u hi
      rw [hb.cell] at h2
      rw [(hk g cs hb).cell]; exact h2
theorem u8_keeps {w' : World} {P : Nat → Prop} (hg : Chg P w w') (hp : ∀ k cs, Blk w k cs 5 → ¬ P k) : ∀ g cs, Blk w g cs 5 → Blk w' g cs 5 := fun g cs hk => hg.blk hk (hp g cs hk)
theorem blk_ty {g : Nat} {cs cs' : List Value} {t t' : TypeId} (h : Blk w g cs t) (h' : Blk w g cs' t') : t = t' := by
  unfold Blk at h h'
  rw [h] at h'; simp at h'; exact h'.2
/-- So many kept, so much between, the rest unread. -/
def MidB (S : Shp V) (w : World) (g : Nat) (t : TypeId) (F : List (Hd V)) (G : List Value) (D : List (Hd V)) (rest : List Value) : Prop := Blk w g (F.flatMap S.row ++ G ++ D.flatMap S.row ++ rest) t
theorem MidB.kept {w' : World} {F : List (Hd V)} {G : List Value} {D : List (Hd V)} {rest : List Value} {row : Option Nat} (h : MidB S w g t F G D rest) (hg : w.grownBy w' row) (hne : row ≠ some g) : MidB S w' g t F G D rest := blk_grown h hg hne
variable {F D : List (Hd V)} {G rest : List Value} {y : Hd V} {i j : Nat}
theorem MidB.range (h : MidB S w g t F G (y :: D) rest) (hF : ∀ y ∈ F, S.ok y.1) (hi : F.length = i) (hG : G.length = (j - i) * S.n) (hij : i ≤ j) : w.rangeAt g (j * S.n) (S.row y) := by
  intro k u hk
  unfold MidB at h
  rw [List.flatMap_cons, ← List.append_assoc, List.append_assoc (F.flatMap S.row ++ G ++ S.row y)] at h
  have := cells_in (o := j * S.n) h (by rw [List.length_append, flat_len hF, hi, hG, ← Nat.add_mul]; congr 1; omega) k u hk
  rw [Addr.add_mid] at this; exact this
theorem MidB.skip (h : MidB S w g t F G (y :: D) rest) : MidB S w g t F (G ++ S.row y) D rest := by
  unfold MidB at h ⊢
  rw [List.flatMap_cons] at h
  simpa only [List.append_assoc] using h
theorem MidB.keep (h : MidB S w g t F G (y :: D) rest) (hF : ∀ y ∈ F, S.ok y.1) (hy : S.ok y.1) (hi : F.length = i) (hG : G.length = (j - i) * S.n) (hij : i < j) :
    MidB S (w.setCells g (i * S.n) (S.row y)) g t (F ++ [y]) (G.drop S.n ++ S.row y) D rest ∧ (G.drop S.n ++ S.row y).length = (j + 1 - (i + 1)) * S.n ∧
    ∀ {P : Program} {ty : TypeId}, (P.info? ty).map (·.size) = some S.n → (storeOp ty (.pointer (some ⟨g, i * S.n, none⟩)) (.agg (S.row y).toArray)).run P w = .ok .skip (w.setCells g (i * S.n) (S.row y)) := by
  have hl : (S.row y).length = S.n := S.len _ _ hy
  have h1 : S.n ≤ G.length := by rw [hG]; have : 1 * S.n ≤ (j - i) * S.n := Nat.mul_le_mul_right _ (by omega); omega
  have hp : (F.flatMap S.row).length = i * S.n := by rw [flat_len hF, hi]
  unfold MidB at h ⊢
  have hb : Blk w g (F.flatMap S.row ++ G.take S.n ++ (G.drop S.n ++ (y :: D).flatMap S.row ++ rest)) t := by
    have e : F.flatMap S.row ++ G ++ (y :: D).flatMap S.row ++ rest = F.flatMap S.row ++ G.take S.n ++ (G.drop S.n ++ (y :: D).flatMap S.row ++ rest) := by
      conv => lhs; rw [← List.take_append_drop S.n G]
      simp only [List.append_assoc]
    rw [← e]; exact h
  have hm : (G.take S.n).length = (S.row y).length := by rw [List.length_take, hl]; omega
  refine ⟨?_, ?_, fun {P ty} hs => ?_⟩
  · have := Blk.setCells (S.row y) (i * S.n) w _ _ _ hb hp hm
    rw [List.flatMap_append, List.flatMap_cons, List.flatMap_nil, List.append_nil]
    rw [List.flatMap_cons] at this
    simpa only [List.append_assoc] using this
  · obtain ⟨d, hd⟩ : ∃ d, j - i = d + 1 := ⟨j - i - 1, by omega⟩
    rw [List.length_append, List.length_drop, hG, hl, show j + 1 - (i + 1) = d + 1 by omega, hd, Nat.succ_mul]; omega
  · have := run_storeMid (P := P) (t := ty) hb hm (by rw [hl]; exact hs) (S.one _ _ _)
    rw [hp] at this; exact this
/-- At the end. -/
theorem MidB.clear (h : MidB S w g t F G [] rest) (hF : ∀ y ∈ F, S.ok y.1) (hi : F.length = i) (hG : G.length = (j - i) * S.n) {Z : List Value} (hZ : Z.length = (j - i) * S.n) (hij : i ≤ j) {B cap : Nat} (hB : B ≤ g) (hjc : j ≤ cap) (hm : cap ≤ maxLen)
    (hr : rest.length = (cap - j) * S.n) : (w.setCells g (i * S.n) Z).ownsRow B t S.n (.slice (some ⟨g, 0, none⟩) i cap) i (F.flatMap S.row) ∧ w.there g (i * S.n) ((j - i) * S.n) := by
  unfold MidB at h
  rw [List.flatMap_nil, List.append_nil] at h
  have hp : (F.flatMap S.row).length = i * S.n := by rw [flat_len hF, hi]
  refine ⟨?_, h.there _ _ (by rw [List.length_append, List.length_append, hp, hG]; omega)⟩
  have h2 := Blk.setCells Z (i * S.n) w _ _ _ h hp (by rw [hG, hZ])
  rw [List.append_assoc] at h2
  exact own_ofBlk hB h2 (by omega) hm hp (by rw [List.length_append, List.length_append, hp, hZ, hr, ← Nat.add_mul, ← Nat.add_mul]; congr 1; omega)
theorem filter_upto {α : Type} (kp : α → Bool) (ys : List α) (j : Nat) (hj : j < ys.length) : (ys.take (j + 1)).filter kp = (ys.take j).filter kp ++ if kp ys[j] = true then [ys[j]] else [] := by
  rw [List.take_succ_eq_append_getElem hj, List.filter_append]
  congr 1
  cases h : kp ys[j] <;> simp [h]
end
end
end Go.Proofs.YtokpabkcaofahaaGreat
