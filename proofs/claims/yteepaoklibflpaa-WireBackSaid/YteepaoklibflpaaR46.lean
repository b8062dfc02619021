/-
  The wire package's Get (written by mknwq15.py).
-/
import Derived.Test.YteepaoklibflpaaR42
import Derived.Test.YteepaoklibflpaaR45
import Derived.Test.YteepaoklibflpaaR14
namespace Go.Proofs.Yteepaoklibflpaa
section
set_option linter.unusedSimpArgs false
set_option linter.unusedVariables false
open Go.RowKit Sha Nte
open Fld (Itm)
section
variable (ρ : Operand → Value) (dst : Option Tmp) (ty : TypeId) (pos : String) (after : Array Edge) (guard : Option (Nat × Bool)) (x y : Operand)
theorem execOp_allocFlt15 : execOp ρ { dst := dst, op := .alloc 57, type := ty, pos := pos, after := after, guard := guard } = allocOp 57 := by unfold allocOp; rfl
theorem execOp_storeFlt15 : execOp ρ { dst := dst, op := .store 57 x y, type := ty, pos := pos, after := after, guard := guard } = storeOp 57 (ρ x) (ρ y) := by unfold storeOp; rfl
end
theorem flt_zero15 : (Try.prog.info? 57).map (fun i => i.zero) = some (some (.agg #[nic 0, nic 0])) := by kernel_rfl
theorem flt_size15 : (Try.prog.info? 57).map (fun i => i.size) = some 2 := by kernel_rfl
theorem alloc_flt15 (w : World) : (allocOp 57).run Try.prog w = .ok (.value (.pointer (some ⟨w.heap.size, 0, none⟩))) (w.alloc (.cells #[nic 0, nic 0] 57)) := run_allocOp w flt_zero15
theorem store_flt15 {w : World} {g : Nat} {a b c d : Int} (h : Blk w g [nic c, nic d] 57) : (storeOp 57 (.pointer (some ⟨g, 0, none⟩)) (.agg #[nic a, nic b])).run Try.prog w = .ok .skip (w.setRow g #[nic a, nic b]) :=
  run_storeOp (old := #[nic c, nic d]) h (by rw [flt_size15]; rfl) rfl (by simp [Value.oneCell'])
/-- Items that field's Get told: where they lie, their bytes in blocks of the call's own. -/
structure Own15 (B : Nat) (w : World) (p : Option Addr) (n c : Nat) (ys : List Hdr) : Prop where
  left : LeftAt w p n c ys
  own : ∀ y ∈ ys, GoodR B w y.1 y.2.1 y.2.2
theorem toldR_own {B : Nat} {w : World} {p : Option Addr} {n c : Nat} {l : List Itm} (h : ToldR B w p n c l) : ∃ ys, ys.map (·.1) = l ∧ Own15 B w p n c ys := by
  obtain ⟨ys, h1, h2, h3⟩ := h.rows
  exact ⟨ys, h1, ⟨⟨by rw [h.told.len, ← h1, List.length_map], h.told.le, h.told.max, h.told.nil, h2, fun y hy => (h3 y hy).good⟩, h3⟩⟩
theorem toldR_below {B : Nat} {w w' : World} {p : Option Addr} {n c : Nat} {l : List Itm} (h : ToldR B w p n c l) (hb : Below w.heap.size w w') : ToldR B w' p n c l :=
  ⟨h.told.below hb, by obtain ⟨ys, h1, h2, h3⟩ := h.rows; exact ⟨ys, h1, h2.below hb, fun y hy => (h3 y hy).carry fun g cs hg => hg.below hb hg.lt⟩⟩
theorem at_rowO {w : World} {p : Option Addr} {xs : List Value} (h : At w p xs) {g : Nat} {cs cs' : List Value} {t : TypeId} (hk : Blk w g cs t) (hx : ∀ (i : Nat) (v : Value), xs[i]? = some v → v ≠ undef) (hne : ∀ b off, p = some ⟨b, off, none⟩ → xs ≠ [] → b ≠ g) : At (w.setRow g cs'.toArray) p xs := by
  rcases h with h | ⟨b, off, rfl, hc⟩
  · exact Or.inl h
  · by_cases hz : xs = []
    · exact Or.inl hz
    · refine Or.inr ⟨b, off, rfl, fun i v hi => ?_⟩
      have hb := hne b off rfl hz
      have e : (w.setRow g cs'.toArray).heap[b]? = w.heap[b]? := by
        simp only [World.setRow]
        rw [Array.getElem?_modify, if_neg (fun e => hb e.symm)]
      exact (World.cell?_of_block (w := w) (a := ⟨b, off + i, none⟩) e).trans (hc i v hi)
theorem flt_row {w : World} {p : Option Addr} {ys : List Hdr} (h : At w p (ys.flatMap cellsI)) (hok : ∀ y ∈ ys, y.1.ok) {g : Nat} {a b : Int} (hk : Blk w g [nic a, nic b] 57) (cs' : List Value) : At (w.setRow g cs'.toArray) p (ys.flatMap cellsI) := by
  refine at_rowO h hk (fun i v hi => ?_) (fun b0 off hp hne e => ?_)
  · intro e
    have : v ∈ ys.flatMap cellsI := List.mem_of_getElem? hi
    obtain ⟨y, _, hv⟩ := List.mem_flatMap.1 this
    have := icells_one _ _ _ v hv
    rw [e] at this; cases this
  · subst e hp
    rcases h with h | ⟨b1, o1, e1, hc⟩
    · exact hne h
    · cases e1
      have hl := flat_length ys hok
      have hpos : 0 < ys.length := by
        cases ys with
        | nil => exact absurd rfl hne
        | cons y ys => simp
      have h2 := hc 2 _ (List.getElem?_eq_getElem (show 2 < (ys.flatMap cellsI).length by rw [hl]; omega))
      rw [hk.cell] at h2
      have h3 := (List.getElem?_eq_some_iff.1 h2).1
      simp at h3
      have h0 := hc 0 _ (List.getElem?_eq_getElem (show 0 < (ys.flatMap cellsI).length by rw [hl]; omega))
      have h33 := hc 33 _ (List.getElem?_eq_getElem (show 33 < (ys.flatMap cellsI).length by rw [hl]; omega))
      rw [hk.cell] at h33
      have h4 := (List.getElem?_eq_some_iff.1 h33).1
      simp at h4
      omega
theorem toldR_row {B : Nat} {w : World} {p : Option Addr} {n c : Nat} {l : List Itm} (h : ToldR B w p n c l) {g : Nat} {a b : Int} (hk : Blk w g [nic a, nic b] 57) (cs' : List Value) : ToldR B (w.setRow g cs'.toArray) p n c l := by
  obtain ⟨ys, h1, h2, h3⟩ := h.rows
  have h4 : At (w.setRow g cs'.toArray) p (ys.flatMap cellsI) := flt_row h2 (fun y hy => (h3 y hy).ok) hk cs'
  have h5 : ∀ y ∈ ys, GoodR B (w.setRow g cs'.toArray) y.1 y.2.1 y.2.2 := fun y hy => (h3 y hy).carry fun g' cs hg => hg.rowOther _ (fun e => by
    subst e
    unfold Blk at hg hk
    rw [hg] at hk
    have := Option.some.inj hk
    injection this with _ h2
    exact absurd h2 (by decide))
  exact ⟨⟨h.told.len, h.told.le, h.told.max, h.told.nil, ⟨ys, h1, h4, fun y hy => (h5 y hy).good⟩⟩, ys, h1, h4, h5⟩
theorem own_setRow {w : World} {gr B n size : Nat} {e : TypeId} {v : Value} {xs cs : List Value} (h : w.ownsRow B e size v n xs) (hk : Blk w gr cs 32) (he : e ≠ 32) (cs' : List Value) : (w.setRow gr cs'.toArray).ownsRow B e size v n xs :=
  row_carry h fun k c fz _ hh => by
    have hne : k ≠ gr := fun e' => by
      subst e'
      unfold Blk at hk
      rw [hh] at hk
      have := Option.some.inj hk
      injection this with _ h2
      exact he h2
    simp only [World.setRow]
    rw [Array.getElem?_modify, if_neg (fun e => hne e.symm)]
    exact hh
theorem own8_setRow {w : World} {gr B n : Nat} {e : TypeId} {v : Value} {xs cs : List Value} (h : Own8 w B e v n xs) (hk : Blk w gr cs 32) (he : e ≠ 32) (cs' : List Value) : Own8 (w.setRow gr cs'.toArray) B e v n xs :=
  ⟨own_setRow h.row hk he cs', h.ints.carry fun g hg => by
    obtain ⟨c, fz, hh⟩ := row_kind h.row g hg
    have hne : g ≠ gr := fun e' => by
      subst e'
      unfold Blk at hk
      rw [hh] at hk
      have := Option.some.inj hk
      injection this with _ h2
      exact he h2
    simp only [World.setRow]
    rw [Array.getElem?_modify, if_neg (fun e => hne e.symm)]⟩
theorem own_note {w : World} {B : Nat} {x : Not} {h : NHd} (hx : x.ok) (hX : Own8 w B 5 (.slice h.q x.X.length h.c) x.X.length (x.X.map v8)) (hI : w.ownsRow B 27 32 (.slice h.r x.I.length h.d) x.I.length (x.I.flatMap (fun d => d.map v8)))
    (hW : w.ownsRow B 67 3 (.slice h.s x.W.length h.e) x.W.length (x.W.flatMap nmc)) : NGood w x h := by
  obtain ⟨p, c, he, q1, q2, q3, _, q5⟩ := own_at hX.row
  cases he
  exact ⟨hx, q3, q1, by unfold maxLen at q2; omega, q5, own_sI hI rfl hx.I, own_sW hW rfl hx.W⟩
theorem built_note0 : Try.prog.built 32 [] = some (ncells none_ NHd.none_).toArray := by unfold ncells; kernel_rfl
/-- Whose bytes are the call's own, at a world. -/
def U15 (B : Nat) (wI : World) (b : List Int) (q : Option Addr) (c : Nat) : Prop := c = b.length ∧ c ≤ 4000 ∧ ((b = [] ∧ q = none) ∨ ∃ g, q = some ⟨g, 0, none⟩ ∧ B ≤ g ∧ Blk wI g (b.map v8) 5)
theorem u15_none (B : Nat) (wI : World) : U15 B wI [] none 0 := ⟨rfl, by omega, Or.inl ⟨rfl, rfl⟩⟩
theorem u15_own {B : Nat} {wI w : World} {b : List Int} {q : Option Addr} {c : Nat} (h : U15 B wI b q c) (hb : Below wI.heap.size wI w) : Own8 w B 5 (.slice q b.length c) b.length (b.map v8) := by
  obtain ⟨h1, h2, ⟨rfl, rfl⟩ | ⟨g, rfl, hg, hk⟩⟩ := h
  · subst h1; exact Own8.nil _ _ _
  · have hk2 := hk.below hb hk.lt
    refine ⟨⟨by simp, Or.inr ⟨g, c, (b.map v8).toArray, rfl, hg, hk2, by omega, by unfold maxLen; omega, by simp [h1], by rw [List.toList_toArray, List.take_of_length_le (by simp)]⟩⟩, ?_⟩
    exact ints_block (cur := (b.map v8).toArray) hk2 (fun u hu => by
      have : u ∈ b.map v8 := by simpa using hu
      obtain ⟨n, _, rfl⟩ := List.mem_map.1 this
      exact ⟨n, rfl⟩)
section
attribute [local go_sem ↓] execOp_loadNote execOp_allocNote execOp_storeNote execOp_makeNote execOp_loadForm15 execOp_allocForm15 execOp_storeForm15 execOp_allocFlt15 execOp_storeFlt15
set_option maxRecDepth 100000 in
set_option maxHeartbeats 8000000 in
theorem wget_any (F : FrameOK) (zs : List Int) (n : Nat) (p : Option Addr) (cap : Nat) (w : World) (hzl : zs.length = n) (hgs : GoodS w (zs, p, cap)) (hn4 : n ≤ 4101) : Calls Try.prog 7 #[.slice p n cap] w (NGet w (Nte.get zs)) := by
  have al := alloc_note w
  have B1 := Lib.hid ((Below.refl _ w).alloc (Nat.le_refl _) (.cells (ncells none_ NHd.none_).toArray 32))
  have N1 := Lib.hid (show Blk (w.alloc (.cells (ncells none_ NHd.none_).toArray 32)) w.heap.size (ncells none_ NHd.none_) 32 from Blk.new w (ncells none_ NHd.none_).toArray 32)
  have HGS := Lib.hid (hgs.below B1.out)
  have HBY := Lib.hid hgs.bytes
  have HZL := Lib.hid hzl
  obtain ⟨gr, hgr⟩ : ∃ gr, gr = w.heap.size := ⟨_, rfl⟩
  have HGR := Lib.hid hgr
  obtain ⟨w1, hw1⟩ : ∃ v, v = w.alloc (.cells (ncells none_ NHd.none_).toArray 32) := ⟨_, rfl⟩
  rw [← hw1] at al B1 N1 HGS
  rw [← hgr] at al N1
  have HSP := Lib.hid (F.split zs n p cap w1 hzl HGS.out (by omega))
  have mk0 := fun w => run_makeOp w built_note0
  -- what refusals leave
  have NO := Lib.hid (show ∀ w' : World, Nte.get zs = (none_, 10) → Below w.heap.size w w' → ∃ hh : NHd, (ncells none_ NHd.none_).toArray = (ncells (Nte.get zs).1 hh).toArray ∧ (10 : Int) = (Nte.get zs).2 ∧ NGood w' (Nte.get zs).1 hh ∧ NOwn w' w.heap.size (Nte.get zs).1 hh from fun w' hg hb => ⟨NHd.none_, by rw [hg], by rw [hg], by rw [hg]; exact ngood_none w', by rw [hg]; exact ⟨Own8.nil _ _ _, World.ownsRow_nil _ _ _ _, World.ownsRow_nil _ _ _ _⟩⟩)
  clear hw1 hgs hzl hgr
  go_enter Try.func7, Try.ntmps7
  go_wp2_with fail
  refine HSP.out.mono ?_
  rintro e w2 ⟨v2, ys, rfl, hys, ho2, _, hb2⟩
  obtain ⟨q2, c2, rfl, hT⟩ := ho2.told
  have HT := Lib.hid hT
  have HYS := Lib.hid hys
  have HB2 := Lib.hid (B1.out.trans (hb2.mono B1.out.size))
  have N2 := Lib.hid (N1.out.below hb2 N1.out.lt)
  have HGS2 := Lib.hid (HGS.out.below hb2)
  obtain ⟨ny, hny⟩ : ∃ k, k = ys.length := ⟨_, rfl⟩
  obtain ⟨en, hen⟩ : ∃ k, k = (Frm.split zs).2 := ⟨_, rfl⟩
  have HNY := Lib.hid hny
  have HEN := Lib.hid hen
  rw [← hny] at HT ⊢
  rw [← hen]
  clear hT hys ho2 hb2 hny hen HSP al N1 HGS B1
  have RET := Lib.hid (show ∀ (w' : World), Nte.get zs = (none_, 10) → Below w.heap.size w w' → NGet w (Nte.get zs) (.returned (.tuple #[.agg (ncells none_ NHd.none_).toArray, .int .i64 10])) w' from fun w' hg hb => by
    obtain ⟨hh, e1, e2, g1, g2⟩ := NO.out w' hg hb
    exact ⟨hh, by rw [e1, ← e2], g1, g2, hb⟩)
  by_cases h1 : ny = 1
  · by_cases h2 : en = n
    · have h2' := h2.symm
      subst h1 h2'
      obtain ⟨y0, rfl⟩ : ∃ y0, ys = [y0] := List.length_eq_one_iff.1 HNY.out.symm
      have hs : Frm.split zs = ([y0.1], zs.length) := by
        have e1 : (Frm.split zs).1 = [y0.1] := HYS.out.symm
        have e2 : (Frm.split zs).2 = zs.length := by rw [← HEN.out, HZL.out]
        exact Prod.ext e1 e2
      obtain ⟨hso1, _, _⟩ := Frm.split_sound _ zs (Nat.le_refl _) HBY.out
      rw [hs] at hso1
      obtain ⟨hrec, hby⟩ := hso1 y0.1 (by simp)
      obtain ⟨rb, ro, q4, d4, rfl, hcell, hg4⟩ := HT.out.get 0 (by simp)
      simp only [List.map_cons, List.map_nil, List.getElem_cons_zero, Nat.add_zero] at hcell hg4
      obtain ⟨l0, hl0⟩ : ∃ l, l = y0.1 := ⟨_, rfl⟩
      rw [← hl0] at hs hrec hby hcell hg4
      obtain ⟨k, r, hkr⟩ : ∃ k r, l0 = k :: r := by
        cases l0 with
        | nil => have := hrec.one; simp at this
        | cons k r => exact ⟨k, r, rfl⟩
      obtain ⟨sb, so, rfl, hbyte⟩ := hg4.at_.addr (by rw [hkr]; simp)
      have cb : w2.cell? ⟨sb, so, none⟩ = some (v8 k) := by
        have := hbyte 0 (v8 k) (by rw [hkr]; rfl)
        simpa using this
      have hkb : 0 ≤ k ∧ k ≤ 255 := hby k (by rw [hkr]; simp)
      obtain ⟨m, hm⟩ : ∃ m, m = l0.length := ⟨_, rfl⟩
      rw [← hm] at hcell
      have hm0 : 0 < m := by rw [hm, hkr]; exact Nat.succ_pos _
      have HM := Lib.hid hm
      have HG4 := Lib.hid hg4
      have HSP := Lib.hid hs
      have HKR := Lib.hid hkr
      have HBL := Lib.hid hby
      have HRC := Lib.hid hrec
      have HS := Lib.hid (show ∀ w', Below w2.heap.size w2 w' → (w'.cell? ⟨rb, ro, none⟩ = some (.slice (some ⟨sb, so, none⟩) m d4) ∧ w'.cell? ⟨sb, so, none⟩ = some (v8 k)) from fun w' hb => ⟨(hb.cell (World.block_lt_of_cell? w2 _ hcell)).trans hcell, (hb.cell (World.block_lt_of_cell? w2 _ cb)).trans cb⟩)
      have LK0 := Lib.hid (show ∀ w' m, WTab w' m → _ from fun w' m hm => wlook_any hm k)
      have HLH := Lib.hid (show isK k = true → lkH k = kHas k ∧ lkY k = kYes k ∧ lkN k = kNo k from fun e => by unfold lkH lkY lkN; rw [e]; exact ⟨rfl, rfl, rfl⟩)
      have HIS := Lib.hid (show (isK k = true → 1 ≤ k ∧ k ≤ 19) ∧ (isK k = false → ¬ (1 ≤ k ∧ k ≤ 19)) from ⟨fun e => of_decide_eq_true e, fun e => of_decide_eq_false e⟩)
      obtain ⟨t, ht⟩ : ∃ t, t = lkH k := ⟨_, rfl⟩
      obtain ⟨t1, ht1⟩ : ∃ t, t = lkY k := ⟨_, rfl⟩
      obtain ⟨t2, ht2⟩ : ∃ t, t = lkN k := ⟨_, rfl⟩
      obtain ⟨is_, his⟩ : ∃ b, b = isK k := ⟨_, rfl⟩
      rw [← ht, ← ht1, ← ht2, ← his] at HLH
      rw [← his] at HIS
      have LK := Lib.hid (show ∀ w' m, WTab w' m → (Instr.lookup 53 m (.int .i64 k) true).run Try.prog w' = .ok (.tuple #[.agg #[.string t, .string t1, .string t2], .bool is_]) w' from fun w' m hm => by rw [ht, ht1, ht2, his]; exact LK0.out w' m hm)
      have tn : ((n : Int) != (n : Int)) = false := by simp
      have wk : wrap64 k = k := IntWalk.wrap64_in _ ⟨by omega, by omega⟩
      have wk2 : IntKind.i64.wrap k = k := IntWalk.i64_in _ (by omega)
      clear ht ht1 ht2 his LK0 hs hrec hby hcell hg4 hl0 hkr hbyte cb hkb hm hso1 HT HYS HNY HEN
      go_wp2_with fail
      go_upto_region 4 with (fail)
      go_cut [6, 7] from 27 to 37 (fun s6 s7 wx => ∃ gf : Nat, s6 = .pointer (some ⟨gf, 0, none⟩) ∧ s7 = .bool is_ ∧ Hid (Blk wx gf (fcs t t1 t2) 51) ∧ Hid (Below w2.heap.size w2 wx))
      case first =>
        refine wp_region_held_drew (S := (fun w' => w'.cell? ⟨rb, ro, none⟩ = some (.slice (some ⟨sb, so, none⟩) m d4) ∧ w'.cell? ⟨sb, so, none⟩ = some (v8 k))) (by kernel_rfl) (HS.out _ (Below.refl w2.heap.size w2).drew) (fun hHeld => ?_)
        have BD := Lib.hid (Below.refl w2.heap.size w2).drew
        generalize w2.drew = wd at *
        refine take_at 1 (by kernel_rfl) (v := ?v1) (by kernel_rfl) (by kernel_rfl) (by kernel_rfl) (fun _ _ _ h => h) (by rfl) ?y1 (by assumption) ?r1
        case y1 => (intro w hSw; (try dsimp only at hSw); simp only [List.getElem_cons_succ, List.getElem_cons_zero]; go_simp; (try with_reducible rfl))
        try simp only [List.getElem_cons_succ, List.getElem_cons_zero, Act.put, List.setIfInBounds_toArray, List.set_cons_zero, List.set_cons_succ]
        refine take_at 2 (by kernel_rfl) (v := ?v2) (by kernel_rfl) (by kernel_rfl) (by kernel_rfl) (fun _ _ _ h => h) (by rfl) ?y2 (by assumption) ?r2
        case y2 => (intro w hSw; (try dsimp only at hSw); simp only [List.getElem_cons_succ, List.getElem_cons_zero]; go_simp; (try with_reducible rfl))
        try simp only [List.getElem_cons_succ, List.getElem_cons_zero, Act.put, List.setIfInBounds_toArray, List.set_cons_zero, List.set_cons_succ]
        refine take_at 3 (by kernel_rfl) (v := ?v3) (by kernel_rfl) (by kernel_rfl) (by kernel_rfl) (fun _ _ _ h => h) (by rfl) ?y3 (by assumption) ?r3
        case y3 => (intro w hSw; obtain ⟨h1, h2⟩ := hSw; simp only [List.getElem_cons_succ, List.getElem_cons_zero]; go_simp; (try with_reducible rfl))
        try simp only [List.getElem_cons_succ, List.getElem_cons_zero, Act.put, List.setIfInBounds_toArray, List.set_cons_zero, List.set_cons_succ]
        refine take_at 4 (by kernel_rfl) (v := ?v4) (by kernel_rfl) (by kernel_rfl) (by kernel_rfl) (fun _ _ _ h => h) (by rfl) ?y4 (by assumption) ?r4
        case y4 => (intro w hSw; (try dsimp only at hSw); simp only [List.getElem_cons_succ, List.getElem_cons_zero]; go_simp; (try with_reducible rfl))
        try simp only [List.getElem_cons_succ, List.getElem_cons_zero, Act.put, List.setIfInBounds_toArray, List.set_cons_zero, List.set_cons_succ]
        refine take_at 5 (by kernel_rfl) (v := ?v5) (by kernel_rfl) (by kernel_rfl) (by kernel_rfl) (fun _ _ _ h => h) (by rfl) ?y5 (by assumption) ?r5
        case y5 => (intro w hSw; obtain ⟨h1, h2⟩ := hSw; simp only [List.getElem_cons_succ, List.getElem_cons_zero]; go_simp; (try with_reducible rfl))
        try simp only [List.getElem_cons_succ, List.getElem_cons_zero, Act.put, List.setIfInBounds_toArray, List.set_cons_zero, List.set_cons_succ]
        refine take_at 6 (by kernel_rfl) (v := ?v6) (by kernel_rfl) (by kernel_rfl) (by kernel_rfl) (fun _ _ _ h => h) (by rfl) ?y6 (by assumption) ?r6
        case y6 => (intro w hSw; (try dsimp only at hSw); simp only [List.getElem_cons_succ, List.getElem_cons_zero]; go_simp; (try with_reducible rfl))
        try simp only [List.getElem_cons_succ, List.getElem_cons_zero, Act.put, List.setIfInBounds_toArray, List.set_cons_zero, List.set_cons_succ]
        refine ready2_at 0 11 (by kernel_rfl) (by kernel_rfl) (by kernel_rfl) ?_ ?_
        · intro K hK
          simp only [List.getElem_cons_succ, List.getElem_cons_zero]
          go_simp
          go_at_call 18
          refine (wforms_any _).mono ?_
          rintro e wF ⟨mF, rfl, hT_, hB_⟩
          have BF := Lib.hid (BD.out.trans (hB_.mono BD.out.size))
          have TF := Lib.hid hT_
          clear hT_ hB_
          (try go_wp2_with fail)
          refine hK.out _ _ (HS.out _ BF.out) (fun hHeld => ?_)
          clear hK K
          try simp only [List.getElem_cons_succ, List.getElem_cons_zero, Act.put, List.setIfInBounds_toArray, List.set_cons_zero, List.set_cons_succ]
          refine ready2_at 7 11 (by kernel_rfl) (by kernel_rfl) (by kernel_rfl) ?_ ?_
          · intro K hK
            have lk := LK.out _ _ TF.out
            simp only [List.getElem_cons_succ, List.getElem_cons_zero]
            go_simp
            refine hK.out _ _ (HS.out _ BF.out) (fun hHeld => ?_)
            clear hK K
            try simp only [List.getElem_cons_succ, List.getElem_cons_zero, Act.put, List.setIfInBounds_toArray, List.set_cons_zero, List.set_cons_succ]
            clear lk
            refine take_at 8 (by kernel_rfl) (v := ?v39) (by kernel_rfl) (by kernel_rfl) (by kernel_rfl) (fun _ _ _ h => h) (by rfl) ?y39 (by assumption) ?r39
            case y39 => (intro w hSw; (try dsimp only at hSw); simp only [List.getElem_cons_succ, List.getElem_cons_zero]; go_simp; (try with_reducible rfl))
            try simp only [List.getElem_cons_succ, List.getElem_cons_zero, Act.put, List.setIfInBounds_toArray, List.set_cons_zero, List.set_cons_succ]
            refine take_at 9 (by kernel_rfl) (v := ?v40) (by kernel_rfl) (by kernel_rfl) (by kernel_rfl) (fun _ _ _ h => h) (by rfl) ?y40 (by assumption) ?r40
            case y40 => (intro w hSw; (try dsimp only at hSw); simp only [List.getElem_cons_succ, List.getElem_cons_zero]; go_simp; (try with_reducible rfl))
            try simp only [List.getElem_cons_succ, List.getElem_cons_zero, Act.put, List.setIfInBounds_toArray, List.set_cons_zero, List.set_cons_succ]
            refine take_at 10 (by kernel_rfl) (v := ?v41) (by kernel_rfl) (by kernel_rfl) (by kernel_rfl) (fun _ _ _ h => h) (by rfl) ?y41 (by assumption) ?r41
            case y41 => (intro w hSw; (try dsimp only at hSw); simp only [List.getElem_cons_succ, List.getElem_cons_zero]; go_simp; (try with_reducible rfl))
            try simp only [List.getElem_cons_succ, List.getElem_cons_zero, Act.put, List.setIfInBounds_toArray, List.set_cons_zero, List.set_cons_succ]
            have al := alloc_form15 wF
            have BA := Lib.hid (BF.out.alloc BF.out.size (.cells #[.string ⟨#[]⟩, .string ⟨#[]⟩, .string ⟨#[]⟩] 51))
            have FA := Lib.hid (show Blk (wF.alloc (.cells #[.string ⟨#[]⟩, .string ⟨#[]⟩, .string ⟨#[]⟩] 51)) wF.heap.size (fcs ⟨#[]⟩ ⟨#[]⟩ ⟨#[]⟩) 51 from Blk.new wF #[.string ⟨#[]⟩, .string ⟨#[]⟩, .string ⟨#[]⟩] 51)
            have TA := Lib.hid (TF.out.below ((Below.refl _ wF).alloc (Nat.le_refl _) (.cells #[.string ⟨#[]⟩, .string ⟨#[]⟩, .string ⟨#[]⟩] 51)))
            refine ready_at 11 (by kernel_rfl) (by kernel_rfl) (fun K hK => ?_)
            simp only [List.getElem_cons_succ, List.getElem_cons_zero]
            go_simp
            refine hK.out _ _ (HS.out _ BA.out) (fun hHeld => ?_)
            clear hK K
            try simp only [List.getElem_cons_succ, List.getElem_cons_zero, Act.put, List.setIfInBounds_toArray, List.set_cons_zero, List.set_cons_succ]
            have HGF := Lib.hid BF.out.size
            clear al
            generalize wF.alloc (.cells #[.string ⟨#[]⟩, .string ⟨#[]⟩, .string ⟨#[]⟩] 51) = wA at *
            generalize wF.heap.size = gF at *
            have sf := store_form15 (a := t) (b := t1) (c := t2) FA.out
            have B9 := Lib.hid (Go.Proofs.Yteepaoklibflpaa.Below.setRow BA.out HGF.out #[.string t, .string t1, .string t2])
            have F9 := Lib.hid (show Blk (wA.setRow gF #[.string t, .string t1, .string t2]) gF (fcs t t1 t2) 51 from FA.out.row (fcs t t1 t2))
            refine ready_at 12 (by kernel_rfl) (by kernel_rfl) (fun K hK => ?_)
            simp only [List.getElem_cons_succ, List.getElem_cons_zero]
            go_simp
            refine hK.out _ _ (HS.out _ B9.out) (fun hHeld => ?_)
            clear hK K
            try simp only [List.getElem_cons_succ, List.getElem_cons_zero, Act.put, List.setIfInBounds_toArray, List.set_cons_zero, List.set_cons_succ]
            refine take_at 13 (by kernel_rfl) (v := ?v42) (by kernel_rfl) (by kernel_rfl) (by kernel_rfl) (fun _ _ _ h => h) (by rfl) ?y42 (by assumption) ?r42
            case y42 => (intro w hSw; (try dsimp only at hSw); simp only [List.getElem_cons_succ, List.getElem_cons_zero]; go_simp; (try with_reducible rfl))
            try simp only [List.getElem_cons_succ, List.getElem_cons_zero, Act.put, List.setIfInBounds_toArray, List.set_cons_zero, List.set_cons_succ]
            refine wpAnyH_done (by kernel_rfl) ?_ _
            go_wp2_with fail
            go_meet
            case rel => exact ⟨gF, rfl, rfl, F9, B9⟩
          · intro K hK
            have al := alloc_form15 wF
            have BA := Lib.hid (BF.out.alloc BF.out.size (.cells #[.string ⟨#[]⟩, .string ⟨#[]⟩, .string ⟨#[]⟩] 51))
            have FA := Lib.hid (show Blk (wF.alloc (.cells #[.string ⟨#[]⟩, .string ⟨#[]⟩, .string ⟨#[]⟩] 51)) wF.heap.size (fcs ⟨#[]⟩ ⟨#[]⟩ ⟨#[]⟩) 51 from Blk.new wF #[.string ⟨#[]⟩, .string ⟨#[]⟩, .string ⟨#[]⟩] 51)
            have TA := Lib.hid (TF.out.below ((Below.refl _ wF).alloc (Nat.le_refl _) (.cells #[.string ⟨#[]⟩, .string ⟨#[]⟩, .string ⟨#[]⟩] 51)))
            simp only [List.getElem_cons_succ, List.getElem_cons_zero]
            go_simp
            refine hK.out _ _ (HS.out _ BA.out) (fun hHeld => ?_)
            clear hK K
            try simp only [List.getElem_cons_succ, List.getElem_cons_zero, Act.put, List.setIfInBounds_toArray, List.set_cons_zero, List.set_cons_succ]
            have HGF := Lib.hid BF.out.size
            clear al
            generalize wF.alloc (.cells #[.string ⟨#[]⟩, .string ⟨#[]⟩, .string ⟨#[]⟩] 51) = wA at *
            generalize wF.heap.size = gF at *
            have lk := LK.out _ _ TA.out
            refine ready_at 7 (by kernel_rfl) (by kernel_rfl) (fun K hK => ?_)
            simp only [List.getElem_cons_succ, List.getElem_cons_zero]
            go_simp
            refine hK.out _ _ (HS.out _ BA.out) (fun hHeld => ?_)
            clear hK K
            try simp only [List.getElem_cons_succ, List.getElem_cons_zero, Act.put, List.setIfInBounds_toArray, List.set_cons_zero, List.set_cons_succ]
            clear lk
            refine take_at 8 (by kernel_rfl) (v := ?v43) (by kernel_rfl) (by kernel_rfl) (by kernel_rfl) (fun _ _ _ h => h) (by rfl) ?y43 (by assumption) ?r43
            case y43 => (intro w hSw; (try dsimp only at hSw); simp only [List.getElem_cons_succ, List.getElem_cons_zero]; go_simp; (try with_reducible rfl))
            try simp only [List.getElem_cons_succ, List.getElem_cons_zero, Act.put, List.setIfInBounds_toArray, List.set_cons_zero, List.set_cons_succ]
            refine take_at 9 (by kernel_rfl) (v := ?v44) (by kernel_rfl) (by kernel_rfl) (by kernel_rfl) (fun _ _ _ h => h) (by rfl) ?y44 (by assumption) ?r44
            case y44 => (intro w hSw; (try dsimp only at hSw); simp only [List.getElem_cons_succ, List.getElem_cons_zero]; go_simp; (try with_reducible rfl))
            try simp only [List.getElem_cons_succ, List.getElem_cons_zero, Act.put, List.setIfInBounds_toArray, List.set_cons_zero, List.set_cons_succ]
            refine take_at 10 (by kernel_rfl) (v := ?v45) (by kernel_rfl) (by kernel_rfl) (by kernel_rfl) (fun _ _ _ h => h) (by rfl) ?y45 (by assumption) ?r45
            case y45 => (intro w hSw; (try dsimp only at hSw); simp only [List.getElem_cons_succ, List.getElem_cons_zero]; go_simp; (try with_reducible rfl))
            try simp only [List.getElem_cons_succ, List.getElem_cons_zero, Act.put, List.setIfInBounds_toArray, List.set_cons_zero, List.set_cons_succ]
            have sf := store_form15 (a := t) (b := t1) (c := t2) FA.out
            have B9 := Lib.hid (Go.Proofs.Yteepaoklibflpaa.Below.setRow BA.out HGF.out #[.string t, .string t1, .string t2])
            have F9 := Lib.hid (show Blk (wA.setRow gF #[.string t, .string t1, .string t2]) gF (fcs t t1 t2) 51 from FA.out.row (fcs t t1 t2))
            refine ready_at 12 (by kernel_rfl) (by kernel_rfl) (fun K hK => ?_)
            simp only [List.getElem_cons_succ, List.getElem_cons_zero]
            go_simp
            refine hK.out _ _ (HS.out _ B9.out) (fun hHeld => ?_)
            clear hK K
            try simp only [List.getElem_cons_succ, List.getElem_cons_zero, Act.put, List.setIfInBounds_toArray, List.set_cons_zero, List.set_cons_succ]
            refine take_at 13 (by kernel_rfl) (v := ?v46) (by kernel_rfl) (by kernel_rfl) (by kernel_rfl) (fun _ _ _ h => h) (by rfl) ?y46 (by assumption) ?r46
            case y46 => (intro w hSw; (try dsimp only at hSw); simp only [List.getElem_cons_succ, List.getElem_cons_zero]; go_simp; (try with_reducible rfl))
            try simp only [List.getElem_cons_succ, List.getElem_cons_zero, Act.put, List.setIfInBounds_toArray, List.set_cons_zero, List.set_cons_succ]
            refine wpAnyH_done (by kernel_rfl) ?_ _
            go_wp2_with fail
            go_meet
            case rel => exact ⟨gF, rfl, rfl, F9, B9⟩
        · intro K hK
          have al := alloc_form15 wd
          have BA := Lib.hid (BD.out.alloc BD.out.size (.cells #[.string ⟨#[]⟩, .string ⟨#[]⟩, .string ⟨#[]⟩] 51))
          have FA := Lib.hid (show Blk (wd.alloc (.cells #[.string ⟨#[]⟩, .string ⟨#[]⟩, .string ⟨#[]⟩] 51)) wd.heap.size (fcs ⟨#[]⟩ ⟨#[]⟩ ⟨#[]⟩) 51 from Blk.new wd #[.string ⟨#[]⟩, .string ⟨#[]⟩, .string ⟨#[]⟩] 51)
          simp only [List.getElem_cons_succ, List.getElem_cons_zero]
          go_simp
          refine hK.out _ _ (HS.out _ BA.out) (fun hHeld => ?_)
          clear hK K
          try simp only [List.getElem_cons_succ, List.getElem_cons_zero, Act.put, List.setIfInBounds_toArray, List.set_cons_zero, List.set_cons_succ]
          have HGF := Lib.hid BD.out.size
          clear al
          generalize wd.alloc (.cells #[.string ⟨#[]⟩, .string ⟨#[]⟩, .string ⟨#[]⟩] 51) = wA at *
          generalize wd.heap.size = gF at *
          refine ready_at 0 (by kernel_rfl) (by kernel_rfl) (fun K hK => ?_)
          simp only [List.getElem_cons_succ, List.getElem_cons_zero]
          go_simp
          go_at_call 18
          refine (wforms_any _).mono ?_
          rintro e wF ⟨mF, rfl, hT_, hB_⟩
          have BF := Lib.hid (BA.out.trans (hB_.mono BA.out.size))
          have TF := Lib.hid hT_
          have FF := Lib.hid (FA.out.below hB_ FA.out.lt)
          clear hT_ hB_
          (try go_wp2_with fail)
          refine hK.out _ _ (HS.out _ BF.out) (fun hHeld => ?_)
          clear hK K
          try simp only [List.getElem_cons_succ, List.getElem_cons_zero, Act.put, List.setIfInBounds_toArray, List.set_cons_zero, List.set_cons_succ]
          have lk := LK.out _ _ TF.out
          refine ready_at 7 (by kernel_rfl) (by kernel_rfl) (fun K hK => ?_)
          simp only [List.getElem_cons_succ, List.getElem_cons_zero]
          go_simp
          refine hK.out _ _ (HS.out _ BF.out) (fun hHeld => ?_)
          clear hK K
          try simp only [List.getElem_cons_succ, List.getElem_cons_zero, Act.put, List.setIfInBounds_toArray, List.set_cons_zero, List.set_cons_succ]
          clear lk
          refine take_at 8 (by kernel_rfl) (v := ?v35) (by kernel_rfl) (by kernel_rfl) (by kernel_rfl) (fun _ _ _ h => h) (by rfl) ?y35 (by assumption) ?r35
          case y35 => (intro w hSw; (try dsimp only at hSw); simp only [List.getElem_cons_succ, List.getElem_cons_zero]; go_simp; (try with_reducible rfl))
          try simp only [List.getElem_cons_succ, List.getElem_cons_zero, Act.put, List.setIfInBounds_toArray, List.set_cons_zero, List.set_cons_succ]
          refine take_at 9 (by kernel_rfl) (v := ?v36) (by kernel_rfl) (by kernel_rfl) (by kernel_rfl) (fun _ _ _ h => h) (by rfl) ?y36 (by assumption) ?r36
          case y36 => (intro w hSw; (try dsimp only at hSw); simp only [List.getElem_cons_succ, List.getElem_cons_zero]; go_simp; (try with_reducible rfl))
          try simp only [List.getElem_cons_succ, List.getElem_cons_zero, Act.put, List.setIfInBounds_toArray, List.set_cons_zero, List.set_cons_succ]
          refine take_at 10 (by kernel_rfl) (v := ?v37) (by kernel_rfl) (by kernel_rfl) (by kernel_rfl) (fun _ _ _ h => h) (by rfl) ?y37 (by assumption) ?r37
          case y37 => (intro w hSw; (try dsimp only at hSw); simp only [List.getElem_cons_succ, List.getElem_cons_zero]; go_simp; (try with_reducible rfl))
          try simp only [List.getElem_cons_succ, List.getElem_cons_zero, Act.put, List.setIfInBounds_toArray, List.set_cons_zero, List.set_cons_succ]
          have sf := store_form15 (a := t) (b := t1) (c := t2) FF.out
          have B9 := Lib.hid (Go.Proofs.Yteepaoklibflpaa.Below.setRow BF.out HGF.out #[.string t, .string t1, .string t2])
          have F9 := Lib.hid (show Blk (wF.setRow gF #[.string t, .string t1, .string t2]) gF (fcs t t1 t2) 51 from FF.out.row (fcs t t1 t2))
          refine ready_at 12 (by kernel_rfl) (by kernel_rfl) (fun K hK => ?_)
          simp only [List.getElem_cons_succ, List.getElem_cons_zero]
          go_simp
          refine hK.out _ _ (HS.out _ B9.out) (fun hHeld => ?_)
          clear hK K
          try simp only [List.getElem_cons_succ, List.getElem_cons_zero, Act.put, List.setIfInBounds_toArray, List.set_cons_zero, List.set_cons_succ]
          refine take_at 13 (by kernel_rfl) (v := ?v38) (by kernel_rfl) (by kernel_rfl) (by kernel_rfl) (fun _ _ _ h => h) (by rfl) ?y38 (by assumption) ?r38
          case y38 => (intro w hSw; (try dsimp only at hSw); simp only [List.getElem_cons_succ, List.getElem_cons_zero]; go_simp; (try with_reducible rfl))
          try simp only [List.getElem_cons_succ, List.getElem_cons_zero, Act.put, List.setIfInBounds_toArray, List.set_cons_zero, List.set_cons_succ]
          refine wpAnyH_done (by kernel_rfl) ?_ _
          go_wp2_with fail
          go_meet
          case rel => exact ⟨gF, rfl, rfl, F9, B9⟩
      case rest =>
        obtain ⟨gf, rfl, rfl, HF, HB⟩ := hcut
        clear LK wk wk2
        have HS3 := Lib.hid (HS.out _ HB.out)
        have HB3 := Lib.hid (HB2.out.trans (HB.out.mono HB2.out.size))
        have N3 := Lib.hid (N2.out.below HB.out N2.out.lt)
        have HG3 := Lib.hid (HG4.out.below HB.out)
        clear HS HB HB2 N2 HG4 HGS2
        generalize wc = w3 at *
        cases is_ with
        | false =>
          have HC := Lib.hid (get_kind HSP.out (fun k' r' e => by rw [HKR.out] at e; rw [← (List.cons.inj e).1]; exact HIS.out.2 rfl))
          have s2 := store_note (x := none_) (h := NHd.none_) N3.out nz_len nz_len
          have R2 := Lib.hid (show Blk (_ : World) gr (ncells none_ NHd.none_) 32 from N3.out.row (ncells none_ NHd.none_))
          have BR := Lib.hid (Go.Proofs.Yteepaoklibflpaa.Below.setRow HB3.out (show w.heap.size ≤ gr by rw [HGR.out]; exact Nat.le_refl _) (ncells none_ NHd.none_).toArray)
          go_wp2_with fail
          exact bodyPost_ret (v := .tuple #[.agg (ncells none_ NHd.none_).toArray, .int .i64 10]) (results_note15 rfl _ _ _ _ _ _ _ _ rfl R2.out (Try.underlying32) rfl (note_sizeA nz_len _) rfl) rfl (RET.out _ HC.out BR.out)
        | true =>
          have HKK := Lib.hid (HIS.out.1 rfl)
          obtain ⟨e1, e2, e3⟩ := HLH.out rfl
          subst e1 e2 e3
          clear HIS HLH
          have HSH := Lib.hid (show ∀ w', Calls Try.prog 20 #[.agg #[.string (kHas k), .string (kYes k), .string (kNo k)]] w' fun e w'' => e = .returned (.string (shS k)) ∧ Below w'.heap.size w' w'' from fun w' => wshape_any k w')
          obtain ⟨rr, hrr⟩ : ∃ rr, rr = Fld.get (Nte.shape k) l0 := ⟨_, rfl⟩
          have HGET := Lib.hid (show ∀ w', Below w3.heap.size w3 w' → Calls Try.prog 19 #[.string (shS k), .slice (some ⟨sb, so, none⟩) m d4] w' (GetDoneR w' rr) from fun w' hb => by
            have hg := HG3.out.below hb
            have := getF_anyR (shS k) (by have := shS_size k; unfold maxLen; omega) l0 (some ⟨sb, so, none⟩) m d4 w' HM.out.symm hg.bytes hg.at_ (by rw [HM.out]; exact hg.le) hg.max (fun e => by cases e) (by rw [HM.out]; have := HRC.out.most; omega)
            rw [shS_nums] at this
            rw [hrr]; exact this)
          have HRR := Lib.hid hrr
          have HS := Lib.hid (show ∀ w', Below w3.heap.size w3 w' → (w'.cell? ⟨rb, ro, none⟩ = some (.slice (some ⟨sb, so, none⟩) m d4) ∧ (loadOp 51 (.pointer (some ⟨gf, 0, none⟩))).run Try.prog w' = .ok (.value (.agg #[.string (kHas k), .string (kYes k), .string (kNo k)])) w') from fun w' hb => ⟨(hb.cell (World.block_lt_of_cell? w3 _ HS3.out.1)).trans HS3.out.1, load_wform (HF.out.below hb HF.out.lt)⟩)
          clear hrr HS3 HG3
          go_wp2_with fail
          go_upto_region 7 with (fail)
          go_cut [8, 9] from 41 to 49 (fun s8 s9 wx => ∃ (qi : Option Addr) (ni ci gA : Nat), s8 = .slice qi ni ci ∧ s9 = .pointer (some ⟨gA, 0, none⟩) ∧ Hid (ToldR w3.heap.size wx qi ni ci rr.1) ∧ Hid (Blk wx gA [nic rr.2.1, nic (rr.2.2 : Int)] 57) ∧ Hid (Below w3.heap.size w3 wx))
          case first =>
            refine wp_region_held_drew (S := (fun w' => w'.cell? ⟨rb, ro, none⟩ = some (.slice (some ⟨sb, so, none⟩) m d4) ∧ (loadOp 51 (.pointer (some ⟨gf, 0, none⟩))).run Try.prog w' = .ok (.value (.agg #[.string (kHas k), .string (kYes k), .string (kNo k)])) w')) (by kernel_rfl) (HS.out _ (Below.refl w3.heap.size w3).drew) (fun hHeld => ?_)
            have BD := Lib.hid (Below.refl w3.heap.size w3).drew
            generalize w3.drew = wd at *
            refine take_at 0 (by kernel_rfl) (v := ?v7) (by kernel_rfl) (by kernel_rfl) (by kernel_rfl) (fun _ _ _ h => h) (by rfl) ?y7 (by assumption) ?r7
            case y7 => (intro w hSw; obtain ⟨h1, h2⟩ := hSw; simp only [List.getElem_cons_succ, List.getElem_cons_zero]; go_simp; (try with_reducible rfl))
            try simp only [List.getElem_cons_succ, List.getElem_cons_zero, Act.put, List.setIfInBounds_toArray, List.set_cons_zero, List.set_cons_succ]
            refine take_at 2 (by kernel_rfl) (v := ?v8) (by kernel_rfl) (by kernel_rfl) (by kernel_rfl) (fun _ _ _ h => h) (by rfl) ?y8 (by assumption) ?r8
            case y8 => (intro w hSw; (try dsimp only at hSw); simp only [List.getElem_cons_succ, List.getElem_cons_zero]; go_simp; (try with_reducible rfl))
            try simp only [List.getElem_cons_succ, List.getElem_cons_zero, Act.put, List.setIfInBounds_toArray, List.set_cons_zero, List.set_cons_succ]
            refine take_at 3 (by kernel_rfl) (v := ?v9) (by kernel_rfl) (by kernel_rfl) (by kernel_rfl) (fun _ _ _ h => h) (by rfl) ?y9 (by assumption) ?r9
            case y9 => (intro w hSw; (try dsimp only at hSw); simp only [List.getElem_cons_succ, List.getElem_cons_zero]; go_simp; (try with_reducible rfl))
            try simp only [List.getElem_cons_succ, List.getElem_cons_zero, Act.put, List.setIfInBounds_toArray, List.set_cons_zero, List.set_cons_succ]
            refine take_at 4 (by kernel_rfl) (v := ?v10) (by kernel_rfl) (by kernel_rfl) (by kernel_rfl) (fun _ _ _ h => h) (by rfl) ?y10 (by assumption) ?r10
            case y10 => (intro w hSw; obtain ⟨h1, h2⟩ := hSw; simp only [List.getElem_cons_succ, List.getElem_cons_zero]; go_simp; (try with_reducible rfl))
            try simp only [List.getElem_cons_succ, List.getElem_cons_zero, Act.put, List.setIfInBounds_toArray, List.set_cons_zero, List.set_cons_succ]
            refine ready2_at 1 9 (by kernel_rfl) (by kernel_rfl) (by kernel_rfl) ?_ ?_
            · intro K hK
              simp only [List.getElem_cons_succ, List.getElem_cons_zero]
              go_simp
              go_at_call 20
              refine (HSH.out _).mono ?_
              rintro e wS ⟨rfl, hb_⟩
              have BS := Lib.hid (BD.out.trans (hb_.mono BD.out.size))
              clear hb_
              (try go_wp2_with fail)
              refine hK.out _ _ (HS.out _ BS.out) (fun hHeld => ?_)
              clear hK K
              try simp only [List.getElem_cons_succ, List.getElem_cons_zero, Act.put, List.setIfInBounds_toArray, List.set_cons_zero, List.set_cons_succ]
              refine ready2_at 5 9 (by kernel_rfl) (by kernel_rfl) (by kernel_rfl) ?_ ?_
              · intro K hK
                simp only [List.getElem_cons_succ, List.getElem_cons_zero]
                go_simp
                go_at_call 19
                refine (HGET.out _ BS.out).mono ?_
                rintro e wG ⟨qi, ni, ci, rfl, ht_, hb_⟩
                have BG := Lib.hid (BS.out.trans (hb_.mono BS.out.size))
                have TG := Lib.hid (ht_.mono BS.out.size)
                clear ht_ hb_
                (try go_wp2_with fail)
                refine hK.out _ _ (HS.out _ BG.out) (fun hHeld => ?_)
                clear hK K
                try simp only [List.getElem_cons_succ, List.getElem_cons_zero, Act.put, List.setIfInBounds_toArray, List.set_cons_zero, List.set_cons_succ]
                refine take_at 6 (by kernel_rfl) (v := ?v15) (by kernel_rfl) (by kernel_rfl) (by kernel_rfl) (fun _ _ _ h => h) (by rfl) ?y15 (by assumption) ?r15
                case y15 => (intro w hSw; (try dsimp only at hSw); simp only [List.getElem_cons_succ, List.getElem_cons_zero]; go_simp; (try with_reducible rfl))
                try simp only [List.getElem_cons_succ, List.getElem_cons_zero, Act.put, List.setIfInBounds_toArray, List.set_cons_zero, List.set_cons_succ]
                refine take_at 7 (by kernel_rfl) (v := ?v16) (by kernel_rfl) (by kernel_rfl) (by kernel_rfl) (fun _ _ _ h => h) (by rfl) ?y16 (by assumption) ?r16
                case y16 => (intro w hSw; (try dsimp only at hSw); simp only [List.getElem_cons_succ, List.getElem_cons_zero]; go_simp; (try with_reducible rfl))
                try simp only [List.getElem_cons_succ, List.getElem_cons_zero, Act.put, List.setIfInBounds_toArray, List.set_cons_zero, List.set_cons_succ]
                refine take_at 8 (by kernel_rfl) (v := ?v17) (by kernel_rfl) (by kernel_rfl) (by kernel_rfl) (fun _ _ _ h => h) (by rfl) ?y17 (by assumption) ?r17
                case y17 => (intro w hSw; (try dsimp only at hSw); simp only [List.getElem_cons_succ, List.getElem_cons_zero]; go_simp; (try with_reducible rfl))
                try simp only [List.getElem_cons_succ, List.getElem_cons_zero, Act.put, List.setIfInBounds_toArray, List.set_cons_zero, List.set_cons_succ]
                have al := alloc_flt15 wG
                have BA := Lib.hid (BG.out.alloc BG.out.size (.cells #[nic 0, nic 0] 57))
                have FA := Lib.hid (show Blk (wG.alloc (.cells #[nic 0, nic 0] 57)) wG.heap.size [nic 0, nic 0] 57 from Blk.new wG #[nic 0, nic 0] 57)
                have TA := Lib.hid (toldR_below TG.out ((Below.refl _ wG).alloc (Nat.le_refl _) (.cells #[nic 0, nic 0] 57)))
                refine ready_at 9 (by kernel_rfl) (by kernel_rfl) (fun K hK => ?_)
                simp only [List.getElem_cons_succ, List.getElem_cons_zero]
                go_simp
                refine hK.out _ _ (HS.out _ BA.out) (fun hHeld => ?_)
                clear hK K
                try simp only [List.getElem_cons_succ, List.getElem_cons_zero, Act.put, List.setIfInBounds_toArray, List.set_cons_zero, List.set_cons_succ]
                have HGA := Lib.hid BG.out.size
                clear al
                generalize wG.alloc (.cells #[nic 0, nic 0] 57) = wA at *
                generalize wG.heap.size = gA at *
                refine take_at 10 (by kernel_rfl) (v := ?v18) (by kernel_rfl) (by kernel_rfl) (by kernel_rfl) (fun _ _ _ h => h) (by rfl) ?y18 (by assumption) ?r18
                case y18 => (intro w hSw; (try dsimp only at hSw); simp only [List.getElem_cons_succ, List.getElem_cons_zero]; go_simp; (try with_reducible rfl))
                try simp only [List.getElem_cons_succ, List.getElem_cons_zero, Act.put, List.setIfInBounds_toArray, List.set_cons_zero, List.set_cons_succ]
                have sf := store_flt15 (a := rr.2.1) (b := (rr.2.2 : Int)) FA.out
                have B9 := Lib.hid (Go.Proofs.Yteepaoklibflpaa.Below.setRow BA.out HGA.out #[nic rr.2.1, nic (rr.2.2 : Int)])
                have F9 := Lib.hid (show Blk (wA.setRow gA #[nic rr.2.1, nic (rr.2.2 : Int)]) gA [nic rr.2.1, nic (rr.2.2 : Int)] 57 from FA.out.row [nic rr.2.1, nic (rr.2.2 : Int)])
                have T9 := Lib.hid (toldR_row TA.out FA.out [nic rr.2.1, nic (rr.2.2 : Int)])
                refine ready_at 11 (by kernel_rfl) (by kernel_rfl) (fun K hK => ?_)
                simp only [List.getElem_cons_succ, List.getElem_cons_zero]
                go_simp
                refine hK.out _ _ (HS.out _ B9.out) (fun hHeld => ?_)
                clear hK K
                try simp only [List.getElem_cons_succ, List.getElem_cons_zero, Act.put, List.setIfInBounds_toArray, List.set_cons_zero, List.set_cons_succ]
                refine wpAnyH_done (by kernel_rfl) ?_ _
                go_wp2_with fail
                go_meet
                case rel => exact ⟨qi, ni, ci, gA, rfl, rfl, T9, F9, B9⟩
              · intro K hK
                have al := alloc_flt15 wS
                have BA := Lib.hid (BS.out.alloc BS.out.size (.cells #[nic 0, nic 0] 57))
                have FA := Lib.hid (show Blk (wS.alloc (.cells #[nic 0, nic 0] 57)) wS.heap.size [nic 0, nic 0] 57 from Blk.new wS #[nic 0, nic 0] 57)
                simp only [List.getElem_cons_succ, List.getElem_cons_zero]
                go_simp
                refine hK.out _ _ (HS.out _ BA.out) (fun hHeld => ?_)
                clear hK K
                try simp only [List.getElem_cons_succ, List.getElem_cons_zero, Act.put, List.setIfInBounds_toArray, List.set_cons_zero, List.set_cons_succ]
                have HGA := Lib.hid BS.out.size
                clear al
                generalize wS.alloc (.cells #[nic 0, nic 0] 57) = wA at *
                generalize wS.heap.size = gA at *
                refine ready_at 5 (by kernel_rfl) (by kernel_rfl) (fun K hK => ?_)
                simp only [List.getElem_cons_succ, List.getElem_cons_zero]
                go_simp
                go_at_call 19
                refine (HGET.out _ BA.out).mono ?_
                rintro e wG ⟨qi, ni, ci, rfl, ht_, hb_⟩
                have BG := Lib.hid (BA.out.trans (hb_.mono BA.out.size))
                have TG := Lib.hid (ht_.mono BA.out.size)
                have FG := Lib.hid (FA.out.below hb_ FA.out.lt)
                clear ht_ hb_
                (try go_wp2_with fail)
                refine hK.out _ _ (HS.out _ BG.out) (fun hHeld => ?_)
                clear hK K
                try simp only [List.getElem_cons_succ, List.getElem_cons_zero, Act.put, List.setIfInBounds_toArray, List.set_cons_zero, List.set_cons_succ]
                refine take_at 6 (by kernel_rfl) (v := ?v19) (by kernel_rfl) (by kernel_rfl) (by kernel_rfl) (fun _ _ _ h => h) (by rfl) ?y19 (by assumption) ?r19
                case y19 => (intro w hSw; (try dsimp only at hSw); simp only [List.getElem_cons_succ, List.getElem_cons_zero]; go_simp; (try with_reducible rfl))
                try simp only [List.getElem_cons_succ, List.getElem_cons_zero, Act.put, List.setIfInBounds_toArray, List.set_cons_zero, List.set_cons_succ]
                refine take_at 7 (by kernel_rfl) (v := ?v20) (by kernel_rfl) (by kernel_rfl) (by kernel_rfl) (fun _ _ _ h => h) (by rfl) ?y20 (by assumption) ?r20
                case y20 => (intro w hSw; (try dsimp only at hSw); simp only [List.getElem_cons_succ, List.getElem_cons_zero]; go_simp; (try with_reducible rfl))
                try simp only [List.getElem_cons_succ, List.getElem_cons_zero, Act.put, List.setIfInBounds_toArray, List.set_cons_zero, List.set_cons_succ]
                refine take_at 8 (by kernel_rfl) (v := ?v21) (by kernel_rfl) (by kernel_rfl) (by kernel_rfl) (fun _ _ _ h => h) (by rfl) ?y21 (by assumption) ?r21
                case y21 => (intro w hSw; (try dsimp only at hSw); simp only [List.getElem_cons_succ, List.getElem_cons_zero]; go_simp; (try with_reducible rfl))
                try simp only [List.getElem_cons_succ, List.getElem_cons_zero, Act.put, List.setIfInBounds_toArray, List.set_cons_zero, List.set_cons_succ]
                refine take_at 10 (by kernel_rfl) (v := ?v22) (by kernel_rfl) (by kernel_rfl) (by kernel_rfl) (fun _ _ _ h => h) (by rfl) ?y22 (by assumption) ?r22
                case y22 => (intro w hSw; (try dsimp only at hSw); simp only [List.getElem_cons_succ, List.getElem_cons_zero]; go_simp; (try with_reducible rfl))
                try simp only [List.getElem_cons_succ, List.getElem_cons_zero, Act.put, List.setIfInBounds_toArray, List.set_cons_zero, List.set_cons_succ]
                have sf := store_flt15 (a := rr.2.1) (b := (rr.2.2 : Int)) FG.out
                have B9 := Lib.hid (Go.Proofs.Yteepaoklibflpaa.Below.setRow BG.out HGA.out #[nic rr.2.1, nic (rr.2.2 : Int)])
                have F9 := Lib.hid (show Blk (wG.setRow gA #[nic rr.2.1, nic (rr.2.2 : Int)]) gA [nic rr.2.1, nic (rr.2.2 : Int)] 57 from FG.out.row [nic rr.2.1, nic (rr.2.2 : Int)])
                have T9 := Lib.hid (toldR_row TG.out FG.out [nic rr.2.1, nic (rr.2.2 : Int)])
                refine ready_at 11 (by kernel_rfl) (by kernel_rfl) (fun K hK => ?_)
                simp only [List.getElem_cons_succ, List.getElem_cons_zero]
                go_simp
                refine hK.out _ _ (HS.out _ B9.out) (fun hHeld => ?_)
                clear hK K
                try simp only [List.getElem_cons_succ, List.getElem_cons_zero, Act.put, List.setIfInBounds_toArray, List.set_cons_zero, List.set_cons_succ]
                refine wpAnyH_done (by kernel_rfl) ?_ _
                go_wp2_with fail
                go_meet
                case rel => exact ⟨qi, ni, ci, gA, rfl, rfl, T9, F9, B9⟩
            · intro K hK
              have al := alloc_flt15 wd
              have BA := Lib.hid (BD.out.alloc BD.out.size (.cells #[nic 0, nic 0] 57))
              have FA := Lib.hid (show Blk (wd.alloc (.cells #[nic 0, nic 0] 57)) wd.heap.size [nic 0, nic 0] 57 from Blk.new wd #[nic 0, nic 0] 57)
              simp only [List.getElem_cons_succ, List.getElem_cons_zero]
              go_simp
              refine hK.out _ _ (HS.out _ BA.out) (fun hHeld => ?_)
              clear hK K
              try simp only [List.getElem_cons_succ, List.getElem_cons_zero, Act.put, List.setIfInBounds_toArray, List.set_cons_zero, List.set_cons_succ]
              have HGA := Lib.hid BD.out.size
              clear al
              generalize wd.alloc (.cells #[nic 0, nic 0] 57) = wA at *
              generalize wd.heap.size = gA at *
              refine ready_at 1 (by kernel_rfl) (by kernel_rfl) (fun K hK => ?_)
              simp only [List.getElem_cons_succ, List.getElem_cons_zero]
              go_simp
              go_at_call 20
              refine (HSH.out _).mono ?_
              rintro e wS ⟨rfl, hb_⟩
              have BS := Lib.hid (BA.out.trans (hb_.mono BA.out.size))
              have FS := Lib.hid (FA.out.below hb_ FA.out.lt)
              clear hb_
              (try go_wp2_with fail)
              refine hK.out _ _ (HS.out _ BS.out) (fun hHeld => ?_)
              clear hK K
              try simp only [List.getElem_cons_succ, List.getElem_cons_zero, Act.put, List.setIfInBounds_toArray, List.set_cons_zero, List.set_cons_succ]
              refine ready_at 5 (by kernel_rfl) (by kernel_rfl) (fun K hK => ?_)
              simp only [List.getElem_cons_succ, List.getElem_cons_zero]
              go_simp
              go_at_call 19
              refine (HGET.out _ BS.out).mono ?_
              rintro e wG ⟨qi, ni, ci, rfl, ht_, hb_⟩
              have BG := Lib.hid (BS.out.trans (hb_.mono BS.out.size))
              have TG := Lib.hid (ht_.mono BS.out.size)
              have FG := Lib.hid (FS.out.below hb_ FS.out.lt)
              clear ht_ hb_
              (try go_wp2_with fail)
              refine hK.out _ _ (HS.out _ BG.out) (fun hHeld => ?_)
              clear hK K
              try simp only [List.getElem_cons_succ, List.getElem_cons_zero, Act.put, List.setIfInBounds_toArray, List.set_cons_zero, List.set_cons_succ]
              refine take_at 6 (by kernel_rfl) (v := ?v11) (by kernel_rfl) (by kernel_rfl) (by kernel_rfl) (fun _ _ _ h => h) (by rfl) ?y11 (by assumption) ?r11
              case y11 => (intro w hSw; (try dsimp only at hSw); simp only [List.getElem_cons_succ, List.getElem_cons_zero]; go_simp; (try with_reducible rfl))
              try simp only [List.getElem_cons_succ, List.getElem_cons_zero, Act.put, List.setIfInBounds_toArray, List.set_cons_zero, List.set_cons_succ]
              refine take_at 7 (by kernel_rfl) (v := ?v12) (by kernel_rfl) (by kernel_rfl) (by kernel_rfl) (fun _ _ _ h => h) (by rfl) ?y12 (by assumption) ?r12
              case y12 => (intro w hSw; (try dsimp only at hSw); simp only [List.getElem_cons_succ, List.getElem_cons_zero]; go_simp; (try with_reducible rfl))
              try simp only [List.getElem_cons_succ, List.getElem_cons_zero, Act.put, List.setIfInBounds_toArray, List.set_cons_zero, List.set_cons_succ]
              refine take_at 8 (by kernel_rfl) (v := ?v13) (by kernel_rfl) (by kernel_rfl) (by kernel_rfl) (fun _ _ _ h => h) (by rfl) ?y13 (by assumption) ?r13
              case y13 => (intro w hSw; (try dsimp only at hSw); simp only [List.getElem_cons_succ, List.getElem_cons_zero]; go_simp; (try with_reducible rfl))
              try simp only [List.getElem_cons_succ, List.getElem_cons_zero, Act.put, List.setIfInBounds_toArray, List.set_cons_zero, List.set_cons_succ]
              refine take_at 10 (by kernel_rfl) (v := ?v14) (by kernel_rfl) (by kernel_rfl) (by kernel_rfl) (fun _ _ _ h => h) (by rfl) ?y14 (by assumption) ?r14
              case y14 => (intro w hSw; (try dsimp only at hSw); simp only [List.getElem_cons_succ, List.getElem_cons_zero]; go_simp; (try with_reducible rfl))
              try simp only [List.getElem_cons_succ, List.getElem_cons_zero, Act.put, List.setIfInBounds_toArray, List.set_cons_zero, List.set_cons_succ]
              have sf := store_flt15 (a := rr.2.1) (b := (rr.2.2 : Int)) FG.out
              have B9 := Lib.hid (Go.Proofs.Yteepaoklibflpaa.Below.setRow BG.out HGA.out #[nic rr.2.1, nic (rr.2.2 : Int)])
              have F9 := Lib.hid (show Blk (wG.setRow gA #[nic rr.2.1, nic (rr.2.2 : Int)]) gA [nic rr.2.1, nic (rr.2.2 : Int)] 57 from FG.out.row [nic rr.2.1, nic (rr.2.2 : Int)])
              have T9 := Lib.hid (toldR_row TG.out FG.out [nic rr.2.1, nic (rr.2.2 : Int)])
              refine ready_at 11 (by kernel_rfl) (by kernel_rfl) (fun K hK => ?_)
              simp only [List.getElem_cons_succ, List.getElem_cons_zero]
              go_simp
              refine hK.out _ _ (HS.out _ B9.out) (fun hHeld => ?_)
              clear hK K
              try simp only [List.getElem_cons_succ, List.getElem_cons_zero, Act.put, List.setIfInBounds_toArray, List.set_cons_zero, List.set_cons_succ]
              refine wpAnyH_done (by kernel_rfl) ?_ _
              go_wp2_with fail
              go_meet
              case rel => exact ⟨qi, ni, ci, gA, rfl, rfl, T9, F9, B9⟩
          case rest =>
            obtain ⟨qi, ni, ci, gA, rfl, rfl, HTR, HFA, HB⟩ := hcut
            have HB4 := Lib.hid (HB3.out.trans (HB.out.mono HB3.out.size))
            have N4 := Lib.hid (N3.out.below HB.out N3.out.lt)
            have F4 := Lib.hid (HF.out.below HB.out HF.out.lt)
            have HSZ := Lib.hid (show w.heap.size ≤ w3.heap.size from HB3.out.size)
            have f0 : wc.cell? ⟨gA, 0, none⟩ = some (.int .i64 rr.2.1) := HFA.out.cell 0
            clear HS HB HB3 N3 HF HGET HSH
            generalize wc = w4 at *
            by_cases hr : rr.2.1 = 0
            · have hge : Fld.get (Nte.shape k) l0 = (rr.1, 0, rr.2.2) := by rw [← HRR.out, ← hr]
              obtain ⟨x, v, hx, hv, hfew, hK, hit, hput, hle⟩ := get_items HBL.out hge (by have := HKK.out; omega) HKR.out
              obtain ⟨_, _, hz0, _⟩ := Fld.get_ok HBL.out hge
              obtain ⟨yl, hyl, hown⟩ := toldR_own HTR.out
              subst hK
              have HGX := Lib.hid (show Fld.get (Nte.shape x.K) l0 = (itemsR x v, 0, 0) from by rw [hge, hit, hz0])
              have HPX := Lib.hid (show Fld.put (Nte.shape x.K) (itemsR x v) = (l0, 0) from by rw [← hit]; exact hput)
              have HNT := Lib.hid (wnote_any (U15 w.heap.size w4) x v qi ni ci yl w4 hx hfew (by rw [hyl, hit]) hown.left (fun y hy => by
                have g := hown.own y hy
                exact ⟨g.len, g.max, g.at_.imp id fun ⟨g', a1, a2, a3⟩ => ⟨g', a1, Nat.le_trans HSZ.out a2, a3⟩⟩) (u15_none _ _))
              have lf := load_wform F4.out
              have HXO := Lib.hid hx
              obtain ⟨y, hy⟩ : ∃ y, y = noteR x v := ⟨_, rfl⟩
              obtain ⟨may, hmay⟩ : ∃ b, b = decide (mayR x v) := ⟨_, rfl⟩
              rw [← hy, ← hmay] at HNT
              have HY := Lib.hid hy
              have HMM := Lib.hid hmay
              rw [hr] at f0
              clear hge hx hv hfew hit hput hle hz0 hyl hown hy hmay HTR HFA hr
              go_wp2_with fail
              refine HNT.out.mono ?_
              rintro e w5 ⟨hd5, rfl, hyo, hyX, hyU, hyI, hyW, hb5⟩
              have HYO := Lib.hid hyo
              have HOX := Lib.hid (u15_own hyU hb5)
              have HB5 := Lib.hid (HB4.out.trans (hb5.mono HB4.out.size))
              have HSZ4 := Lib.hid (show w.heap.size ≤ w4.heap.size from HB4.out.size)
              have HOI := Lib.hid (own_weak hyI HSZ4.out)
              have HOW := Lib.hid (own_weak hyW HSZ4.out)
              have N5 := Lib.hid (N4.out.below hb5 N4.out.lt)
              clear hyX hyU hyI hyW hb5 HNT lf N4 F4 HB4 f0 hyo
              have al := alloc_note w5
              have st := store_note1 w5 (h := hd5) HYO.out.len
              have hb6 := (Below.refl _ w5).alloc (Nat.le_refl _) (.cells (ncells y hd5).toArray 32)
              have HB6 := Lib.hid (HB5.out.trans (hb6.mono HB5.out.size))
              have N6 := Lib.hid (N5.out.below hb6 N5.out.lt)
              have HY6 := Lib.hid (show Blk (w5.alloc (.cells (ncells y hd5).toArray 32)) w5.heap.size (ncells y hd5) 32 from Blk.new w5 (ncells y hd5).toArray 32)
              have HOX6 := Lib.hid (HOX.out.alloc (.cells (ncells y hd5).toArray 32))
              have HOI6 := Lib.hid (HOI.out.alloc (.cells (ncells y hd5).toArray 32))
              have HOW6 := Lib.hid (HOW.out.alloc (.cells (ncells y hd5).toArray 32))
              obtain ⟨w6, hw6⟩ : ∃ v, v = w5.alloc (.cells (ncells y hd5).toArray 32) := ⟨_, rfl⟩
              rw [← hw6] at st HB6 N6 HY6 HOX6 HOI6 HOW6
              have ly := load_note (o := 0) HYO.out.len HY6.out.range
              clear hb6 hw6 HOX HOI HOW N5 HB5
              cases may with
              | false =>
                have HC := Lib.hid (get_may HSP.out HKR.out HGX.out (fun hh => by have := HMM.out; rw [decide_eq_true hh] at this; cases this))
                have s2 := store_note (x := none_) (h := NHd.none_) N6.out nz_len nz_len
                have R2 := Lib.hid (show Blk (_ : World) gr (ncells none_ NHd.none_) 32 from N6.out.row (ncells none_ NHd.none_))
                have BR := Lib.hid (Go.Proofs.Yteepaoklibflpaa.Below.setRow HB6.out (show w.heap.size ≤ gr by rw [HGR.out]; exact Nat.le_refl _) (ncells none_ NHd.none_).toArray)
                go_wp2_with fail
                exact bodyPost_ret (v := .tuple #[.agg (ncells none_ NHd.none_).toArray, .int .i64 10]) (results_note15 rfl _ _ _ _ _ _ _ _ rfl R2.out (Try.underlying32) rfl (note_sizeA nz_len _) rfl) rfl (RET.out _ HC.out BR.out)
              | true =>
                have HMY := Lib.hid (of_decide_eq_true HMM.out.symm)
                have HC := Lib.hid (get_yes HBY.out HSP.out HKK.out HKR.out HXO.out rfl HPX.out HMY.out)
                have s9 := store_note (x := y) (h := hd5) N6.out nz_len HYO.out.len
                have R9 := Lib.hid (show Blk (w6.setRow gr (ncells y hd5).toArray) gr (ncells y hd5) 32 from N6.out.row (ncells y hd5))
                have B9 := Lib.hid (Go.Proofs.Yteepaoklibflpaa.Below.setRow HB6.out (show w.heap.size ≤ gr by rw [HGR.out]; exact Nat.le_refl _) (ncells y hd5).toArray)
                have X9 := Lib.hid (own8_setRow HOX6.out N6.out (by decide) (ncells y hd5))
                have I9 := Lib.hid (own_setRow HOI6.out N6.out (by decide) (ncells y hd5))
                have W9 := Lib.hid (own_setRow HOW6.out N6.out (by decide) (ncells y hd5))
                clear HOX6 HOI6 HOW6 HB6
                go_wp2_with fail
                refine bodyPost_ret (v := .tuple #[.agg (ncells y hd5).toArray, .int .i64 0]) (results_note15 rfl _ _ _ _ _ _ _ _ rfl R9.out (Try.underlying32) rfl (note_sizeA HYO.out.len _) rfl) rfl ?_
                rw [HC.out, ← HY.out]
                exact ⟨hd5, rfl, own_note HYO.out X9.out I9.out W9.out, ⟨X9.out, I9.out, W9.out⟩, B9.out⟩
            · have HC := Lib.hid (get_field HSP.out HKR.out (by rw [← HRR.out]; exact hr))
              have tr : (rr.2.1 != 0) = true := by simpa using hr
              generalize rr.2.1 = er at *
              clear hr
              have s2 := store_note (x := none_) (h := NHd.none_) N4.out nz_len nz_len
              have R2 := Lib.hid (show Blk (_ : World) gr (ncells none_ NHd.none_) 32 from N4.out.row (ncells none_ NHd.none_))
              have BR := Lib.hid (Go.Proofs.Yteepaoklibflpaa.Below.setRow HB4.out (show w.heap.size ≤ gr by rw [HGR.out]; exact Nat.le_refl _) (ncells none_ NHd.none_).toArray)
              go_wp2_with fail
              exact bodyPost_ret (v := .tuple #[.agg (ncells none_ NHd.none_).toArray, .int .i64 10]) (results_note15 rfl _ _ _ _ _ _ _ _ rfl R2.out (Try.underlying32) rfl (note_sizeA nz_len _) rfl) rfl (RET.out _ HC.out BR.out)
    · have HC := Lib.hid (get_split (b := zs) (fun l0 hl => by
        have : (Frm.split zs).2 = zs.length := by rw [hl]
        exact h2 (by rw [HEN.out, this, HZL.out])))
      have t1 : ((en : Int) != (n : Int)) = true := by simpa using (show (en : Int) ≠ (n : Int) by omega)
      subst h1
      have s2 := store_note (x := none_) (h := NHd.none_) N2.out nz_len nz_len
      have R2 := Lib.hid (show Blk (w2.setRow gr (ncells none_ NHd.none_).toArray) gr (ncells none_ NHd.none_) 32 from N2.out.row (ncells none_ NHd.none_))
      have BR := Lib.hid (Go.Proofs.Yteepaoklibflpaa.Below.setRow HB2.out (show w.heap.size ≤ gr by rw [HGR.out]; exact Nat.le_refl _) (ncells none_ NHd.none_).toArray)
      go_wp2_with fail
      exact bodyPost_ret (v := .tuple #[.agg (ncells none_ NHd.none_).toArray, .int .i64 10]) (results_note15 rfl _ _ _ _ _ _ _ _ rfl R2.out (Try.underlying32) rfl (note_sizeA nz_len _) rfl) rfl (RET.out _ HC.out BR.out)
  · have HC := Lib.hid (get_split (b := zs) (fun l0 hl => by
      have : ys.map (·.1) = [l0] := by rw [HYS.out, hl]
      have := congrArg List.length this
      simp at this
      exact h1 (by rw [HNY.out, this])))
    have t1 : ((ny : Int) != 1) = true := by simpa using (show (ny : Int) ≠ 1 by omega)
    have s2 := store_note (x := none_) (h := NHd.none_) N2.out nz_len nz_len
    have R2 := Lib.hid (show Blk (w2.setRow gr (ncells none_ NHd.none_).toArray) gr (ncells none_ NHd.none_) 32 from N2.out.row (ncells none_ NHd.none_))
    have BR := Lib.hid (Go.Proofs.Yteepaoklibflpaa.Below.setRow HB2.out (show w.heap.size ≤ gr by rw [HGR.out]; exact Nat.le_refl _) (ncells none_ NHd.none_).toArray)
    go_wp2_with fail
    exact bodyPost_ret (v := .tuple #[.agg (ncells none_ NHd.none_).toArray, .int .i64 10]) (results_note15 rfl _ _ _ _ _ _ _ _ rfl R2.out (Try.underlying32) rfl (note_sizeA nz_len _) rfl) rfl (RET.out _ HC.out BR.out)
end
end
end Go.Proofs.Yteepaoklibflpaa
