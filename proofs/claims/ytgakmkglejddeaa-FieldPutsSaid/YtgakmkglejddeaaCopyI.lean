/-
  The kit's CopyItems.
-/
import Derived.Test.YtgakmkglejddeaaFldY
import Derived.Test.YtgakmkglejddeaaFlaB
namespace Go.Proofs.Ytgakmkglejddeaa
set_option linter.unusedSimpArgs false
set_option linter.unusedVariables false
open Go.RowKit Sha
open Fld (Itm)
attribute [local go_sem ↓] execOp_loadItem execOp_buildItems
/-- An item whose bytes are a copy. -/
structure GoodO (B : Nat) (w : World) (y : Hdr) : Prop where
  ok : y.1.ok
  own : w.ownsRow B 5 1 (.slice y.2.1 y.1.B.length y.2.2) y.1.B.length (y.1.B.map v8)
theorem GoodO.good {B : Nat} {w : World} {y : Hdr} (h : GoodO B w y) : GoodI w y.1 y.2.1 y.2.2 := by
  obtain ⟨q, c, hv, _, hA, hl, hm, hn⟩ := own_row h.own
  cases hv
  exact ⟨h.ok, hA, hl, hm, hn⟩
theorem own_weaken {w : World} {B B' n size : Nat} {e : TypeId} {v : Value} {xs : List Value} (h : w.ownsRow B e size v n xs) (hb : B' ≤ B) : w.ownsRow B' e size v n xs := by
  refine ⟨h.1, ?_⟩
  rcases h.2 with h | ⟨g, cap, cur, hv, hg, hh⟩
  · exact Or.inl h
  · exact Or.inr ⟨g, cap, cur, hv, Nat.le_trans hb hg, hh⟩
theorem GoodO.carry {B : Nat} {w w' : World} {y : Hdr} (h : GoodO B w y) (hc : ∀ (k : Nat) (c : Array Value) (fz : Nat × Nat), w.heap[k]? = some (Obj.cells c 5 fz) → w'.heap[k]? = some (Obj.cells c 5 fz)) : GoodO B w' y :=
  ⟨h.ok, own_carry h.own fun k c fz _ hh => hc k c fz hh⟩
/-- What the loop knows: the copies so far. -/
structure CSt (w : World) (v : Value) (ys : List Hdr) (wr : World) : Prop where
  own : wr.ownsRow w.heap.size 40 34 v ys.length (ys.flatMap cellsI)
  good : ∀ y ∈ ys, GoodO w.heap.size wr y
  below : Below w.heap.size w wr
theorem u8_below {w w' : World} (hb : Below w.heap.size w w') : ∀ (k : Nat) (c : Array Value) (fz : Nat × Nat), w.heap[k]? = some (Obj.cells c 5 fz) → w'.heap[k]? = some (Obj.cells c 5 fz) := by
  intro k c fz hh
  have hk : k < w.heap.size := (Array.getElem?_eq_some_iff.1 hh).1
  rw [hb.block k hk]; exact hh
theorem CSt.on {w wr w' : World} {v : Value} {ys : List Hdr} (h : CSt w v ys wr) (hb : Below wr.heap.size wr w') : CSt w v ys w' :=
  ⟨own_carry h.own fun k c fz hk hh => by rw [hb.block k (h.own.lt k hk).2]; exact hh, fun y hy => (h.good y hy).carry (u8_below hb), h.below.trans (hb.mono h.below.size)⟩
theorem CSt.next {w w6 w7 w8 : World} {v v' : Value} {ys : List Hdr} {gx : Nat} {x : Itm} {q : Option Addr} {c : Nat} {o : Obj} (h : CSt w v ys w6) (hx : GoodO w.heap.size w6 (x, q, c)) (hK : ∃ cs, Blk w6 gx cs 40) (hg : w.heap.size ≤ gx) (hne : v.ownBlock ≠ some gx) (u : Value)
    (he : w7 = w6.setCell ⟨gx, 1, none⟩ u) (hgr : (w7.alloc o).grownBy w8 v.ownBlock) (hown : w8.ownsRow w.heap.size 40 34 v' (ys.length + 1) (ys.flatMap cellsI ++ icells x q c)) : CSt w v' (ys ++ [(x, q, c)]) w8 := by
  subst he
  obtain ⟨cs, hK⟩ := hK
  have hkind := own_kind h.own
  have hc : ∀ (k : Nat) (c : Array Value) (fz : Nat × Nat), w6.heap[k]? = some (Obj.cells c 5 fz) → w8.heap[k]? = some (Obj.cells c 5 fz) := by
    intro k c fz hh
    have hk : k < w6.heap.size := (Array.getElem?_eq_some_iff.1 hh).1
    have hkx : k ≠ gx := by
      rintro rfl
      unfold Blk at hK; rw [hK] at hh; injection hh with hh; injection hh with _ ht; exact iu_ne ht.symm
    have hkv : some k ≠ v.ownBlock := by
      intro e
      obtain ⟨c', fz', hc'⟩ := hkind k e.symm
      rw [hc'] at hh; injection hh with hh; injection hh with _ ht; exact iu_ne ht.symm
    rw [hgr.block k (by simp; omega) hkv, (World.grownBy_alloc _ o none).block k (by simpa using hk) (by simp), Below.heap_setCell _ _ _ _ hkx]
    exact hh
  refine ⟨by simpa [cellsI] using hown, fun y hy => ?_, ?_⟩
  · rcases List.mem_append.1 hy with hy | hy
    · exact (h.good y hy).carry hc
    · rw [List.mem_singleton.1 hy]; exact hx.carry hc
  · have h1 : Below w.heap.size w ((w6.setCell ⟨gx, 1, none⟩ u).alloc o) := (h.below.setCell hg _).alloc (by simpa using h.below.size) o
    exact h1.grown hgr (by have := h.below.size; simp; omega) (fun k hk => own_base h.own k hk)
theorem CSt.told {w wr : World} {v : Value} {ys : List Hdr} {xs : List Itm} (h : CSt w v ys wr) (hx : ys.map (·.1) = xs) : ∃ q c', v = .slice q xs.length c' ∧ Told wr q xs.length c' xs := by
  have hl : ys.length = xs.length := by rw [← hx, List.length_map]
  have ho := h.own
  rw [hl] at ho
  have hi : ∀ q, At wr q (ys.flatMap cellsI) → ItemsAt wr q xs := fun q hA => ⟨ys, hx, hA, fun y hy => (h.good y hy).good⟩
  rcases ho.2 with ⟨hv, h0⟩ | ⟨g, cap, cur, hv, hg, hh, h1, h2, h3, h4⟩
  · refine ⟨none, 0, by rw [hv, h0], rfl, by omega, by omega, fun _ => rfl, hi none (Or.inl ?_)⟩
    have := ho.1
    rw [h0] at this
    exact List.eq_nil_of_length_eq_zero (by simpa using this)
  · refine ⟨_, cap, hv, rfl, h1, by unfold maxLen at h2; omega, (fun h => by cases h), hi _ (Or.inr ⟨g, 0, rfl, fun i u hu => ?_⟩)⟩
    have := ho.cells (g := g) (by rw [hv]; rfl) i u hu
    rwa [Addr.add_mid] at this
set_option maxRecDepth 100000 in
set_option maxHeartbeats 1000000 in
theorem copyItems_any (xs : List Itm) (p : Option Addr) (n c : Nat) (w : World) (h : Told w p n c xs) (hn : n ≤ 1000) (hB : ∀ x ∈ xs, x.B.length ≤ 200) :
    Calls Try.prog 10 #[.slice p n c] w fun e w' => ∃ q c', e = .returned (.slice q n c') ∧ Told w' q n c' xs ∧ Below w.heap.size w w' := by
  have HX := Lib.hid h
  have HBB := Lib.hid hB
  have m1 := h.max
  have m2 := h.le
  clear h hB
  obtain ⟨i0, hi0, hz0, hz1, hz2⟩ := info_parts item_all3
  have HI0 := Lib.hid hi0
  have HZ0 := Lib.hid hz0
  have HZ1 := Lib.hid hz1
  have HZ2 := Lib.hid hz2
  clear hi0 hz0 hz1 hz2
  have HZS := Lib.hid (show (Value.agg (icells ⟨0, [], Fld.zero32⟩ none 0).toArray).cells.size = 34 by show (icells ⟨0, [], Fld.zero32⟩ none 0).toArray.size = 34; rw [List.size_toArray, icells_length item0_ok'])
  go_enter Try.func10, Try.ntmps10
  go_wp2_with fail
  go_loopw [3, 4] (fun vv i wr => ∃ (k : Nat) (v : Value) (ys : List Hdr), i = .int .i64 k ∧ v = vv ∧ k ≤ n ∧ Hid (ys.length = k) ∧ Hid (ys.map (·.1) = xs.take k) ∧ Hid (CSt w v ys wr)) (fun _ i _ => n - (intOf i).toNat)
  case atStart => exact ⟨0, _, [], rfl, rfl, by omega, Lib.hid rfl, Lib.hid (by simp), Lib.hid ⟨World.ownsRow_nil _ _ _ _, by simp, Below.refl _ _⟩⟩
  case round =>
    obtain ⟨k, v, ys, rfl, rfl, hk, HYL, HYS, HC⟩ := hrel
    by_cases hlt : k < n
    · have hkx : k < xs.length := by rw [← HX.out.len]; exact hlt
      obtain ⟨b, off, q, qc, rfl, hr, hg⟩ := (HX.out.below HC.out.below).items.get k hkx
      obtain ⟨x, hx⟩ : ∃ x, x = xs[k] := ⟨_, rfl⟩
      have hx2 : x.B.length ≤ 200 := by rw [hx]; exact HBB.out _ (List.getElem_mem hkx)
      have HTK := Lib.hid (show xs.take (k + 1) = xs.take k ++ [x] by rw [hx, List.take_succ_eq_append_getElem hkx])
      rw [← hx] at hr hg
      have la : (loadOp 40 (.pointer (some ⟨b, off + k * 34, none⟩))).run Try.prog wr = .ok (.value (.agg (icells x q qc).toArray)) wr := load_at hg.ok hr
      have hsz2 : (Try.prog.info? 40).map (fun i => i.size) = some (icells x q qc).toArray.size := by rw [item_size, List.size_toArray, icells_length hg.ok]
      have hsz3 : (icells ⟨0, [], Fld.zero32⟩ none 0).toArray.size = (icells x q qc).toArray.size := by rw [List.size_toArray, List.size_toArray, icells_length hg.ok, icells_length item0_ok']
      obtain ⟨m, hm⟩ : ∃ m, m = x.B.length := ⟨_, rfl⟩
      rw [← hm] at hx2
      have HM := Lib.hid hm
      have HG := Lib.hid hg
      clear hr hg hx hkx hm
      go_wp2_with (first
        | (refine wpList_alloc_arr rfl 40 rfl _ item_info ?_)
        | (refine wpList_store_row rfl 40 (.tmp 5) (.tmp 15) rfl _ _ rfl rfl 40 _ (heap_alloc_new _ _) hsz2 hsz3 (icells_all _ _ _) ?_; rw [World.setRow_alloc_new]; have hK5 := Blk.new wr (icells x q qc).toArray 40; rw [List.toList_toArray] at hK5; have hBA := (Below.refl wr.heap.size wr).alloc (Nat.le_refl _) (Obj.cells (icells x q qc).toArray 40); have hC5 := HC.out.on hBA; have hG5 := HG.out.below hBA; have hgx0 := HC.out.below.size; have hne0 : v.ownBlock ≠ some wr.heap.size := (fun e => by have := (HC.out.own.lt _ e).2; omega); have a1 : (wr.alloc (Obj.cells (icells x q qc).toArray 40)).cell? ⟨wr.heap.size, 1, none⟩ = some (.slice q m qc) := (by rw [HM.out]; exact (hK5.cell 1).trans (icells_1 _ _ _)); clear hBA la; generalize wr.alloc (Obj.cells (icells x q qc).toArray 40) = w5 at *; generalize hgxe : wr.heap.size = gx at *; clear hgxe; have K5 := Lib.hid hK5; have C5 := Lib.hid hC5; have G5 := Lib.hid hG5; have GX := Lib.hid hgx0; have NE := Lib.hid hne0; clear hK5 hC5 hG5 hgx0 hne0; have tk1 : True := trivial)
        | (have _t := tk1; go_at_call 22; clear tk1 _t; refine (copy_any x.B m q qc w5 HM.out.symm G5.out.at_ (by rw [HM.out]; exact G5.out.le) G5.out.nil (by omega)).mono ?_; rintro e w6 ⟨v6, rfl, ho6, hb6⟩; obtain ⟨q6, c6, rfl, _, _, _, _, _⟩ := own_row ho6; have hK6 := K5.out.below hb6 K5.out.lt; have f1 : w6.frozen? ⟨gx, 1, none⟩ = false := hK6.free 1; have c1 : w6.cell? ⟨gx, 1, none⟩ = some (.slice q m qc) := (by rw [HM.out]; exact (hK6.cell 1).trans (icells_1 _ _ _)); have X6 := Lib.hid (show GoodO w.heap.size w6 (x, q6, c6) from ⟨G5.out.ok, by have := own_weaken ho6 (Nat.le_trans C5.out.below.size (Nat.le_refl _)); rw [HM.out] at this; exact this⟩); have C6 := Lib.hid (C5.out.on hb6); have K7 := Lib.hid (show Blk (w6.setCell ⟨gx, 1, none⟩ (.slice q6 m c6)) gx (icells x q6 c6) 40 from by rw [HM.out]; have := hK6.set 1 (.slice q6 x.B.length c6); rwa [icells_set1] at this); have K6 := Lib.hid hK6; have ld := load_item G5.out.ok K7.out; have bd := (fun w => build_item w (q := q6) (c := c6) G5.out.ok); clear ho6 hb6 hK6 a1; have tk2 : True := trivial)
        | (have _t := tk2; at_builtin; clear tk2 _t; (refine wpList_append_lies _ rfl (.tmp 20) (.tmp 22) 22 rfl w.heap.size 40 i0 _ 34 64 Try.underlying22 HI0.out HZ0.out HZ1.out HZ2.out HZS.out (by omega) v ys.length (ys.flatMap cellsI) rfl ?_ ⟨_, 0, none⟩ 1 1 (icells x q6 c6) rfl ?_ ?_ ?_ ?_ ?_ ?_ ?_ _ rfl ?_); (focus (exact (own_carry C6.out.own (fun k c fz hk hh => by rw [Below.heap_setCell _ _ _ _ (fun e1 => NE.out (by rw [hk]; exact congrArg some e1))]; exact hh)).alloc _; done)); (focus (rw [icells_length G5.out.ok]; done)); (focus (have hnw := World.news_of_block (cs := (icells x q6 c6).toArray) (t := 40) (fr := (0, 0)) (heap_alloc_new (w6.setCell ⟨gx, 1, none⟩ (.slice q6 m c6)) (Obj.cells (icells x q6 c6).toArray 40)); rw [show (w6.setCell ⟨gx, 1, none⟩ (.slice q6 m c6)).heap.size = w6.heap.size by simp [World.setCell]] at hnw; exact hnw)); (focus (exact icells_one x q6 c6; done)); (focus (omega; done)); (focus ((have := HYL.out; unfold maxLen; omega); done)); (focus ((have := HYL.out; omega); done)); (focus ((have := C6.out.below.size; simp; omega); done)); intro g8 cap8 w8 hown8 hgr8 _ _; have C8 := Lib.hid (CSt.next C6.out X6.out ⟨_, K6.out⟩ GX.out NE.out _ rfl hgr8 hown8); clear hown8 hgr8))
      go_roundw
      case rel => exact ⟨k + 1, _, ys ++ [(x, q6, c6)], by go_num, rfl, by omega, Lib.hid (by rw [List.length_append, HYL.out]; rfl), Lib.hid (by rw [List.map_append, HYS.out, HTK.out]; rfl), C8⟩
      case measure => simp [intOf]; omega
    · obtain rfl : k = n := by omega
      have HE := Lib.hid (HC.out.told (xs := xs) (by rw [HYS.out, List.take_of_length_le (by rw [← HX.out.len]; exact Nat.le_refl _)]))
      rw [← HX.out.len] at HE
      obtain ⟨q, c', rfl, ht⟩ := HE.out
      clear HE
      go_wp2_with fail
      go_ret
      exact ⟨q, c', rfl, ht, HC.out.below⟩
end Go.Proofs.Ytgakmkglejddeaa
