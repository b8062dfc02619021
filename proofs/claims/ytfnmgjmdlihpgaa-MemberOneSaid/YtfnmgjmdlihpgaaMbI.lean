/-
  What is left of words, merged one behind the other.
-/
import Derived.Test.YtfnmgjmdlihpgaaWords
import Derived.Deep.DeepCutAuto
import Derived.Deep.RegionHeld3
namespace Go.Proofs.Ytfnmgjmdlihpgaa
set_option linter.unusedSimpArgs false
set_option linter.unusedVariables false
open Go.RowKit Sha
theorem below_alloc0 {a w : World} (h : Below a.heap.size a w) (o : Obj) : Below a.heap.size a (w.alloc o) := h.alloc h.size o
theorem below_drew0 {a w : World} (h : Below a.heap.size a w) : Below a.heap.size a w.drew := h.drew
theorem below_next {a w w' : World} (h : Below a.heap.size a w) (hb : Below w.heap.size w w') : Below a.heap.size a w' := h.trans (hb.mono h.size)
/-- All may be, and are about one node. -/
def Mb.Fit (i : Int) (l : List Mb) : Prop := ∀ y ∈ l, y.May ∧ y.I = i
def Mb.fold (x : Mb) (l : List Mb) : Mb := l.foldl Mb.merge x
theorem Mb.merge_or {a b : Mb} (h : a.Both b) : a.merge b = a ∨ a.merge b = b := by unfold Mb.merge; rw [if_pos h]; split <;> simp
theorem Mb.merge_fit {i : Int} {a b : Mb} (ha : a.May ∧ a.I = i) (hb : b.May ∧ b.I = i) : (a.merge b).May ∧ (a.merge b).I = i := by
  rcases Mb.merge_or (a := a) (b := b) ⟨ha.1, hb.1, by rw [ha.2, hb.2]⟩ with e | e <;> rw [e] <;> assumption
theorem Mb.fold_fit {i : Int} {x : Mb} {l : List Mb} (hx : x.May ∧ x.I = i) (hl : Mb.Fit i l) : (Mb.fold x l).May ∧ (Mb.fold x l).I = i := by
  unfold Mb.fold
  induction l generalizing x with
  | nil => exact hx
  | cons y l ih => exact ih (Mb.merge_fit hx (hl y (List.mem_cons_self ..))) (fun z hz => hl z (List.mem_cons_of_mem _ hz))
theorem Mb.fold_succ (x : Mb) (l : List Mb) (k : Nat) (hk : k < l.length) : Mb.fold x (l.take (k + 1)) = (Mb.fold x (l.take k)).merge l[k] := by
  unfold Mb.fold
  rw [List.take_succ_eq_append_getElem hk, List.foldl_append]; rfl
theorem Mb.both_fit {i : Int} {a b : Mb} (ha : a.May ∧ a.I = i) (hb : b.May ∧ b.I = i) : a.Both b := ⟨ha.1, hb.1, by rw [ha.2, hb.2]⟩
theorem Mb.merge_not (a b : Mb) (h : a.Both b) : ¬ a.Up (a.merge b) ∧ ¬ b.Up (a.merge b) := by
  unfold Mb.merge
  rw [if_pos h]
  split
  · rename_i hu; exact ⟨fun x => Mb.up_not x x, Mb.up_not hu⟩
  · rename_i hu; exact ⟨hu, fun x => Mb.up_not x x⟩
theorem Mb.not_up_trans {a b c : Mb} (h : ¬ a.Up b) (h2 : ¬ b.Up c) : ¬ a.Up c := by unfold Mb.Up at *; omega
/-- What is left is one of them, and none is over it. -/
theorem Mb.fold_mem {i : Int} {x : Mb} {l : List Mb} (hx : x.May ∧ x.I = i) (hl : Mb.Fit i l) : (Mb.fold x l = x ∨ Mb.fold x l ∈ l) ∧ ¬ x.Up (Mb.fold x l) ∧ ∀ y ∈ l, ¬ y.Up (Mb.fold x l) := by
  unfold Mb.fold
  induction l generalizing x with
  | nil => exact ⟨Or.inl rfl, fun h => Mb.up_not h h, by simp⟩
  | cons y l ih =>
    have hy := hl y (List.mem_cons_self ..)
    have hb := Mb.both_fit hx hy
    obtain ⟨h1, h2, h3⟩ := ih (Mb.merge_fit hx hy) (fun z hz => hl z (List.mem_cons_of_mem _ hz))
    have hm := Mb.merge_not x y hb
    refine ⟨?_, Mb.not_up_trans hm.1 h2, ?_⟩
    · rw [List.foldl_cons]
      rcases h1 with h1 | h1
      · rw [h1]; rcases Mb.merge_or hb with e | e
        · exact Or.inl e
        · rw [e]; exact Or.inr (List.mem_cons_self ..)
      · exact Or.inr (List.mem_cons_of_mem _ h1)
    · intro z hz
      rcases List.mem_cons.1 hz with rfl | hz
      · exact Mb.not_up_trans hm.2 h2
      · exact h3 z hz
section
attribute [local go_sem ↓] execOp_loadM execOp_storeM execOp_eqlM
/-- What the call has laid: the word so far, and the one that it answers. -/
structure Mg (w0 w : World) (x : Mb) : Prop where
  k1 : Blk w w0.heap.size (mc x) mt
  k2 : Blk w (w0.heap.size + 1) (mc Mb.none) mt
  below : Below w0.heap.size w0 w
theorem Mg.on {w0 w w' : World} {x : Mb} (h : Mg w0 w x) (hb : Below w.heap.size w w') : Mg w0 w' x := ⟨h.k1.upon hb, h.k2.upon hb, h.below.trans (hb.mono h.below.size)⟩
theorem Mg.new (x : Mb) (w : World) : Mg w ((w.alloc (.cells (mc x).toArray mt)).alloc (.cells #[.int .i64 0, .int .i64 0, .int .i64 0] mt)) x := by
  have h := TwoM.new x Mb.none w
  exact ⟨h.k1, h.k2, h.below⟩
theorem Mg.l1 {w0 w : World} {x : Mb} (h : Mg w0 w x) : (loadM mt (.pointer (some ⟨w0.heap.size, 0, none⟩))).run Try.prog w = .ok (.value (mv x)) w := run_loadM (rangeM_of h.k1)
theorem Mg.st {w0 w : World} {x : Mb} (h : Mg w0 w x) (y : Mb) : (storeM mt (.pointer (some ⟨w0.heap.size, 0, none⟩)) (mv y)).run Try.prog w = .ok .skip (w.setRow w0.heap.size (mc y).toArray) := run_storeM h.k1
theorem Mg.set {w0 w : World} {x : Mb} (h : Mg w0 w x) (y : Mb) : Mg w0 (w.setRow w0.heap.size (mc y).toArray) y := ⟨h.k1.row (mc y), h.k2.rowOther _ (by omega), Below.setRow h.below (Nat.le_refl _) _⟩
theorem Mg.st2 {w0 w : World} {x : Mb} (h : Mg w0 w x) (y : Mb) : (storeM mt (.pointer (some ⟨w0.heap.size + 1, 0, none⟩)) (mv y)).run Try.prog w = .ok .skip (w.setRow (w0.heap.size + 1) (mc y).toArray) := run_storeM h.k2
theorem below_row0 {a w : World} (h : Below a.heap.size a w) (cs : Array Value) : Below a.heap.size a (w.setRow a.heap.size cs) := Below.setRow h (Nat.le_refl _) cs
theorem below_put0 {a w : World} (h : Below a.heap.size a w) (x : Mb) : Below a.heap.size a (putM w x) := below_next h (put_below w x)
def MgDone (x : Mb) (w : World) (e : Ending) (w' : World) : Prop := e = .returned (.tuple #[mv x, .bool true]) ∧ Below w.heap.size w w'
set_option maxRecDepth 100000 in
set_option maxHeartbeats 4000000 in
theorem merged_any (i0 : Int) (x : Mb) (l : List Mb) (n cap : Nat) (q : Option Addr) (w : World) (hn : l.length = n) (hl : GoodW w l q cap) (hx : x.May ∧ x.I = i0) (hf : Mb.Fit i0 l) :
    Calls Try.prog 23 #[mv x, .slice q n cap] w (MgDone (Mb.fold x l) w) := by
  have HL := Lib.hid hl
  have HN := Lib.hid hn
  have HX := Lib.hid hx
  have HF := Lib.hid hf
  have M0 := Lib.hid (Mg.new x w)
  have b1 := hl.le
  have b2 := hl.max
  rw [hn] at b1
  clear hl hn hx hf
  go_enter Try.func23, Try.ntmps23
  go_wp2_with fail
  go_loopw [6] (fun i wr => ∃ k : Nat, i = .int .i64 k ∧ k ≤ n ∧ Hid (Mg w wr (Mb.fold x (l.take k)))) (fun i _ => n - (intOf i).toNat)
  case atStart => exact ⟨0, rfl, by omega, by simpa [Mb.fold] using M0⟩
  case round =>
    obtain ⟨k, rfl, hk, HM⟩ := hrel
    by_cases hlt : k < n
    · have hkl : k < l.length := by rw [HN.out]; exact hlt
      obtain ⟨b, off, rfl, hr0⟩ := HL.out.get k hkl
      have hr := rangeM_on hr0 HM.out.below
      have hcur := Mb.fold_fit HX.out (show Mb.Fit i0 (l.take k) from fun y hy => HF.out y (List.mem_of_mem_take hy))
      have hy := HF.out l[k] (List.getElem_mem hkl)
      have HS := Lib.hid (Mb.fold_succ x l k hkl)
      have j0 : (0 : Int) ≤ (k : Int) ∧ (k : Int) < (n : Int) := by omega
      generalize Mb.fold x (l.take k) = cur at *
      generalize l[k] = y at *
      have HC := Lib.hid (fun w => merge_at cur y (cur.merge y) 0 w rfl (if_pos (Mb.both_fit hcur hy)))
      have E1 := Lib.hid (fun W (hb : Below wr.heap.size wr W) => (HM.out.on hb).l1)
      have E2 := Lib.hid (fun W (hb : Below wr.heap.size wr W) => run_loadM (rangeM_on hr hb))
      generalize cur.merge y = z at *
      clear hr0 hr hcur hy
      go_upto_region 4 with fail
      go_cut [7, 8] (fun s7 s8 wx => ∃ g7 : Nat, s7 = .pointer (some ⟨g7, 0, none⟩) ∧ s8 = .int .i64 0 ∧ Hid (Blk wx g7 (mc z) mt) ∧ Hid (Below wr.heap.size wr wx))
      case first =>
        go_region_held3 (fun w' => Below wr.heap.size wr w' ∧ (loadM mt (.pointer (some ⟨w.heap.size, 0, none⟩))).run Try.prog w' = .ok (.value (mv cur)) w' ∧ (loadM mt (.pointer (some ⟨b, off + k * 3, none⟩))).run Try.prog w' = .ok (.value (mv y)) w')
          (exact ⟨by (repeat (first | exact Below.refl _ _ | assumption | exact below_row0 (by assumption) _ | refine below_put0 ?_ _ | refine below_drew0 ?_ | refine below_alloc0 ?_ _)), E1.out _ (by (repeat (first | exact Below.refl _ _ | assumption | exact below_row0 (by assumption) _ | refine below_put0 ?_ _ | refine below_drew0 ?_ | refine below_alloc0 ?_ _))), E2.out _ (by (repeat (first | exact Below.refl _ _ | assumption | exact below_row0 (by assumption) _ | refine below_put0 ?_ _ | refine below_drew0 ?_ | refine below_alloc0 ?_ _)))⟩)
          ((go_at_call 8; refine (HC.out _).mono ?_; rintro e w2 ⟨rfl, hb⟩; have hbw : Below wr.heap.size wr w2 := below_next (by (repeat (first | exact Below.refl _ _ | assumption | exact below_row0 (by assumption) _ | refine below_put0 ?_ _ | refine below_drew0 ?_ | refine below_alloc0 ?_ _))) hb; have e1 := E1.out _ hbw; have e2 := E2.out _ hbw; have st := put_run w2 z; try (have hz2 : Blk w2 wr.heap.size (mc Mb.none) mt := (by first | exact Blk.below (put_new wr).drew hb (by simp) | exact Blk.below (put_new wr.drew) hb (by simp) | exact Blk.below (put_new wr) hb (by simp)); have HZ2 := Lib.hid hz2; have st2 := run_storeM (a := z) hz2; clear hz2); clear hb))
        all_goals go_wp2_with fail
        all_goals go_meet
        all_goals first
          | exact ⟨wr.heap.size, rfl, rfl, Lib.hid (HZ2.out.row _), Lib.hid (Below.setRow hbw (Nat.le_refl _) _)⟩
          | exact ⟨w2.heap.size, rfl, rfl, Lib.hid (put_blk w2 z), Lib.hid (below_next hbw (put_below w2 z))⟩
      case rest =>
        obtain ⟨g7, rfl, rfl, HZ, HB⟩ := hcut
        rename World => w4
        have M2 := Lib.hid (HM.out.on HB.out)
        have l7 := run_loadM (rangeM_of HZ.out)
        have s1 := M2.out.st z
        have M3 := Lib.hid (M2.out.set z)
        clear E1 E2 HC
        generalize w4.setRow w.heap.size (mc z).toArray = w5 at *
        go_wp2_with fail
        go_roundw
        case rel => exact ⟨k + 1, by go_num, by omega, Lib.hid (by rw [HS.out]; exact M3.out)⟩
        case measure => simp [intOf]; omega
    · obtain rfl : k = n := by omega
      have HE := Lib.hid (show l.take k = l from List.take_of_length_le (by rw [HN.out]; exact Nat.le_refl _))
      rw [HE.out] at HM
      generalize Mb.fold x l = cur at *
      have l1 := HM.out.l1
      have s1 := HM.out.st2 cur
      have K4 := Lib.hid (HM.out.k2.row (mc cur))
      have B4 := Lib.hid (Below.setRow HM.out.below (g := w.heap.size + 1) (by omega) (mc cur).toArray)
      generalize wr.setRow (w.heap.size + 1) (mc cur).toArray = w5 at *
      go_wp2_with fail
      exact bodyPost_ret (results_m1 rfl _ _ _ cur (.bool true) rfl rfl K4.out) rfl ⟨rfl, B4.out⟩
end
end Go.Proofs.Ytfnmgjmdlihpgaa
