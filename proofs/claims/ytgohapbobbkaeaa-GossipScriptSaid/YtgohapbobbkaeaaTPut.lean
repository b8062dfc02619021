/-
  The program's put: a telling laid into a line that is kept in order.
-/
import Derived.Test.YtgohapbobbkaeaaTSe
import Derived.Test.YtgohapbobbkaeaaDelT
import Derived.Test.YtgohapbobbkaeaaHeldZ
import Derived.Test.YtgohapbobbkaeaaObj2
namespace Go.Proofs.Ytgohapbobbkaeaa
set_option linter.unusedSimpArgs false
set_option linter.unusedVariables false
open Go.RowKit Sha
def LineRep (w : World) (b : Nat) (fp : List Nat) (p0 p1 : Value) (l : List Tl) : Prop := ∃ v, fp = b :: v.ownBlock.toList ∧ Blk w b [p0, p1, v, snf] gt ∧ w.ownsRow 0 tt 4 v l.length (l.flatMap tc) ∧ v.ownBlock ≠ some b
def LineDone (b : Nat) (fp : List Nat) (p0 p1 : Value) (l : List Tl) (v : Value) (w : World) (e : Ending) (w' : World) : Prop := e = .returned v ∧ ∃ fp', LineRep w' b fp' p0 p1 l ∧ Touch fp w w' ∧ From fp fp' w
theorem ownsRow_keep {w w' : World} {B n size : Nat} {e : TypeId} {v : Value} {xs : List Value} (h : w.ownsRow B e size v n xs) (hk : ∀ g, v.ownBlock = some g → w'.heap[g]? = w.heap[g]?) : w'.ownsRow B e size v n xs := by
  refine ⟨h.1, ?_⟩
  rcases h.2 with h | ⟨g, cap, cur, hv, hg, hh, h4⟩
  · exact Or.inl h
  · exact Or.inr ⟨g, cap, cur, hv, hg, by rw [hk g (by rw [hv]; rfl)]; exact hh, h4⟩
theorem ownsRow_upon {w w' : World} {B n size : Nat} {e : TypeId} {v : Value} {xs : List Value} (h : w.ownsRow B e size v n xs) (hb : Below w.heap.size w w') : w'.ownsRow B e size v n xs := ownsRow_keep h fun g e => hb.block g (own_base_w h g e).2
theorem blk_past {w w4 w5 : World} {g : Nat} {cs : List Value} {t : TypeId} {row : Option Nat} (h : Blk w g cs t) (hb : Below w.heap.size w w4) (hg : w4.grownBy w5 row) (hne : row ≠ some g) : Blk w5 g cs t := by
  have h4 := h.upon hb
  unfold Blk
  rw [hg.block g h4.lt (fun e => hne e.symm)]; exact h4
theorem put_end {w w3 w4 w5 : World} {b : Nat} {p0 p1 v v5 : Value} {l l' : List Tl} (hb : Blk w b [p0, p1, v, snf] gt) (hne : v.ownBlock ≠ some b) (hvb : ∀ g, v.ownBlock = some g → g < w.heap.size) (B3 : Below w.heap.size w w3) (B4 : Below w3.heap.size w3 w4) (G5 : w4.grownBy w5 v.ownBlock) (hv5 : ∀ g, v5.ownBlock = some g → v.ownBlock = some g ∨ w4.heap.size ≤ g)
    (O5 : w5.ownsRow 0 tt 4 v5 l'.length (l'.flatMap tc)) (vv : Value) : LineDone b (b :: v.ownBlock.toList) p0 p1 l' vv w (.returned vv) (w5.setCell ⟨b, 2, none⟩ v5) := by
  have K5 := blk_past (hb.upon B3) B4 G5 hne
  have hs : w.heap.size ≤ w4.heap.size := Nat.le_trans B3.size B4.size
  have hn5 : v5.ownBlock ≠ some b := fun e => by
    rcases hv5 b e with h | h
    · exact hne h
    · have := hb.lt; omega
  refine ⟨rfl, b :: v5.ownBlock.toList, ⟨v5, rfl, K5.set 2 _, ?_, hn5⟩, ?_, ?_⟩
  · exact ownsRow_keep O5 fun g e => Below.heap_setCell _ _ _ _ (fun h => hn5 (by rw [e, h]))
  · have t1 : Touch (b :: v.ownBlock.toList) w w4 := Touch.of_below (B3.trans (B4.mono B3.size))
    have t2 : Touch (b :: v.ownBlock.toList) w4 w5 := ⟨G5.os, G5.tape, G5.output, G5.size, fun k hk hn => G5.block k hk fun h => hn (by rw [← h]; simp)⟩
    exact (t1.trans t2 (From.refl _ _)).setIn (by simp) _
  · intro k hk
    rcases List.mem_cons.1 hk with rfl | hk
    · exact .inl (by simp)
    · rcases hv5 k (by simpa using hk) with h | h
      · exact .inl (by rw [h]; simp)
      · exact .inr (by omega)
section
attribute [local go_sem ↓] execOp_loadM execOp_loadT execOp_storeT execOp_buildT
set_option maxRecDepth 100000 in
set_option maxHeartbeats 8000000 in
theorem put_any (b : Nat) (fp : List Nat) (p0 p1 : Value) (l : List Tl) (x : Tl) (w : World) (h : LineRep w b fp p0 p1 l) (hs : l.Pairwise Gs.lt) (hn : l.length ≤ 1000) :
    Calls Try.prog 30 #[lpt b, tv x] w (LineDone b fp p0 p1 (Gs.put l x) (.tuple #[]) w) := by
  obtain ⟨v, rfl, hb, ho, hne⟩ := h
  have hvb := fun g e => (own_base_w ho g e).2
  obtain ⟨q, c, hv, hle, hm, hA, _, hnil⟩ := own_at_s ho
  have HPL := Lib.hid (Gs.put_len l x)
  have HEND := Lib.hid (fun (w3 w4 w5 : World) (v5 : Value) => put_end (w3 := w3) (w4 := w4) (w5 := w5) (v5 := v5) (l := l) (l' := Gs.put l x) hb hne hvb)
  obtain ⟨n, hnl⟩ : ∃ n, n = l.length := ⟨_, rfl⟩
  have HP := Lib.hid (show Gs.pos l x ≤ n by rw [hnl]; exact Gs.pos_le l x)
  have HLT := Lib.hid (fun i hi => Gs.pos_lt hs x i hi)
  rw [← hnl] at hv hle hn ho HPL
  have HNL := Lib.hid hnl
  subst hv
  have hL : LineIn w b p0 p1 q n c l := ⟨hb, hA, hnl.symm, hle, hm, hnil⟩
  have HO := Lib.hid ho
  have HB := Lib.hid hb
  have HNB := Lib.hid hne
  have hlt := hb.lt
  -- the two boxes
  have k1 := Blk.new w #[lpt b] 78
  have k2 := Blk.new (w.alloc (.cells #[lpt b] 78)) (tc x).toArray tt
  have k1' := k1.old (.cells (tc x).toArray tt)
  have b2 : Below w.heap.size w ((w.alloc (.cells #[lpt b] 78)).alloc (.cells (tc x).toArray tt)) := ((Below.refl w.heap.size w).alloc (Nat.le_refl _) _).alloc (by simp) _
  rw [World.size_alloc] at k2
  obtain ⟨n1, hn1⟩ : ∃ n1, n1 = w.heap.size := ⟨_, rfl⟩
  obtain ⟨n2, hn2⟩ : ∃ n2, n2 = n1 + 1 := ⟨_, rfl⟩
  have HN := Lib.hid (show w.heap.size ≤ n1 ∧ w.heap.size ≤ n2 by omega)
  rw [← hn1, ← hn2] at k2
  rw [← hn1] at k1'
  have L2 := Lib.hid (hL.upon b2)
  have B2 := Lib.hid b2
  have K1 := Lib.hid k1'
  have K2 := Lib.hid k2
  have HSE := Lib.hid (search_any n (Gs.pos l x) n1 n2 ((w.alloc (.cells #[lpt b] 78)).alloc (.cells (tc x).toArray tt)) HP.out (by omega) (fun k hk w' hb' => by
    have hkl : k < l.length := by rw [← HNL.out]; exact hk
    have := ask_any b n1 n2 p0 p1 q n c l x _ k w' (L2.out.upon hb') hkl (K1.out.upon hb') (K2.out.upon hb')
    rwa [show decide (Gs.lt x l[k]) = decide (Gs.pos l x ≤ k) from by rw [Bool.eq_iff_iff, decide_eq_true_iff, decide_eq_true_iff]; exact HLT.out k hkl] at this))
  have c1 : ((w.alloc (.cells #[lpt b] 78)).alloc (.cells (tc x).toArray tt)).cell? ⟨n1, 0, none⟩ = some (lpt b) := K1.out.cell 0
  have c2 : ((w.alloc (.cells #[lpt b] 78)).alloc (.cells (tc x).toArray tt)).cell? ⟨b, 2, none⟩ = some (.slice q n c) := L2.out.blk.cell 2
  clear hL hb ho hne hvb hA hnil hle k1 k2 k1' b2 hnl hs
  go_enter Try.func30, Try.ntmps30
  go_wp2_with fail
  rw [← hn1, ← hn2]
  clear hn1 hn2
  generalize (w.alloc (.cells #[lpt b] 78)).alloc (.cells (tc x).toArray tt) = w2 at *
  refine HSE.out.mono ?_
  rintro e w3 ⟨rfl, hb3⟩
  have B3 := Lib.hid (below_next B2.out hb3)
  have HO3 := Lib.hid (ownsRow_upon HO.out B3.out)
  have HB3 := Lib.hid (HB.out.upon B3.out)
  have HS := Lib.hid (fun w' (hb : Below w3.heap.size w3 w') => (show w'.cell? ⟨n1, 0, none⟩ = some (lpt b) ∧ w'.cell? ⟨b, 2, none⟩ = some (.slice q n c) ∧ (loadM tt (.pointer (some ⟨n2, 0, none⟩))).run Try.prog w' = .ok (.value (tv x)) w' from
    ⟨((K1.out.upon hb3).upon hb).cell 0, (HB3.out.upon hb).cell 2, run_loadT (rangeT_of ((K2.out.upon hb3).upon hb))⟩))
  have HS2 := Lib.hid (fun w4 w' (hb : Below w3.heap.size w3 w4) (hg : w4.grownBy w' (Value.slice q n c).ownBlock) => (show w'.cell? ⟨n1, 0, none⟩ = some (lpt b) ∧ w'.cell? ⟨b, 2, none⟩ = some (.slice q n c) ∧ (loadM tt (.pointer (some ⟨n2, 0, none⟩))).run Try.prog w' = .ok (.value (tv x)) w' from
    ⟨(blk_past (K1.out.upon hb3) hb hg (fun e => by have := (own_base_w HO.out _ e).2; have := HN.out; omega)).cell 0, (blk_past HB3.out hb hg HNB.out).cell 2, run_loadT (rangeT_of (blk_past (K2.out.upon hb3) hb hg (fun e => by have := (own_base_w HO.out _ e).2; have := HN.out; omega)))⟩))
  clear c1 c2 hb3 HSE L2
  go_wp2_with fail
  refine wp_region_Z 11 (S := (fun w' => w'.cell? ⟨n1, 0, none⟩ = some (lpt b) ∧ w'.cell? ⟨b, 2, none⟩ = some (.slice q n c) ∧ (loadM tt (.pointer (some ⟨n2, 0, none⟩))).run Try.prog w' = .ok (.value (tv x)) w')) (by kernel_rfl) (HS.out _ ((Below.refl _ _).drew)) (fun hHeld hInv => ?_)
  refine z_take 0 (by kernel_rfl) (v := ?v1) (by kernel_rfl) (by kernel_rfl) (by kernel_rfl) (by kernel_rfl) (fun _ _ _ h => h) (by rfl) ?y1 (by assumption) (by assumption) ?r1
  case y1 => (intro w hSw; (try dsimp only at hSw); (obtain ⟨hSa, hSb⟩ := hSw); simp only [List.getElem_cons_succ, List.getElem_cons_zero]; go_simp; (try with_reducible rfl))
  clear hInv; intro hInv
  try simp only [List.getElem_cons_succ, List.getElem_cons_zero, Act.put, List.setIfInBounds_toArray, List.set_cons_zero, List.set_cons_succ]
  refine z_take 1 (by kernel_rfl) (v := ?v2) (by kernel_rfl) (by kernel_rfl) (by kernel_rfl) (by kernel_rfl) (fun _ _ _ h => h) (by rfl) ?y2 (by assumption) (by assumption) ?r2
  case y2 => (intro w hSw; (try dsimp only at hSw); (obtain ⟨hSa, hSb⟩ := hSw); simp only [List.getElem_cons_succ, List.getElem_cons_zero]; go_simp; (try with_reducible rfl))
  clear hInv; intro hInv
  try simp only [List.getElem_cons_succ, List.getElem_cons_zero, Act.put, List.setIfInBounds_toArray, List.set_cons_zero, List.set_cons_succ]
  refine z_take 2 (by kernel_rfl) (v := ?v3) (by kernel_rfl) (by kernel_rfl) (by kernel_rfl) (by kernel_rfl) (fun _ _ _ h => h) (by rfl) ?y3 (by assumption) (by assumption) ?r3
  case y3 => (intro w hSw; (try dsimp only at hSw); (obtain ⟨hSa, hSb⟩ := hSw); simp only [List.getElem_cons_succ, List.getElem_cons_zero]; go_simp; (try with_reducible rfl))
  clear hInv; intro hInv
  try simp only [List.getElem_cons_succ, List.getElem_cons_zero, Act.put, List.setIfInBounds_toArray, List.set_cons_zero, List.set_cons_succ]
  refine z_take 3 (by kernel_rfl) (v := ?v4) (by kernel_rfl) (by kernel_rfl) (by kernel_rfl) (by kernel_rfl) (fun _ _ _ h => h) (by rfl) ?y4 (by assumption) (by assumption) ?r4
  case y4 => (intro w hSw; (try dsimp only at hSw); (obtain ⟨hSa, hSb⟩ := hSw); simp only [List.getElem_cons_succ, List.getElem_cons_zero]; go_simp; (try with_reducible rfl))
  clear hInv; intro hInv
  try simp only [List.getElem_cons_succ, List.getElem_cons_zero, Act.put, List.setIfInBounds_toArray, List.set_cons_zero, List.set_cons_succ]
  refine z_take 4 (by kernel_rfl) (v := ?v5) (by kernel_rfl) (by kernel_rfl) (by kernel_rfl) (by kernel_rfl) (fun _ _ _ h => h) (by rfl) ?y5 (by assumption) (by assumption) ?r5
  case y5 => (intro w hSw; (try dsimp only at hSw); (obtain ⟨hSa, hSb⟩ := hSw); simp only [List.getElem_cons_succ, List.getElem_cons_zero]; go_simp; (try with_reducible rfl))
  clear hInv; intro hInv
  try simp only [List.getElem_cons_succ, List.getElem_cons_zero, Act.put, List.setIfInBounds_toArray, List.set_cons_zero, List.set_cons_succ]
  refine z_take 5 (by kernel_rfl) (v := ?v6) (by kernel_rfl) (by kernel_rfl) (by kernel_rfl) (by kernel_rfl) (fun _ _ _ h => h) (by rfl) ?y6 (by assumption) (by assumption) ?r6
  case y6 => (intro w hSw; (try dsimp only at hSw); (obtain ⟨hSa, hSb⟩ := hSw); simp only [List.getElem_cons_succ, List.getElem_cons_zero]; go_simp; (try with_reducible rfl))
  clear hInv; intro hInv
  try simp only [List.getElem_cons_succ, List.getElem_cons_zero, Act.put, List.setIfInBounds_toArray, List.set_cons_zero, List.set_cons_succ]
  refine z_take 6 (by kernel_rfl) (v := ?v7) (by kernel_rfl) (by kernel_rfl) (by kernel_rfl) (by kernel_rfl) (fun _ _ _ h => h) (by rfl) ?y7 (by assumption) (by assumption) ?r7
  case y7 => (intro w hSw; (try dsimp only at hSw); (obtain ⟨hSa, hSb⟩ := hSw); simp only [List.getElem_cons_succ, List.getElem_cons_zero]; go_simp; (try with_reducible rfl))
  clear hInv; intro hInv
  try simp only [List.getElem_cons_succ, List.getElem_cons_zero, Act.put, List.setIfInBounds_toArray, List.set_cons_zero, List.set_cons_succ]
  refine z_ready 7 (by kernel_rfl) (by kernel_rfl) (by kernel_rfl) (by assumption) (fun K hK => ?_)
  simp only [List.getElem_cons_succ, List.getElem_cons_zero]
  go_simp
  have cB := run_buildT1 w3.drew x
  have BA := Lib.hid (show Below w3.heap.size w3 (w3.drew.alloc (.cells (tc x).toArray tt)) from (Below.refl _ _).drew.alloc (Nat.le_refl _) _)
  have PB := Lib.hid (show Blk (w3.drew.alloc (.cells (tc x).toArray tt)) w3.heap.size (tc x) tt from Blk.new w3.drew (tc x).toArray tt)
  obtain ⟨n3, hn3⟩ : ∃ n3, n3 = w3.heap.size := ⟨_, rfl⟩
  have HN3 := Lib.hid hn3
  rw [← hn3] at PB
  have cB2 : (buildM 42 1 #[(0, tv x)]).run Try.prog w3.drew = .ok (.value (.slice (some ⟨n3, 0, none⟩) 1 1)) (w3.drew.alloc (.cells (tc x).toArray tt)) := by rw [hn3]; exact cB
  clear cB hn3
  generalize w3.drew.alloc (.cells (tc x).toArray tt) = w4 at *
  go_simp
  refine hK.out _ _ (HS.out _ BA.out) (fun hHeld hInv => ?_)
  clear hK K
  try simp only [List.getElem_cons_succ, List.getElem_cons_zero, Act.put, List.setIfInBounds_toArray, List.set_cons_zero, List.set_cons_succ]
  refine z_ready 8 (by kernel_rfl) (by kernel_rfl) (by kernel_rfl) (by assumption) (fun K hK => ?_)
  simp only [List.getElem_cons_succ, List.getElem_cons_zero]
  go_simp
  go_at_call 48
  have HO4 := ownsRow_upon HO3.out BA.out
  have HI := ins_T w4 0 (.slice q n c) n (l.flatMap tc) HO4 (tflat_one l) (Gs.pos l x) HP.out n3 (tc x) rfl (tc_one x) PB.out (fun e => by have := (own_base_w HO3.out _ e).2; have := HN3.out; omega) (by omega) (Nat.zero_le _)
  refine HI.mono ?_
  rw [tflat_split]
  rintro e w5 ⟨v5, rfl, ho5, hg5, hv5⟩
  have O5 := Lib.hid ho5
  have G5 := Lib.hid hg5
  have V5 := Lib.hid hv5
  clear HI HO4 ho5 hg5 hv5
  (try go_wp2_with fail)
  refine hK.out _ _ (HS2.out _ _ BA.out G5.out) (fun hHeld hInv => ?_)
  clear hK K
  try simp only [List.getElem_cons_succ, List.getElem_cons_zero, Act.put, List.setIfInBounds_toArray, List.set_cons_zero, List.set_cons_succ]
  refine z_take 9 (by kernel_rfl) (v := ?v8) (by kernel_rfl) (by kernel_rfl) (by kernel_rfl) (by kernel_rfl) (fun _ _ _ h => h) (by rfl) ?y8 (by assumption) (by assumption) ?r8
  case y8 => (intro w hSw; (try dsimp only at hSw); (obtain ⟨hSa, hSb⟩ := hSw); simp only [List.getElem_cons_succ, List.getElem_cons_zero]; go_simp; (try with_reducible rfl))
  clear hInv; intro hInv
  try simp only [List.getElem_cons_succ, List.getElem_cons_zero, Act.put, List.setIfInBounds_toArray, List.set_cons_zero, List.set_cons_succ]
  refine z_take 10 (by kernel_rfl) (v := ?v9) (by kernel_rfl) (by kernel_rfl) (by kernel_rfl) (by kernel_rfl) (fun _ _ _ h => h) (by rfl) ?y9 (by assumption) (by assumption) ?r9
  case y9 => (intro w hSw; (try dsimp only at hSw); (obtain ⟨hSa, hSb⟩ := hSw); simp only [List.getElem_cons_succ, List.getElem_cons_zero]; go_simp; (try with_reducible rfl))
  clear hInv; intro hInv
  try simp only [List.getElem_cons_succ, List.getElem_cons_zero, Act.put, List.setIfInBounds_toArray, List.set_cons_zero, List.set_cons_succ]
  refine z_last 11 (by kernel_rfl) rfl (by kernel_rfl) (by kernel_rfl) (fun K hK => ?_)
  simp only [List.getElem_cons_succ, List.getElem_cons_zero]
  go_simp
  obtain ⟨p5, c5, hv, _, _, _, _, _⟩ := own_at_s O5.out
  subst hv
  have K5 := Lib.hid (blk_past HB3.out BA.out G5.out HNB.out)
  have d5 : w5.cell? ⟨b, 2, none⟩ = some (.slice q n c) := K5.out.cell 2
  have f5 : w5.frozen? ⟨b, 2, none⟩ = false := K5.out.free 2
  (try go_simp)
  refine hK.out _ _ ?_
  clear hK K
  go_wp2_with fail
  first
    | go_ret
    | go_end0
  exact HEND.out _ _ _ _ B3.out BA.out G5.out V5.out (by rw [HPL.out]; exact O5.out) _
end
end Go.Proofs.Ytgohapbobbkaeaa
