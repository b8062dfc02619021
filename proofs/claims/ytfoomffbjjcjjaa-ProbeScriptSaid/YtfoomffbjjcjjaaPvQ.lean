/-
  The program's rounds: the iterator, permuted, where one stands, an order told, how a round lies (PvA to PvD in one: a claim holds 60 files).
-/
import Derived.Test.YtfoomffbjjcjjaaSlcN
import Derived.Test.YtfoomffbjjcjjaaIter
import Derived.Test.YtfoomffbjjcjjaaTail
import Derived.Test.YtfoomffbjjcjjaaRd
import Derived.Test.YtfoomffbjjcjjaaRnd
import Derived.Test.YtfoomffbjjcjjaaLtZ
import Derived.Test.YtfoomffbjjcjjaaPbA
namespace Go.Proofs.Ytfoomffbjjcjjaa
set_option linter.unusedSimpArgs false
set_option linter.unusedVariables false
open Go.RowKit Go.Shelf Sha
open Go.RowKit Sha Lot
attribute [local go_sem] Oper.semAt_some
def ykI (xs : List Int) (k : Nat) : Int := xs.getD k 0
def tellI (xs : List Int) (k : Nat) : Array Value := #[v64 (ykI xs k)]
/-- What the iterator needs: its slice, the row. -/
def NdI (p : Option Addr) (n c : Nat) (xs : List Int) (Bs : Nat) (_ : Nat) (W : World) : Prop := W.cell? ⟨Bs, 0, none⟩ = some (.slice p n c) ∧ At W p (xs.map v64)
theorem getI {xs : List Int} {k : Nat} (hk : k < xs.length) : (xs.map v64)[k]? = some (v64 (ykI xs k)) := by
  unfold ykI
  rw [List.getElem?_map, List.getD_eq_getElem?_getD, List.getElem?_eq_getElem hk]; rfl
set_option maxRecDepth 100000 in
set_option maxHeartbeats 2000000 in
theorem ivals_says (m : Nat) (h1 : 1 ≤ m) (p : Option Addr) (n c : Nat) (xs : List Int) (hn : xs.length = n) (hmax : n ≤ 1000000000) (Bs : Nat) (w : World) :
    SeqSays Fence.wide m Try.prog 49 #[.pointer (some ⟨Bs, 0, none⟩)] (tellI xs) n (NdI p n c xs Bs) w := by
  intro l J Jx W hW hJ hJx hNd hY h0
  have HN := Lib.hid hn
  have HD := Lib.hid hNd
  have HY := Lib.hid hY
  have hB0 := (hNd 0 W h0).1
  clear hn hNd hY hJ hJx hW
  refine callsIn_of_wp Try.func49 rfl trivial ?_ rfl
  simp only [Try.ntmps49, List.size_toArray, List.length_cons, List.length_nil, Nat.reduceAdd, Nat.reduceSub, Array.replicate_succ, Array.replicate_zero, List.push_toArray, List.append_toArray, List.nil_append, List.cons_append]
  gi_wp2
  gi_loopw [7] (fun i wr => ∃ k : Nat, k ≤ n ∧ i = .int .i64 k ∧ Hid (J k wr)) (fun i _ => n - (intOf i).toNat)
  case atStart => exact ⟨0, Nat.zero_le _, rfl, Lib.hid h0⟩
  case round =>
    obtain ⟨k, hk, rfl, HJ⟩ := hrel
    by_cases hlt : k < n
    · obtain ⟨b, off, rfl, hc⟩ := (HD.out k wr HJ.out).2.addr (by rw [List.length_map, HN.out]; omega)
      have c1 : wr.cell? ⟨b, off + k, none⟩ = some (v64 (ykI xs k)) := hc k _ (getI (by rw [HN.out]; exact hlt))
      obtain ⟨fn, tmps, assign, body, hy, hR⟩ := HY.out k wr hlt HJ.out
      clear hc
      unfold tellI at hy
      gi_wp2
      refine hR.mono ?_
      rintro e W3 (⟨rfl, hJ3⟩ | ⟨rfl, hJx3⟩)
      · have HJ3 := Lib.hid hJ3
        clear hJ3
        gi_wp2
        go_roundw
        case rel => exact ⟨k + 1, by omega, by simp, HJ3⟩
        case measure => simp [intOf]; omega
      · have HJ3 := Lib.hid hJx3
        clear hJx3
        gi_wp2
        refine bodyPost_ret (results_none rfl _ _ _) rfl ?_
        exact ⟨⟨_, rfl⟩, .inr ⟨k + 1, by omega, HJ3.out⟩⟩
    · obtain rfl : k = n := by omega
      gi_wp2
      go_end0
      exact ⟨⟨_, rfl⟩, .inl HJ.out⟩
theorem ivals_any (p : Option Addr) (n c : Nat) (w : World) :
    Calls Try.prog 41 #[.slice p n c] w fun e w' => e = .returned (.func (.func 49) #[] #[.pointer (some ⟨w.heap.size, 0, none⟩)]) ∧ w' = w.alloc (.cells #[.slice p n c] 22) := by
  go_enter Try.func41, Try.ntmps41
  go_wp2_with fail
  go_ret
  exact ⟨rfl, rfl⟩
attribute [local go_sem] Oper.semAt_some
/-- The nodes so far in their variable. -/
def GathI (B Br : Nat) (ys : List Int) (k : Nat) (W : World) : Prop := ∃ v, Boxed W B 22 v ∧ W.ownsRow Br it 1 v k ((ys.take k).map v64)
theorem gathI_own (B Br : Nat) (ys : List Int) : Own (fun (k : Nat) W => GathI B Br ys k W) := by
  rintro s X Y row ⟨v, h1, h2⟩ hg hr
  refine ⟨v, h1.kept hg (fun e => ?_), h2.kept hg ?_⟩
  · obtain ⟨o, ho, hc⟩ := hr B e.symm
    rw [show X.heap[B]? = _ from h1] at ho; cases ho; cases hc
  · rcases h2.2 with ⟨rfl, _⟩ | ⟨g, cap, cur, rfl, _, hgb, _⟩
    · exact .inl rfl
    · refine .inr fun e => ?_
      obtain ⟨o, ho, hc⟩ := hr g (by rw [← e]; rfl)
      rw [hgb] at ho; cases ho; cases hc
theorem own_on_p {w w' : World} {B n size : Nat} {e : TypeId} {v : Value} {xs : List Value} (h : w.ownsRow B e size v n xs) (hb : Below w.heap.size w w') : w'.ownsRow B e size v n xs :=
  ownsRow_keepR h fun g hg => hb.block g (own_base_w h g hg).2
def PermDone (ys : List Int) (w : World) (e : Ending) (w' : World) : Prop := ∃ v, e = .returned v ∧ w'.ownsRow w.heap.size it 1 v ys.length (ys.map v64) ∧ Below w.heap.size w w'
section
attribute [local go_sem ↓] execOp_sliceI execOp_buildI
set_option maxRecDepth 100000 in
set_option maxHeartbeats 4000000 in
theorem permuted_any (xs os : List Int) (n m : Nat) (q p : Option Addr) (c d : Nat) (Bs : Nat) (hn : xs.length = n) (hm : os.length = m) (hsn : n ≤ 1000) (hsm : m ≤ 1000) (ho : ∀ i ∈ os, 0 ≤ i ∧ i < n) (w : World) (hA : At w q (xs.map v64)) (hnd : NdI p m d os Bs 0 w) :
    Calls Try.prog 28 #[.slice q n c, .func (.func 49) #[] #[.pointer (some ⟨Bs, 0, none⟩)]] w (PermDone (os.map fun i => xs.getD i.toNat 0) w) := by
  have HSQ := Lib.hid (fun (w1 : World) => ivals_says 4 (by omega) p m d os hm (by omega) Bs w1)
  have HND := Lib.hid hnd
  have HA := Lib.hid hA
  have HO := Lib.hid (show ∀ k, k < m → 0 ≤ ykI os k ∧ ykI os k < n from fun k hk => by
    unfold ykI; rw [List.getD_eq_getElem?_getD, List.getElem?_eq_getElem (by omega)]; exact ho _ (List.getElem_mem _))
  obtain ⟨ys, hys⟩ : ∃ ys, ys = os.map fun i => xs.getD i.toNat 0 := ⟨_, rfl⟩
  have HYL := Lib.hid (show ys.length = m by rw [hys, List.length_map, hm])
  have HYK := Lib.hid (show ∀ k, k < m → ys.take (k + 1) = ys.take k ++ [ykI xs (ykI os k).toNat] from fun k hk => by
    rw [List.take_succ_eq_append_getElem (by rw [hys, List.length_map]; omega)]
    congr 1
    subst hys
    rw [List.getElem_map]
    unfold ykI
    rw [List.getD_eq_getElem?_getD (l := os), List.getElem?_eq_getElem (by omega)]
    rfl)
  rw [← hys]
  have HN := Lib.hid hn
  clear hA hnd ho hys hn hm
  obtain ⟨i0, hi0, hz0, hz1, hz2⟩ := info_parts knum_info
  refine (callsIn_wide (n := 5)).1 ?_
  refine callsIn_of_wp_marks Try.func28 rfl trivial ?_ rfl
  simp only [Try.ntmps28, List.size_toArray, List.length_cons, List.length_nil, Nat.reduceAdd, Nat.reduceSub, Array.replicate_succ, Array.replicate_zero, List.push_toArray, List.append_toArray, List.nil_append, List.cons_append]
  have bN := Boxed.new w 22 (.slice q n c)
  have hB0 := (Below.refl w.heap.size w).alloc (Nat.le_refl _) (.cells #[.slice q n c] 22)
  obtain ⟨w1, hw1⟩ : ∃ x, x = w.alloc (.cells #[.slice q n c] 22) := ⟨_, rfl⟩
  have hs1 : w1.heap.size = w.heap.size + 1 := by rw [hw1, World.size_alloc]
  obtain ⟨w2, hmk, hown, hgr⟩ := run_make_own (P := Try.prog) (w := w1) w1.heap.size 22 3 i0 _ 1 Try.underlying22 hi0 hz0 hz1 .i64 .i64 n (by rw [hz2]; omega) (by unfold maxLen; omega) (Nat.le_refl _)
  rw [hw1] at hmk
  gi_wp2
  have HX0 := Lib.hid (show Boxed (w2.alloc (.cells #[.slice (some ⟨w.heap.size + 1, 0, none⟩) 0 n] 22)) w.heap.size 22 (.slice q n c) ∧ GathI w2.heap.size (w.heap.size + 1) ys 0 (w2.alloc (.cells #[.slice (some ⟨w.heap.size + 1, 0, none⟩) 0 n] 22)) ∧ Below w.heap.size w (w2.alloc (.cells #[.slice (some ⟨w.heap.size + 1, 0, none⟩) 0 n] 22)) from by
    rw [← hw1] at bN hB0
    rw [hs1] at hown
    have hB2 := hB0.trans (show Below w.heap.size w1 w2 from ⟨hgr.os, hgr.tape, hgr.output, hgr.size, fun k hk => hgr.block k (by omega) (by simp)⟩)
    refine ⟨Boxed.alloc (show Boxed w2 _ _ _ from (hgr.block _ bN.lt (by simp)).trans bN) _, ⟨_, Boxed.new w2 22 _, ?_⟩, hB2.alloc (by have := hgr.size; omega) _⟩
    exact own_on_p hown ((Below.refl _ _).alloc (Nat.le_refl _) _))
  have hs2 : w.heap.size + 1 ≤ w2.heap.size := by have := hgr.size; omega
  clear hmk hown hgr bN hB0 hw1 hs1 hi0 hz0 hz1 hz2
  generalize w2.alloc (.cells #[.slice (some ⟨w.heap.size + 1, 0, none⟩) 0 n] 22) = W0 at *
  obtain ⟨Bo, hBo⟩ : ∃ B, B = w2.heap.size := ⟨_, rfl⟩
  rw [← hBo] at HX0 hs2 ⊢
  clear hBo
  have hW0 : Bo < W0.heap.size := by obtain ⟨_, ⟨v, h, _⟩, _⟩ := HX0.out; exact h.lt
  refine wpIn_range_says rfl (by omega) (gf := 49) (lb := #[.pointer (some ⟨Bs, 0, none⟩)]) rfl trivial (enters_of Try.func49 (by kernel_rfl) rfl)
    (HSQ.out W0) (Below.refl _ _) (fun _ => rfl)
    (fun k W => Boxed W w.heap.size 22 (.slice q n c) ∧ GathI Bo (w.heap.size + 1) ys k W ∧ Below w.heap.size w W)
    (fun _ _ _ => False)
    (OwnFrom.and (Own.from (boxed_own w.heap.size 22 (fun _ : Nat => .slice q n c)) _) (OwnFrom.and (Own.from (gathI_own Bo (w.heap.size + 1) ys) _) (ownFrom_below (Nat.le_refl _) (by omega))))
    (fun _ _ _ _ _ hs _ _ => hs)
    (fun k W h => ⟨(h.2.2.cell (World.block_lt_of_cell? w _ HND.out.1)).trans HND.out.1, HND.out.2.below h.2.2⟩)
    HX0.out
    (fun k a' _ => a' = { tmps := #[.slice q n c, .func (.func 49) #[] #[.pointer (some ⟨Bs, 0, none⟩)], .pointer (some ⟨w.heap.size, 0, none⟩), undef, .slice none 0 0, .pointer (some ⟨Bo, 0, none⟩), v64 (ykI os k), .slice q n c, .int .i64 n, .slice (some ⟨w.heap.size + 1, 0, none⟩) 0 n, .func (.func 49) #[] #[.pointer (some ⟨Bs, 0, none⟩)], v64 (ykI os k), undef, undef, undef, undef, undef, undef, undef, undef], defers := [] })
    (fun k a' => fun _ _ _ _ hs _ _ => hs)
    ?assign ?body ?done ?stop
  case assign =>
    intro lp k W K hI hK
    unfold tellI
    gi_wp2
    exact hK _ _ (KeepsFrom.refl _ _) hI rfl
  case body =>
    rintro lp k a' W hl hrec hk ⟨bN, ⟨v, bv, ho⟩, hB⟩ rfl
    obtain ⟨y1, y2⟩ := HO.out k hk
    have HYS := Lib.hid (HYK.out k hk)
    obtain ⟨j, hj⟩ : ∃ j : Nat, ykI os k = (j : Int) := ⟨(ykI os k).toNat, by omega⟩
    rw [hj] at HYS y1 y2 ⊢
    rw [Int.toNat_natCast] at HYS
    have hjn : j < n := by omega
    obtain ⟨b, off, rfl, hc0⟩ := HA.out.addr (by rw [List.length_map, HN.out]; omega)
    have hlow : b < w.heap.size := World.block_lt_of_cell? w _ (hc0 j _ (getI (by rw [HN.out]; exact hjn)))
    have hc : ∀ i v, (xs.map v64)[i]? = some v → W.cell? ⟨b, off + i, none⟩ = some v := fun i v h => (hB.cell (World.block_lt_of_cell? w _ (hc0 i v h))).trans (hc0 i v h)
    have cj : W.cell? ⟨b, off + j, none⟩ = some (v64 (ykI xs j)) := hc j _ (getI (by rw [HN.out]; exact hjn))
    generalize ykI xs j = x at *
    have cN := bN.cell
    have cv := bv.cell
    clear hc hc0
    gi_wp2
--BODY
    refine round_Z 7 (S := (fun w' => w'.cell? ⟨Bo, 0, none⟩ = some v ∧ w'.cell? ⟨w.heap.size, 0, none⟩ = some (.slice (some ⟨b, off, none⟩) n c) ∧ w'.cell? ⟨b, off + j, none⟩ = some (v64 x))) (by kernel_rfl) (by simp) ⟨bv.cell, bN.cell, cj⟩ (fun hHeld hInv => ?_)
    have bv2 : Boxed W.drew Bo 22 v := bv
    have bN2 : Boxed W.drew w.heap.size 22 (.slice (some ⟨b, off, none⟩) n c) := bN
    have ho2 := own_on_p ho (Below.refl _ W).drew
    have hB2 := Lib.hid hB.drew
    have HKD := Lib.hid (KeepsOthers.drew W)
    have hne : v.ownBlock ≠ some w.heap.size := fun e => by have := (own_base_w ho _ e).1; omega
    have hnb : v.ownBlock ≠ some b := fun e => by have h1 := (own_base_w ho _ e).1; have h2 := hlow; omega
    have k2 : W.drew.cell? ⟨b, off + j, none⟩ = some (v64 x) := cj
    clear bv bN ho hB cj cN cv
    generalize W.drew = W2 at *
    refine z_take 0 (by kernel_rfl) (v := ?v1) (by kernel_rfl) (by kernel_rfl) (by kernel_rfl) (by kernel_rfl) (fun _ _ _ h => nomatch h.1) (by rfl) ?y1 (by assumption) (by assumption) ?r1
    case y1 => (intro w hSw; (try dsimp only at hSw); (obtain ⟨hSa, hSb, hSc⟩ := hSw); simp only [List.getElem_cons_succ, List.getElem_cons_zero]; go_simp; (try with_reducible rfl))
    clear hInv; intro hInv
    try simp only [List.getElem_cons_succ, List.getElem_cons_zero, Act.put, List.setIfInBounds_toArray, List.set_cons_zero, List.set_cons_succ]
    refine z_take 1 (by kernel_rfl) (v := ?v2) (by kernel_rfl) (by kernel_rfl) (by kernel_rfl) (by kernel_rfl) (fun _ _ _ h => nomatch h.1) (by rfl) ?y2 (by assumption) (by assumption) ?r2
    case y2 => (intro w hSw; (try dsimp only at hSw); (obtain ⟨hSa, hSb, hSc⟩ := hSw); simp only [List.getElem_cons_succ, List.getElem_cons_zero]; go_simp; (try with_reducible rfl))
    clear hInv; intro hInv
    try simp only [List.getElem_cons_succ, List.getElem_cons_zero, Act.put, List.setIfInBounds_toArray, List.set_cons_zero, List.set_cons_succ]
    refine z_take 2 (by kernel_rfl) (v := ?v3) (by kernel_rfl) (by kernel_rfl) (by kernel_rfl) (by kernel_rfl) (fun _ _ _ h => nomatch h.1) (by rfl) ?y3 (by assumption) (by assumption) ?r3
    case y3 => (intro w hSw; (try dsimp only at hSw); (obtain ⟨hSa, hSb, hSc⟩ := hSw); simp only [List.getElem_cons_succ, List.getElem_cons_zero]; go_simp; (try with_reducible rfl))
    clear hInv; intro hInv
    try simp only [List.getElem_cons_succ, List.getElem_cons_zero, Act.put, List.setIfInBounds_toArray, List.set_cons_zero, List.set_cons_succ]
    refine z_take 3 (by kernel_rfl) (v := ?v4) (by kernel_rfl) (by kernel_rfl) (by kernel_rfl) (by kernel_rfl) (fun _ _ _ h => nomatch h.1) (by rfl) ?y4 (by assumption) (by assumption) ?r4
    case y4 => (intro w hSw; (try dsimp only at hSw); (obtain ⟨hSa, hSb, hSc⟩ := hSw); simp only [List.getElem_cons_succ, List.getElem_cons_zero]; go_simp; (try with_reducible rfl))
    clear hInv; intro hInv
    try simp only [List.getElem_cons_succ, List.getElem_cons_zero, Act.put, List.setIfInBounds_toArray, List.set_cons_zero, List.set_cons_succ]
    refine z_take 4 (by kernel_rfl) (v := ?v5) (by kernel_rfl) (by kernel_rfl) (by kernel_rfl) (by kernel_rfl) (fun _ _ _ h => nomatch h.1) (by rfl) ?y5 (by assumption) (by assumption) ?r5
    case y5 => (intro w hSw; (try dsimp only at hSw); (obtain ⟨hSa, hSb, hSc⟩ := hSw); simp only [List.getElem_cons_succ, List.getElem_cons_zero]; go_simp; (try with_reducible rfl))
    clear hInv; intro hInv
    try simp only [List.getElem_cons_succ, List.getElem_cons_zero, Act.put, List.setIfInBounds_toArray, List.set_cons_zero, List.set_cons_succ]
    have c8 := run_buildI1 W2 x
    have HOW := Lib.hid ho2
    have HBV := Lib.hid bv2
    have hab : Below W2.heap.size W2 (W2.alloc (.cells #[.int .i64 x] it)) := (Below.refl _ _).alloc (Nat.le_refl _) _
    have HOA := Lib.hid (own_on_p ho2 hab)
    have hsz2 : w.heap.size + 1 ≤ W2.heap.size := by have := bN2.lt; omega
    have HBN := Lib.hid bN2
    have HNE := Lib.hid hne
    have HNB := Lib.hid hnb
    have HCX := Lib.hid (at_newR W2 [.int .i64 x] it)
    have HSA := Lib.hid (show (W2.alloc (.cells #[.int .i64 x] it)).cell? ⟨Bo, 0, none⟩ = some v ∧ (W2.alloc (.cells #[.int .i64 x] it)).cell? ⟨w.heap.size, 0, none⟩ = some (.slice (some ⟨b, off, none⟩) n c) ∧ (W2.alloc (.cells #[.int .i64 x] it)).cell? ⟨b, off + j, none⟩ = some (v64 x) from ⟨(bv2.alloc _).cell, (bN2.alloc _).cell, (hab.cell (World.block_lt_of_cell? _ _ k2)).trans k2⟩)
    clear bv2 bN2 ho2 hne hnb hab k2
    refine z_ready 5 (by kernel_rfl) (by kernel_rfl) (by kernel_rfl) (by assumption) (fun K hK => ?_)
    simp only [List.getElem_cons_succ, List.getElem_cons_zero]
    go_simp
    refine hK.out _ _ HSA.out (fun hHeld hInv => ?_)
    clear hK K
    try simp only [List.getElem_cons_succ, List.getElem_cons_zero, Act.put, List.setIfInBounds_toArray, List.set_cons_zero, List.set_cons_succ]
    refine z_ready 6 (by kernel_rfl) (by kernel_rfl) (by kernel_rfl) (by assumption) (fun K hK => ?_)
    simp only [List.getElem_cons_succ, List.getElem_cons_zero]
    rw [if_pos (by rfl)]
    refine wp_app_s (.tmp 12) (.tmp 17) 22 rfl (w.heap.size + 1) it (z := .int .i64 0) (by decide) Try.underlying22 knum_info rfl _ k _ (by simp [Act.eval, Act.put]) HOA.out (some ⟨W2.heap.size, 0, none⟩) 1 1 [v64 x] (by simp [Act.eval, Act.put]) HCX.out rfl (fun h => by cases h) (Nat.le_refl _) (by intro u hu; rw [List.mem_singleton.1 hu]; rfl) (by omega) (by unfold maxLen; omega) (by simp; omega) ?_
    intro v8 w8 hown8 hg8 _
    have hap := HBV.out.appended (by decide) HOW.out hsz2 hs2 hown8 hg8
    have hbn8 := (show Boxed w8 w.heap.size 22 (.slice (some ⟨b, off, none⟩) n c) from (HBN.out.alloc _).kept hg8 (fun e => HNE.out e.symm))
    have hcb8 : w8.cell? ⟨b, off + j, none⟩ = some (v64 x) := (World.cell?_of_block (hg8.block b (World.block_lt_of_cell? _ _ HSA.out.2.2) HNB.out.symm)).trans HSA.out.2.2
    have HS8 := Lib.hid (show w8.cell? ⟨Bo, 0, none⟩ = some v ∧ w8.cell? ⟨w.heap.size, 0, none⟩ = some (.slice (some ⟨b, off, none⟩) n c) ∧ w8.cell? ⟨b, off + j, none⟩ = some (v64 x) from ⟨hap.1.cell, hbn8.cell, hcb8⟩)
    obtain ⟨q8, d8, hv8, _⟩ := own_at_s hown8
    subst hv8
    have HAP := Lib.hid hap
    have HB8 := Lib.hid hbn8
    have f1 := hap.1.cell
    have f2 := hap.1.frozen
    clear hap hown8 hg8 hbn8 hcb8
    refine hK.out _ _ HS8.out (fun hHeld hInv => ?_)
    clear hK K
    try simp only [List.getElem_cons_succ, List.getElem_cons_zero, Act.put, List.setIfInBounds_toArray, List.set_cons_zero, List.set_cons_succ]
    refine z_last 7 (by kernel_rfl) rfl (by kernel_rfl) (by kernel_rfl) (fun K hK => ?_)
    simp only [List.getElem_cons_succ, List.getElem_cons_zero]
    go_simp
    refine hK.out _ _ ?_
    clear hK K
    refine ⟨rfl, ?_⟩
    obtain ⟨g1, g2, g3, g4, g5⟩ := HAP.out
    have HEND := Lib.hid (show KeepsFrom W0.heap.size W (w8.setCell ⟨Bo, 0, none⟩ (.slice q8 (k + 1) d8)) ∧ Boxed (w8.setCell ⟨Bo, 0, none⟩ (.slice q8 (k + 1) d8)) w.heap.size 22 (.slice (some ⟨b, off, none⟩) n c) ∧ GathI Bo (w.heap.size + 1) ys (k + 1) (w8.setCell ⟨Bo, 0, none⟩ (.slice q8 (k + 1) d8)) ∧ Below w.heap.size w (w8.setCell ⟨Bo, 0, none⟩ (.slice q8 (k + 1) d8)) from by
      refine ⟨(HKD.out.trans g4).from _, ?_, ⟨_, g2, ?_⟩, hB2.out.trans (g5.mono (by omega))⟩
      · exact (Below.heap_setCell _ _ _ _ (by simp; omega)).trans HB8.out
      · rw [HYS.out, List.map_append]
        exact g3)
    gi_wp2
    exact HEND.out
--END
  case done =>
    rintro D W hD ⟨bN, ⟨v, bv, ho⟩, hB⟩ hdf
    have c0 := bv.cell
    have HO9 := Lib.hid ho
    clear ho
    gi_wp2
    refine ⟨by simp, .inl ⟨_, _, rfl, run_takeDeferred hdf, ?_⟩⟩
    refine ⟨_, results_tmp rfl _ _ _, ?_⟩
    refine ⟨v, rfl, ?_, hB.trans (belowK_b (w := w) (Nat.le_refl _) W D _ _ (by omega) hdf rfl rfl)⟩
    have h3 := ownsRow_putObj HO9.out (.deferred none) hdf rfl
    rw [← HYL.out, List.take_length] at h3
    exact own_lessR h3 (by omega)
  case stop =>
    rintro D c' k W hD hk h hdf
    exact h.elim
end
theorem may_any (x : Int) (w : World) : Calls Try.prog 26 #[v64 x] w fun e w' => e = .returned (.bool (decide (1 ≤ x ∧ x ≤ 64))) ∧ w' = w := by
  by_cases h1 : 1 ≤ x
  · by_cases h2 : x ≤ 64
    · have t1 : decide (1 ≤ x) = true := decide_eq_true h1
      have t2 : decide (x ≤ 64) = true := decide_eq_true h2
      rw [decide_eq_true ⟨h1, h2⟩]
      clear h1 h2
      go_enter Try.func26, Try.ntmps26
      go_wp2_with fail
      go_ret
      exact ⟨rfl, rfl⟩
    · have t1 : decide (1 ≤ x) = true := decide_eq_true h1
      have t2 : decide (x ≤ 64) = false := decide_eq_false h2
      rw [decide_eq_false (fun h => h2 h.2)]
      clear h1 h2
      go_enter Try.func26, Try.ntmps26
      go_wp2_with fail
      go_ret
      exact ⟨rfl, rfl⟩
  · have t1 : decide (1 ≤ x) = false := decide_eq_false h1
    rw [decide_eq_false (fun h => h1 h.1)]
    clear h1
    go_enter Try.func26, Try.ntmps26
    go_wp2_with fail
    go_ret
    exact ⟨rfl, rfl⟩
/-- Where one stands, and whether it does. -/
def plcAt (L : List Int) (x : Int) : Nat := if Rd.at_ L x < L.length then Rd.at_ L x else 0
def plcIs (L : List Int) (x : Int) : Bool := decide (Rd.at_ L x < L.length)
set_option maxHeartbeats 1000000 in
theorem place_any (L : List Int) (n : Nat) (q : Option Addr) (c : Nat) (x : Int) (w : World) (hn : L.length = n) (hA0 : At w q (L.map v64)) (hs : n ≤ 1000) :
    Calls Try.prog 27 #[.slice q n c, v64 x] w fun e w' => e = .returned (.tuple #[v64 (plcAt L x), .bool (plcIs L x)]) ∧ w' = w := by
  have HM := Lib.hid hn.symm
  have HA := Lib.hid (show ∀ k (hk : k < L.length), ∃ g off, q = some ⟨g, off, none⟩ ∧ w.cell? ⟨g, off + k, none⟩ = some (v64 L[k]) from fun k hk => by
    obtain ⟨g, off, hq, hc⟩ := hA0.addr (by rw [List.length_map]; omega)
    exact ⟨g, off, hq, hc k _ (by rw [List.getElem?_map, List.getElem?_eq_getElem hk]; rfl)⟩)
  clear hA0 hn
  go_enter Try.func27, Try.ntmps27
  go_wp2_with fail
  go_loop [10] (fun iv => ∃ i : Nat, iv = .int .i64 i ∧ i ≤ n ∧ Hid (∀ j (hj : j < L.length), j < i → L[j] ≠ x)) (fun iv => n - (intOf iv).toNat)
  case atStart => exact ⟨0, rfl, by omega, Lib.hid (fun j hj h => by omega)⟩
  case round =>
    obtain ⟨i, rfl, hi, HB⟩ := hrel
    by_cases hlt : i < n
    · have hil : i < L.length := by rw [← HM.out]; exact hlt
      obtain ⟨g, off, rfl, c1⟩ := HA.out i hil
      have jn : (0 : Int) ≤ (i : Int) ∧ (i : Int) < (n : Int) := by omega
      by_cases he : L[i] = x
      · have t1 : (L[i] == x) = true := by rw [he]; simp
        have HV := Lib.hid (show plcAt L x = i ∧ plcIs L x = true from by
          have h1 := Rd.at_of hil he (fun j hj => HB.out j (by omega) hj)
          unfold plcAt plcIs; rw [h1, if_pos hil]; exact ⟨rfl, decide_eq_true hil⟩)
        generalize L[i] = y at *
        clear he
        go_wp2_with fail
        go_ret2
        exact ⟨by rw [HV.out.1, HV.out.2]; rfl, rfl⟩
      · have t1 : (L[i] == x) = false := by rw [beq_eq_false_iff_ne]; exact he
        have HB2 := Lib.hid (show ∀ j (hj : j < L.length), j < i + 1 → L[j] ≠ x from fun j hj h1 => by
          rcases Nat.lt_succ_iff_lt_or_eq.1 h1 with h2 | h2
          · exact HB.out j hj h2
          · subst h2; exact he)
        generalize L[i] = y at *
        clear he HB
        go_wp2_with fail
        go_round
        case rel => exact ⟨i + 1, by go_num, by omega, HB2⟩
        case measure => simp [intOf]; omega
    · have HV := Lib.hid (show plcAt L x = 0 ∧ plcIs L x = false from by
        have h1 := Rd.at_none (L := L) (n := x) fun j hj => HB.out j hj (by rw [← HM.out] at hj; omega)
        unfold plcAt plcIs; rw [if_neg h1]; exact ⟨rfl, decide_eq_false h1⟩)
      go_wp2_with fail
      go_ret2
      exact ⟨by rw [HV.out.1, HV.out.2]; rfl, rfl⟩
/-! ### Lots that are some -/
theorem shufTo_nil (N M m : Nat) : ∀ t, shufTo [] N m t = shufTo [] M m t
  | 0 => rfl
  | t + 1 => by simp only [shufTo, place_nil, shufTo_nil N M m t]
theorem shuf_nil (N M : Nat) (n : Int) : shuf [] N n = shuf [] M n := by unfold shuf; rw [shufTo_nil N M]
theorem noLot (w : World) : ∀ a, (none : Option Addr) = some a → ∃ b, a = ⟨b, 0, none⟩ ∧ Blk w b zeroLot.toList 64 := fun a h => by cases h
theorem some_obj (bl : Nat) (fl : List Nat) (Ls : List Int) (N : Nat) (w : World) (h : ProgLot w bl fl Ls N) (hN : N ≤ 1000000000) :
    Calls Try.prog 42 #[lptr bl] w fun e w' => e = .returned (lptr bl) ∧ ∃ fl', ProgLot w' bl fl' Ls N ∧ Touch fl w w' ∧ From fl fl' w := by
  have HS := Lib.hid (lotsOK.ok.shuffle bl fl Ls N 1 w h hN (by omega))
  rw [show shufN ((1 : Nat) : Int) = 0 from rfl, Nat.add_zero] at HS
  have HL := Lib.hid (show (shuf Ls N ((1 : Nat) : Int)).length = 1 from (Rd.shuf_order (Ls := Ls) (N := N) (show 1 ≤ 64 by omega)).1)
  generalize shuf Ls N ((1 : Nat) : Int) = xs at *
  clear h
  go_enter Try.func42, Try.ntmps42
  go_wp2_with fail
  refine HS.out.mono ?_
  rintro e w1 ⟨v, fl1, rfl, ho, hr, ht, hf, _⟩
  rw [HL.out] at ho
  obtain ⟨q, d, rfl, _⟩ := own_at_s ho.row
  have H1 := Lib.hid (show ∃ fl', ProgLot w1 bl fl' Ls N ∧ Touch fl w w1 ∧ From fl fl' w from ⟨fl1, hr, ht, hf⟩)
  clear ho hr ht hf HS
  go_wp2_with fail
  go_ret
  exact ⟨rfl, H1.out⟩
theorem some_nil (w : World) :
    Calls Try.prog 42 #[.pointer none] w fun e w' => ∃ b f, e = .returned (lptr b) ∧ ProgLot w' b f [] 0 ∧ (∀ k ∈ f, w.heap.size ≤ k) ∧ Below w.heap.size w w' := by
  have HS := Lib.hid (zshuf_any none 1 w (noLot w) (by omega))
  go_enter Try.func42, Try.ntmps42
  go_wp2_with fail
  refine HS.out.mono ?_
  rintro e w1 ⟨q, c, rfl, hb1⟩
  have B1 := Lib.hid hb1
  clear hb1 HS
  go_wp2_with fail
  refine (lotsOK.ok.new [] 0 none 0 w1 rfl (good_nilN w1)).mono ?_
  rintro e w2 ⟨hb2, ⟨_, b, f, rfl, hr, hn⟩ | ⟨hz, _⟩⟩
  · have H2 := Lib.hid (show ProgLot w2 b f [] 0 ∧ (∀ k ∈ f, w.heap.size ≤ k) ∧ Below w.heap.size w w2 from ⟨hr, fun k hk => Nat.le_trans B1.out.size (hn k hk), below_next B1.out hb2⟩)
    clear hb2 hr hn
    go_wp2_with fail
    go_ret
    exact ⟨b, f, rfl, H2.out⟩
  · exact absurd (show newErr [] = 0 by decide) hz
/-- An order told by lots: the iterator, what it needs, the lots behind it. -/
def ShdP (lv : Value) (fl : List Nat) (Ls : List Int) (N n : Nat) (w : World) (e : Ending) (w' : World) : Prop :=
  ∃ Bs p d fl', e = .returned (.func (.func 49) #[] #[.pointer (some ⟨Bs, 0, none⟩)]) ∧ NdI p n d (shuf Ls N n) Bs 0 w' ∧ LArg ProgLot w' lv fl' Ls (N + shufN n) ∧ Touch fl w w' ∧ From fl fl' w
set_option maxHeartbeats 1000000 in
theorem shuffled_any (lv : Value) (fl : List Nat) (Ls : List Int) (N n : Nat) (w : World) (h : LArg ProgLot w lv fl Ls N) (hN : N ≤ 1000000000) (hn : n ≤ 64) :
    Calls Try.prog 29 #[.int .i64 n, lv] w (ShdP lv fl Ls N n w) := by
  rcases h with ⟨rfl, rfl, rfl⟩ | ⟨bl, rfl, hr⟩
  · have HSO := Lib.hid (some_nil w)
    have HSN := Lib.hid (shuf_nil N 0 (n : Int))
    have HL := Lib.hid (show (shuf [] 0 (n : Int)).length = n from (Rd.shuf_order (Ls := []) (N := 0) hn).1)
    have HSH := Lib.hid (fun b f W (hr : ProgLot W b f [] 0) => lotsOK.ok.shuffle b f [] 0 n W hr (by omega) (by omega))
    go_enter Try.func29, Try.ntmps29
    go_wp2_with fail
    refine HSO.out.mono ?_
    rintro e w1 ⟨b, f, rfl, hr1, hnew, hb1⟩
    have H1 := Lib.hid (HSH.out b f w1 hr1)
    have HW := Lib.hid hnew
    have B1 := Lib.hid hb1
    clear hr1 hnew hb1 HSO HSH
    go_wp2_with fail
    refine H1.out.mono ?_
    rintro e w2 ⟨v, f2, rfl, ho, hr, ht, hf, _⟩
    rw [HL.out] at ho
    obtain ⟨p, d, rfl, _, _, hA, _, _⟩ := own_at_s ho.row
    have HA := Lib.hid hA
    have B2 := Lib.hid (B1.out.trans (ht.below HW.out B1.out.size))
    clear ho hr ht hf hA H1 HW
    go_wp2_with fail
    refine (ivals_any p n d w2).mono ?_
    rintro e w3 ⟨rfl, rfl⟩
    have BA := Lib.hid (show Below w2.heap.size w2 (w2.alloc (.cells #[.slice p n d] 22)) from (Below.refl _ _).alloc (Nat.le_refl _) _)
    have HB := Lib.hid (show NdI p n d (shuf [] N n) w2.heap.size 0 (w2.alloc (.cells #[.slice p n d] 22)) from ⟨(Boxed.new w2 22 (.slice p n d)).cell, by rw [HSN.out]; exact HA.out.below BA.out⟩)
    generalize w2.alloc (.cells #[.slice p n d] 22) = w3 at *
    obtain ⟨Bs, hBs⟩ : ∃ B, B = w2.heap.size := ⟨_, rfl⟩
    rw [← hBs] at HB ⊢
    have HT := Lib.hid (B2.out.trans (BA.out.mono B2.out.size))
    clear hBs BA HA
    go_wp2_with fail
    go_ret
    exact ⟨Bs, p, d, [], rfl, HB.out, LArg.bare _ _ _, Touch.of_below HT.out, From.refl _ _⟩
  · have HSO := Lib.hid (some_obj bl fl Ls N w hr hN)
    have HL := Lib.hid (show (shuf Ls N (n : Int)).length = n from (Rd.shuf_order (Ls := Ls) (N := N) hn).1)
    have HSH := Lib.hid (fun f W (hr : ProgLot W bl f Ls N) => lotsOK.ok.shuffle bl f Ls N n W hr hN (by omega))
    clear hr
    go_enter Try.func29, Try.ntmps29
    go_wp2_with fail
    refine HSO.out.mono ?_
    rintro e w1 ⟨rfl, f1, hr1, ht1, hf1⟩
    have H1 := Lib.hid (HSH.out f1 w1 hr1)
    have HT1 := Lib.hid ht1
    have HF1 := Lib.hid hf1
    clear hr1 ht1 hf1 HSO HSH
    go_wp2_with fail
    refine H1.out.mono ?_
    rintro e w2 ⟨v, f2, rfl, ho, hr, ht, hf, _⟩
    rw [HL.out] at ho
    obtain ⟨p, d, rfl, _, _, hA, _, _⟩ := own_at_s ho.row
    have HA := Lib.hid hA
    have HR := Lib.hid hr
    have HT2 := Lib.hid (HT1.out.trans ht HF1.out)
    have HF2 := Lib.hid (HF1.out.trans hf HT1.out.size)
    clear ho hr ht hf hA H1 HT1 HF1
    go_wp2_with fail
    refine (ivals_any p n d w2).mono ?_
    rintro e w3 ⟨rfl, rfl⟩
    have BA := Lib.hid (show Below w2.heap.size w2 (w2.alloc (.cells #[.slice p n d] 22)) from (Below.refl _ _).alloc (Nat.le_refl _) _)
    have HB := Lib.hid (show NdI p n d (shuf Ls N n) w2.heap.size 0 (w2.alloc (.cells #[.slice p n d] 22)) from ⟨(Boxed.new w2 22 (.slice p n d)).cell, HA.out.below BA.out⟩)
    have HR3 := Lib.hid (lotsOK.ok.rep.on HR.out BA.out)
    have HT3 := Lib.hid (HT2.out.trans (Touch.of_below (fp := f2) BA.out) HF2.out)
    generalize w2.alloc (.cells #[.slice p n d] 22) = w3 at *
    obtain ⟨Bs, hBs⟩ : ∃ B, B = w2.heap.size := ⟨_, rfl⟩
    rw [← hBs] at HB ⊢
    clear hBs BA HA HR HT2
    go_wp2_with fail
    go_ret
    exact ⟨Bs, p, d, f2, rfl, HB.out, Or.inr ⟨bl, rfl, HR3.out⟩, HT3.out, HF2.out⟩
abbrev prt : TypeId := 52
theorem larg_keep {w w' : World} {lv : Value} {fl : List Nat} {Ls : List Int} {N : Nat} (h : LArg ProgLot w lv fl Ls N) (hk : ∀ k ∈ fl, w'.heap[k]? = w.heap[k]?) : LArg ProgLot w' lv fl Ls N := by
  rcases h with h | ⟨bl, h, hr⟩
  · exact Or.inl h
  · exact Or.inr ⟨bl, h, hr.keep hk⟩
theorem larg_low {w : World} {lv : Value} {fl : List Nat} {Ls : List Int} {N : Nat} (h : LArg ProgLot w lv fl Ls N) : ∀ k ∈ fl, k < w.heap.size := by
  rcases h with ⟨_, rfl, _⟩ | ⟨bl, h, hr⟩
  · intro k hk; simp at hk
  · exact hr.low
theorem larg_on {w w' : World} {lv : Value} {fl : List Nat} {Ls : List Int} {N : Nat} (h : LArg ProgLot w lv fl Ls N) (hb : Below w.heap.size w w') : LArg ProgLot w' lv fl Ls N := larg_keep h fun k hk => hb.block k (larg_low h k hk)
/-- The round's cells, and its row. -/
structure PRaw (w : World) (b : Nat) (fp : List Nat) (L : List Int) (t : Nat) (v : Value) : Prop where
  fps : fp = b :: v.ownBlock.toList
  blk : Blk w b [optr b, v, v64 t] prt
  row : w.ownsRow 0 it 1 v L.length (L.map v64)
  ne : v.ownBlock ≠ some b
def PRep : PRepT := fun w b fp s => (∃ v, PRaw w b fp s.L s.t v) ∧ Rd.OK s
section
variable {w w' : World} {b : Nat} {fp : List Nat} {L : List Int} {t : Nat} {v : Value} {s : Rd.St}
theorem PRaw.low (h : PRaw w b fp L t v) : ∀ k ∈ fp, k < w.heap.size := fun k hk => by
  rw [h.fps] at hk
  rcases List.mem_cons.1 hk with rfl | hk
  · exact h.blk.lt
  · exact (own_base_w h.row k (by simpa using hk)).2
theorem PRaw.keep (h : PRaw w b fp L t v) (hk : ∀ k ∈ fp, w'.heap[k]? = w.heap[k]?) : PRaw w' b fp L t v :=
  ⟨h.fps, (hk b (by rw [h.fps]; simp)).trans h.blk, ownsRow_keepR h.row fun g e => hk g (by rw [h.fps, e]; simp), h.ne⟩
theorem PRaw.on (h : PRaw w b fp L t v) (hb : Below w.heap.size w w') : PRaw w' b fp L t v := h.keep fun k hk => hb.block k (h.low k hk)
theorem PRaw.mem (h : PRaw w b fp L t v) : b ∈ fp := by rw [h.fps]; simp
theorem prHeld : Held PRep where
  low := fun h => by obtain ⟨⟨v, hr⟩, _⟩ := h; exact hr.low
  keep := fun h hk => by obtain ⟨⟨v, hr⟩, ho⟩ := h; exact ⟨⟨v, hr.keep hk⟩, ho⟩
theorem PRaw.cells (h : PRaw w b fp L t v) : ∃ q c, v = .slice q L.length c ∧ Blk w b [optr b, .slice q L.length c, v64 t] prt ∧ At w q (L.map v64) ∧ L.length ≤ c ∧ c ≤ maxLen ∧ (q = none → c = 0) := by
  obtain ⟨q, c, hv, l1, l2, hA, _, hn⟩ := own_at_s h.row
  exact ⟨q, c, hv, by have := h.blk; rwa [hv] at this, hA, l1, l2, hn⟩
theorem PRaw.told (h : PRaw w b fp L t v) (t' : Nat) : PRaw (w.setCell ⟨b, 2, none⟩ (v64 t')) b fp L t' v ∧ Touch fp w (w.setCell ⟨b, 2, none⟩ (v64 t')) :=
  ⟨⟨h.fps, h.blk.set 2 _, ownsRow_keepR h.row fun g e => Below.heap_setCell _ _ _ _ (fun e2 => h.ne (by rw [← show g = b from e2]; exact e)), h.ne⟩, Touch.setCell h.mem⟩
/-- The row stored anew. -/
theorem PRaw.stored {w5 : World} {n : Nat} {Q : List Int} {v6 : Value} (h : PRaw w b fp L t v) (B5 : Below w.heap.size w w5) (O5 : w5.ownsRow w.heap.size it 1 v6 n (Q.map v64)) (hn : Q.length = n) :
    ∃ fp', PRaw (w5.setCell ⟨b, 1, none⟩ v6) b fp' Q t v6 ∧ Touch fp w (w5.setCell ⟨b, 1, none⟩ v6) ∧ From fp fp' w := by
  have h5 := own_base_w O5
  have hlt := h.blk.lt
  subst hn
  refine ⟨b :: v6.ownBlock.toList, ⟨rfl, (h.blk.upon B5).set 1 _, ownsRow_keepR (own_lessR O5 (Nat.zero_le _)) fun g e => Below.heap_setCell _ _ _ _ (fun e2 => by have e2 : g = b := e2; have := (h5 g e).1; omega), fun e => by have := (h5 b e).1; omega⟩, (Touch.of_below B5).setIn h.mem v6, fun k hk => ?_⟩
  rcases List.mem_cons.1 hk with rfl | hk
  · exact .inl h.mem
  · exact .inr (h5 k (by simpa using hk)).1
end
/-- A round and lots, apart; what a call has touched. -/
structure PLx (w0 w : World) (f0 : List Nat) (b : Nat) (fp : List Nat) (L : List Int) (t : Nat) (v : Value) (lv : Value) (fl : List Nat) (Ls : List Int) (N : Nat) : Prop where
  rr : PRaw w b fp L t v
  lt : LArg ProgLot w lv fl Ls N
  ap : Apart fp fl
  touch : Touch f0 w0 w
  from_ : From f0 (fp ++ fl) w0
section
variable {w0 w w' : World} {f0 fp fl fl' : List Nat} {b t N N' : Nat} {L Ls Q : List Int} {v v6 lv : Value}
theorem PLx.start (hr : PRaw w b fp L t v) (hl : LArg ProgLot w lv fl Ls N) (ha : Apart fp fl) : PLx w w (fp ++ fl) b fp L t v lv fl Ls N := ⟨hr, hl, ha, Touch.refl _ _, From.refl _ _⟩
theorem PLx.on (h : PLx w0 w f0 b fp L t v lv fl Ls N) (hb : Below w.heap.size w w') : PLx w0 w' f0 b fp L t v lv fl Ls N :=
  ⟨h.rr.on hb, larg_on h.lt hb, h.ap, h.touch.trans (Touch.of_below (fp := f0) hb) (From.refl _ _), h.from_⟩
theorem PLx.lots (h : PLx w0 w f0 b fp L t v lv fl Ls N) (hl : LArg ProgLot w' lv fl' Ls N') (ht : Touch fl w w') (hf : From fl fl' w) : PLx w0 w' f0 b fp L t v lv fl' Ls N' := by
  refine ⟨h.rr.keep (ht.keep h.ap.symm h.rr.low), hl, fun k a c => ?_, h.touch.trans ht fun k hk => h.from_ k (List.mem_append.2 (.inr hk)), fun k hk => ?_⟩
  · rcases hf k c with h1 | h1
    · exact h.ap k a h1
    · have := h.rr.low k a; omega
  · rcases List.mem_append.1 hk with h1 | h1
    · exact h.from_ k (List.mem_append.2 (.inl h1))
    · rcases hf k h1 with h2 | h2
      · exact h.from_ k (List.mem_append.2 (.inr h2))
      · exact .inr (Nat.le_trans h.touch.size h2)
theorem PLx.setB (h : PLx w0 w f0 b fp L t v lv fl Ls N) (i : Nat) (x : Value) : LArg ProgLot (w.setCell ⟨b, i, none⟩ x) lv fl Ls N ∧ Touch f0 w0 (w.setCell ⟨b, i, none⟩ x) :=
  ⟨larg_keep h.lt fun k hk => Below.heap_setCell _ _ _ _ (fun e => h.ap b h.rr.mem ((show k = b from e) ▸ hk)), h.touch.trans (Touch.setCell (fp := [b]) (by simp)) fun k hk => by rw [List.mem_singleton.1 hk]; exact h.from_ b (List.mem_append.2 (.inl h.rr.mem))⟩
theorem PLx.row (h : PLx w0 w f0 b fp L t v lv fl Ls N) {n B : Nat} (O : w.ownsRow B it 1 v6 n (Q.map v64)) (hn : Q.length = n) (hB : ∀ k ∈ fp, k < B) (hB0 : w0.heap.size ≤ B) (hg : ∀ g, v6.ownBlock = some g → g ∉ fl) : PLx w0 (w.setCell ⟨b, 1, none⟩ v6) f0 b (b :: v6.ownBlock.toList) Q t v6 lv fl Ls N := by
  obtain ⟨h1, h2⟩ := h.setB 1 v6
  have h5 := own_base_w O
  have hb := hB b h.rr.mem
  subst hn
  refine ⟨⟨rfl, h.rr.blk.set 1 _, ownsRow_keepR (own_lessR O (Nat.zero_le _)) fun g e => Below.heap_setCell _ _ _ _ (fun e2 => by have e2 : g = b := e2; have := (h5 g e).1; omega), fun e => by have := (h5 b e).1; omega⟩, h1, fun k a c => ?_, h2, fun k hk => ?_⟩
  · rcases List.mem_cons.1 a with rfl | a
    · exact h.ap k h.rr.mem c
    · exact hg k (by simpa using a) c
  · rcases List.mem_append.1 hk with h3 | h3
    · rcases List.mem_cons.1 h3 with rfl | h3
      · exact h.from_ k (List.mem_append.2 (.inl h.rr.mem))
      · exact .inr (Nat.le_trans hB0 (h5 k (by simpa using h3)).1)
    · exact h.from_ k (List.mem_append.2 (.inr h3))
theorem PLx.tell (h : PLx w0 w f0 b fp L t v lv fl Ls N) (t' : Nat) : PLx w0 (w.setCell ⟨b, 2, none⟩ (v64 t')) f0 b fp L t' v lv fl Ls N := by
  obtain ⟨h1, h2⟩ := h.setB 2 (v64 t')
  exact ⟨(h.rr.told t').1, h1, h.ap, h2, h.from_⟩
end
/-- A call on a round with lots. -/
def PLDone (b : Nat) (fp : List Nat) (lv : Value) (fl : List Nat) (Ls : List Int) (s' : Rd.St) (N' : Nat) (v : Value) (w : World) (e : Ending) (w' : World) : Prop :=
  e = .returned v ∧ ∃ fp' fl', PRep w' b fp' s' ∧ LArg ProgLot w' lv fl' Ls N' ∧ Apart fp' fl' ∧ Touch (fp ++ fl) w w' ∧ From (fp ++ fl) (fp' ++ fl') w
theorem PLx.done {w w' : World} {fp fp' fl fl' : List Nat} {b N' : Nat} {Ls : List Int} {s' : Rd.St} {v u lv : Value} (h : PLx w w' (fp ++ fl) b fp' s'.L s'.t v lv fl' Ls N') (ho : Rd.OK s') : PLDone b fp lv fl Ls s' N' u w (.returned u) w' :=
  ⟨rfl, fp', fl', ⟨⟨v, h.rr⟩, ho⟩, h.lt, h.ap, h.touch, h.from_⟩
theorem PRaw.grew {w w' : World} {b t n : Nat} {fp : List Nat} {L Q : List Int} {v v' : Value} (h : PRaw w b fp L t v) (hg : w.grownBy w' v.ownBlock) (O : w'.ownsRow 0 it 1 v' n (Q.map v64)) (hn : Q.length = n) (hb : ∀ g, v'.ownBlock = some g → v.ownBlock = some g ∨ w.heap.size ≤ g) : PRaw (w'.setCell ⟨b, 1, none⟩ v') b (b :: v'.ownBlock.toList) Q t v' := by
  subst hn
  have hne : v'.ownBlock ≠ some b := fun e => by
    rcases hb b e with h1 | h1
    · exact h.ne h1
    · have := h.blk.lt; omega
  have hk : Blk w' b [optr b, v, v64 t] prt := (hg.block b h.blk.lt (fun e => h.ne e.symm)).trans h.blk
  exact ⟨rfl, hk.set 1 _, ownsRow_keepR O fun g e => Below.heap_setCell _ _ _ _ (fun e2 => hne (by rw [← show g = b from e2]; exact e)), hne⟩
theorem PLx.pdone {w w' : World} {fp fp' fl fl' : List Nat} {b N' : Nat} {Ls : List Int} {s' : Rd.St} {v u lv : Value} (h : PLx w w' (fp ++ fl) b fp' s'.L s'.t v lv fl' Ls N') (ho : Rd.OK s') : PbDone PRep ProgLot b fp lv fl Ls s' N' u w (.returned u) w' :=
  ⟨rfl, fp', fl', ⟨⟨v, h.rr⟩, ho⟩, h.lt, h.ap, h.touch, h.from_⟩
theorem pn64_at {L : List Int} {k : Nat} (hk : k < L.length) : (L.map v64)[k]? = some (v64 L[k]) := by rw [List.getElem?_map, List.getElem?_eq_getElem hk]; rfl
theorem info_round : ∃ j, Try.prog.info? 52 = some j := by
  have h : (Try.prog.info? 52).isSome = true := by kernel_rfl
  exact Option.isSome_iff_exists.1 h
theorem rnone_any (b : Nat) (vs : List Value) (w : World) (h : Blk w b (optr b :: vs) prt) : Calls Try.prog 35 #[optr b] w fun e w' => e = .returned (.bool false) ∧ w' = w := by
  have c0 : w.cell? ⟨b, 0, none⟩ = some (optr b) := h.cell 0
  obtain ⟨j, hj⟩ := info_round
  have hq := Go.Proofs.Ytfoomffbjjcjjaa.run_neq_ptr_same (P := Try.prog) ⟨b, 0, none⟩ Try.underlying33 hj
  clear h
  go_enter Try.func35, Try.ntmps35
  go_wp2_with fail
  go_ret
  exact ⟨rfl, rfl⟩
theorem rtold_any (b : Nat) (fp : List Nat) (s : Rd.St) (w : World) (h : PRep w b fp s) : Calls Try.prog 18 #[optr b] w fun e w' => e = .returned (v64 s.t) ∧ Below w.heap.size w w' := by
  obtain ⟨⟨v, hr⟩, _⟩ := h
  have c2 : w.cell? ⟨b, 2, none⟩ = some (v64 s.t) := hr.blk.cell 2
  have HN := Lib.hid (rnone_any b _ w hr.blk)
  generalize s.t = t at *
  clear hr
  go_enter Try.func18, Try.ntmps18
  go_wp2_with fail
  refine HN.out.mono ?_
  rintro e w' ⟨rfl, hw⟩
  obtain rfl := hw.symm
  go_wp2_with fail
  go_ret
  exact ⟨rfl, Below.refl _ _⟩
theorem run_nilI (w : World) (p : Option Addr) (n c : Nat) : (binOp .eql 22 (.slice p n c) (.slice none 0 0)).run Try.prog w = .ok (.bool p.isNone) w := Lib.run_eql_slice_nil w _ _ p n c 0 0 Try.underlying22
section
attribute [local go_sem ↓] execOp_sliceI execOp_buildI
set_option maxRecDepth 100000 in
set_option maxHeartbeats 4000000 in
theorem cloneI_any (l : List Int) (n : Nat) (q : Option Addr) (c : Nat) (w : World) (hn : l.length = n) (hA : At w q (l.map v64)) (b1 : n ≤ c) (b2 : c ≤ maxLen) (hq : q = none → c = 0) (hs : n ≤ 100000) :
    Calls Try.prog 36 #[.slice q n c] w fun e w' => ∃ v, e = .returned v ∧ Own64 w' w.heap.size it v n (l.map v64) ∧ Below w.heap.size w w' := by
  have HA := Lib.hid hA
  have HN := Lib.hid hn
  have HQ := Lib.hid hq
  unfold maxLen at b2
  have qn := fun w n c => run_nilI w q n c
  cases q with
  | none =>
    obtain rfl : c = 0 := hq rfl
    obtain rfl : n = 0 := by omega
    obtain rfl : l = [] := List.eq_nil_of_length_eq_zero hn
    clear hA hn hq HA HN HQ
    go_enter Try.func36, Try.ntmps36
    go_wp2_with fail
    go_ret
    exact ⟨_, rfl, Own64.nil _ _ _, Below.refl _ _⟩
  | some a =>
    clear hA hn hq
    have c0 := run_buildI0 w
    have O0 : Own64 (w.alloc (.cells #[] it)) w.heap.size it (.slice (some ⟨w.heap.size, 0, none⟩) 0 0) 0 [] := ⟨own_emptyI w w.heap.size (Nat.le_refl _), ints64_block (heap_alloc_new w _) (by intro u hu; simp at hu)⟩
    have BA := Lib.hid (show Below w.heap.size w (w.alloc (.cells #[] it)) from (Below.refl _ _).alloc (Nat.le_refl _) _)
    have LA := HA.out.below BA.out
    have HO0 := Lib.hid O0
    clear O0
    generalize w.alloc (.cells #[] it) = wa at *
    go_enter Try.func36, Try.ntmps36
    go_wp2_with (at_builtin; refine wpList_app64 rfl _ _ 22 rfl w.heap.size it Try.underlying22 knum_info _ 0 [] rfl HO0.out (some a) n c (l.map v64) rfl LA (by rw [List.length_map, HN.out]) HQ.out b1 (ints64_map l) (by omega) (by unfold maxLen; omega) BA.out.size ?_; intro v1 w7 hv1 _ hb1 _; (have B7 := Lib.hid (BA.out.trans hb1)); rw [Nat.zero_add, List.nil_append] at hv1; (have H1 := Lib.hid hv1); clear hv1 hb1)
    go_ret
    exact ⟨_, rfl, H1.out, B7.out⟩
theorem rorder_any (b : Nat) (fp : List Nat) (s : Rd.St) (w : World) (h : PRep w b fp s) : Calls Try.prog 17 #[optr b] w (PbOrder s.L w) := by
  obtain ⟨⟨v, hr⟩, hok⟩ := h
  have hl := hok.len
  obtain ⟨q, c, rfl, hb, hA, l1, l2, hq⟩ := hr.cells
  have c1 : w.cell? ⟨b, 1, none⟩ = some (.slice q s.L.length c) := hb.cell 1
  have HN := Lib.hid (rnone_any b _ w hb)
  have HC := Lib.hid (cloneI_any s.L s.L.length q c w rfl hA l1 l2 hq (by omega))
  obtain ⟨L, t⟩ := s
  dsimp only at *
  unfold PbOrder
  generalize L.length = n at *
  clear hr hb hA hq hok
  go_enter Try.func17, Try.ntmps17
  go_wp2_with fail
  refine HN.out.mono ?_
  rintro e w' ⟨rfl, hw⟩
  obtain rfl := hw.symm
  go_wp2_with fail
  refine HC.out.mono ?_
  rintro e w2 ⟨v, rfl, ho, hb⟩
  have HO := Lib.hid ho
  have HB := Lib.hid hb
  clear ho hb
  go_wp2_with fail
  go_ret
  exact ⟨v, rfl, HO.out, HB.out⟩
end
end Go.Proofs.Ytfoomffbjjcjjaa
