/-
  The reference's round (written by mkrpa14.py): how it lies, where a node stands, one taken out.
-/
import Derived.Test.YtfoomffbjjcjjaaSlcN
import Derived.Test.YtfoomffbjjcjjaaRd
import Derived.Test.YtfoomffbjjcjjaaHeldZ
import Derived.BigQuiet
import Derived.Deep.QuietTactic
namespace Go.Proofs.Ytfoomffbjjcjjaa
set_option linter.unusedSimpArgs false
set_option linter.unusedVariables false
open Go.RowKit Sha
abbrev rrt : TypeId := 46
abbrev RRepT := ObjRep Rd.St
/-- The round's two cells, and its row. -/
structure RRaw (w : World) (b : Nat) (fp : List Nat) (L : List Int) (t : Nat) (v : Value) : Prop where
  fps : fp = b :: v.ownBlock.toList
  blk : Blk w b [v, v64 t] rrt
  row : w.ownsRow 0 it 1 v L.length (L.map v64)
  ne : v.ownBlock ≠ some b
def RRep : RRepT := fun w b fp s => (∃ v, RRaw w b fp s.L s.t v) ∧ Rd.OK s
section
variable {w w' : World} {b : Nat} {fp : List Nat} {L : List Int} {t : Nat} {v : Value} {s : Rd.St}
theorem RRaw.low (h : RRaw w b fp L t v) : ∀ k ∈ fp, k < w.heap.size := fun k hk => by
  rw [h.fps] at hk
  rcases List.mem_cons.1 hk with rfl | hk
  · exact h.blk.lt
  · exact (own_base_w h.row k (by simpa using hk)).2
theorem RRaw.keep (h : RRaw w b fp L t v) (hk : ∀ k ∈ fp, w'.heap[k]? = w.heap[k]?) : RRaw w' b fp L t v :=
  ⟨h.fps, (hk b (by rw [h.fps]; simp)).trans h.blk, ownsRow_keepR h.row fun g e => hk g (by rw [h.fps, e]; simp), h.ne⟩
theorem RRaw.on (h : RRaw w b fp L t v) (hb : Below w.heap.size w w') : RRaw w' b fp L t v := h.keep fun k hk => hb.block k (h.low k hk)
theorem RRaw.mem (h : RRaw w b fp L t v) : b ∈ fp := by rw [h.fps]; simp
theorem rrHeld : Held RRep where
  low := fun h => by obtain ⟨⟨v, hr⟩, _⟩ := h; exact hr.low
  keep := fun h hk => by obtain ⟨⟨v, hr⟩, ho⟩ := h; exact ⟨⟨v, hr.keep hk⟩, ho⟩
theorem RRaw.cells (h : RRaw w b fp L t v) : ∃ q c, v = .slice q L.length c ∧ Blk w b [.slice q L.length c, v64 t] rrt ∧ At w q (L.map v64) ∧ L.length ≤ c ∧ c ≤ maxLen ∧ (q = none → c = 0) := by
  obtain ⟨q, c, hv, l1, l2, hA, _, hn⟩ := own_at_s h.row
  exact ⟨q, c, hv, by have := h.blk; rwa [hv] at this, hA, l1, l2, hn⟩
theorem RRaw.told (h : RRaw w b fp L t v) (t' : Nat) : RRaw (w.setCell ⟨b, 1, none⟩ (v64 t')) b fp L t' v ∧ Touch fp w (w.setCell ⟨b, 1, none⟩ (v64 t')) :=
  ⟨⟨h.fps, h.blk.set 1 _, ownsRow_keepR h.row fun g e => Below.heap_setCell _ _ _ _ (fun e2 => h.ne (by rw [← show g = b from e2]; exact e)), h.ne⟩, Touch.setCell h.mem⟩
/-- The row stored anew. -/
theorem RRaw.stored {w5 : World} {n : Nat} {Q : List Int} {v6 : Value} (h : RRaw w b fp L t v) (B5 : Below w.heap.size w w5) (O5 : w5.ownsRow w.heap.size it 1 v6 n (Q.map v64)) (hn : Q.length = n) :
    ∃ fp', RRaw (w5.setCell ⟨b, 0, none⟩ v6) b fp' Q t v6 ∧ Touch fp w (w5.setCell ⟨b, 0, none⟩ v6) ∧ From fp fp' w := by
  have h5 := own_base_w O5
  have hlt := h.blk.lt
  subst hn
  refine ⟨b :: v6.ownBlock.toList, ⟨rfl, (h.blk.upon B5).set 0 _, ownsRow_keepR (own_lessR O5 (Nat.zero_le _)) fun g e => Below.heap_setCell _ _ _ _ (fun e2 => by have e2 : g = b := e2; have := (h5 g e).1; omega), fun e => by have := (h5 b e).1; omega⟩, (Touch.of_below B5).setIn h.mem v6, fun k hk => ?_⟩
  rcases List.mem_cons.1 hk with rfl | hk
  · exact .inl h.mem
  · exact .inr (h5 k (by simpa using hk)).1
end
theorem n64_at {L : List Int} {k : Nat} (hk : k < L.length) : (L.map v64)[k]? = some (v64 L[k]) := by rw [List.getElem?_map, List.getElem?_eq_getElem hk]; rfl
theorem one64 (l : List Int) : ∀ u ∈ l.map v64, u.oneCell' = true := fun u hu => by obtain ⟨n, _, rfl⟩ := List.mem_map.1 hu; rfl
section
attribute [local go_sem ↓] execOp_sliceI execOp_buildI
set_option maxHeartbeats 1000000 in
theorem rat_any (b : Nat) (fp : List Nat) (L : List Int) (t : Nat) (v : Value) (n : Int) (w : World) (h : RRaw w b fp L t v) (hs : L.length ≤ 1000) :
    Calls Try.prog 30 #[optr b, v64 n] w fun e w' => e = .returned (v64 (Rd.idx L n)) ∧ w' = w := by
  obtain ⟨q, c, rfl, hb, hA, l1, l2, _⟩ := h.cells
  unfold maxLen at l2
  have c0 : w.cell? ⟨b, 0, none⟩ = some (.slice q L.length c) := hb.cell 0
  obtain ⟨m, hm⟩ : ∃ m, m = L.length := ⟨_, rfl⟩
  rw [← hm] at c0 l1 hs
  have HM := Lib.hid hm
  have HA := Lib.hid (show ∀ k (hk : k < L.length), ∃ g off, q = some ⟨g, off, none⟩ ∧ w.cell? ⟨g, off + k, none⟩ = some (v64 L[k]) from fun k hk => by
    obtain ⟨g, off, hq, hc⟩ := hA.addr (by rw [List.length_map]; omega)
    exact ⟨g, off, hq, hc k _ (n64_at hk)⟩)
  clear h hb hA hm
  go_enter Try.func30, Try.ntmps30
  go_wp2_with fail
  go_loop [5] (fun iv => ∃ i : Nat, iv = .int .i64 i ∧ i ≤ m ∧ Hid (∀ j (hj : j < L.length), j < i → L[j] ≠ n)) (fun iv => m - (intOf iv).toNat)
  case atStart => exact ⟨0, rfl, by omega, Lib.hid (fun j hj h => by omega)⟩
  case round =>
    obtain ⟨i, rfl, hi, HB⟩ := hrel
    by_cases hlt : i < m
    · have hil : i < L.length := by rw [← HM.out]; exact hlt
      obtain ⟨g, off, rfl, c1⟩ := HA.out i hil
      have jn : (0 : Int) ≤ (i : Int) ∧ (i : Int) < (m : Int) := by omega
      by_cases he : L[i] = n
      · have t1 : (L[i] == n) = true := by rw [he]; simp
        have HV := Lib.hid (show Rd.idx L n = (i : Int) from by
          have h1 := Rd.at_of hil he (fun j hj => HB.out j (by omega) hj)
          unfold Rd.idx; rw [h1, if_pos hil])
        generalize L[i] = x at *
        clear he
        go_wp2_with fail
        go_ret
        exact ⟨by rw [HV.out]; rfl, rfl⟩
      · have t1 : (L[i] == n) = false := by rw [beq_eq_false_iff_ne]; exact he
        have HB2 := Lib.hid (show ∀ j (hj : j < L.length), j < i + 1 → L[j] ≠ n from fun j hj h1 => by
          rcases Nat.lt_succ_iff_lt_or_eq.1 h1 with h2 | h2
          · exact HB.out j hj h2
          · subst h2; exact he)
        generalize L[i] = x at *
        clear he HB
        go_wp2_with fail
        go_round
        case rel => exact ⟨i + 1, by go_num, by omega, HB2⟩
        case measure => simp [intOf]; omega
    · have HV := Lib.hid (show Rd.idx L n = -1 from if_neg (Rd.at_none fun j hj => HB.out j hj (by rw [← HM.out] at hj; omega)))
      go_wp2_with fail
      go_ret
      exact ⟨by rw [HV.out]; rfl, rfl⟩
set_option maxRecDepth 100000 in
set_option maxHeartbeats 8000000 in
theorem rrem_any (b : Nat) (fp : List Nat) (s : Rd.St) (x : Int) (w : World) (h : RRep w b fp s) :
    Calls Try.prog 34 #[optr b, v64 x] w (ODone RRep b fp (Rd.remS s x) (v64 (Rd.remE s x)) w) := by
  obtain ⟨⟨v, hr⟩, hok⟩ := h
  have HOK := Lib.hid (Rd.rem_OK hok x)
  have hs : s.L.length ≤ 1000 := Nat.le_trans hok.len (by omega)
  have htl := hok.told
  have htn : s.t ≤ 64 := Nat.le_trans hok.told hok.len
  have HAT := Lib.hid (rat_any b fp s.L s.t v x w hr hs)
  have R := Lib.hid hr
  clear hr
  obtain ⟨L, t⟩ := s
  dsimp only at hs htl htn HAT R
  by_cases hl : Rd.at_ L x < L.length
  · obtain ⟨k, hk⟩ : ∃ k, k = Rd.at_ L x := ⟨_, rfl⟩
    have hkl : k < L.length := by rw [hk]; exact hl
    have HIX := Lib.hid (show Rd.idx L x = (k : Int) from by rw [hk]; exact if_pos hl)
    rw [HIX.out] at HAT
    have tk : decide ((k : Int) < 0) = false := decide_eq_false (by omega)
    have hE : Rd.remE ⟨L, t⟩ x = 0 := if_pos hl
    have hS : Rd.remS ⟨L, t⟩ x = ⟨L.eraseIdx k, if k < t then t - 1 else t⟩ := by rw [hk]; exact if_pos hl
    rw [hS] at HOK ⊢
    rw [hE]
    clear hok hl hk hS hE
    by_cases hkt : k < t
    · have t2 : decide ((k : Int) < (t : Int)) = true := decide_eq_true (by omega)
      have t2' : decide (k < t) = true := decide_eq_true hkt
      rw [if_pos hkt] at HOK ⊢
      have i2 : IntKind.i64.wrap ((t : Int) - 1) = ((t - 1 : Nat) : Int) := by rw [IntWalk.i64_in _ (by omega)]; omega
      obtain ⟨hR2, hT2⟩ := R.out.told (t - 1)
      have DONE := Lib.hid (fun W fp' v' (hr : RRaw W b fp' (L.eraseIdx k) (t - 1) v') (ht : Touch fp (w.setCell ⟨b, 1, none⟩ (v64 ((t - 1 : Nat) : Int))) W) (hf : From fp fp' (w.setCell ⟨b, 1, none⟩ (v64 ((t - 1 : Nat) : Int)))) => (show ODone RRep b fp ⟨L.eraseIdx k, t - 1⟩ (v64 0) w (.returned (v64 0)) W from ⟨rfl, fp', ⟨⟨v', hr⟩, HOK.out⟩, hT2.trans ht (From.refl _ _), fun k hk => (hf k hk).imp id fun h => Nat.le_trans hT2.size h⟩))
      have hc1 : w.cell? ⟨b, 1, none⟩ = some (v64 t) := R.out.blk.cell 1
      have hf1 : w.frozen? ⟨b, 1, none⟩ = false := R.out.blk.free 1
      have R := Lib.hid hR2
      generalize t - 1 = t' at *
      clear hR2 hT2 hkt
      obtain ⟨wt, hwt⟩ : ∃ y, y = w.setCell ⟨b, 1, none⟩ (v64 (t' : Int)) := ⟨_, rfl⟩
      rw [← hwt] at R DONE
      have e5 : w.setCell ⟨b, 1, none⟩ (.int .i64 (t' : Int)) = wt := hwt.symm
      clear hwt
      go_enter Try.func34, Try.ntmps34
      go_wp2_with fail
      refine HAT.out.mono ?_
      rintro e w1 ⟨rfl, hw1⟩
      obtain rfl := hw1.symm
      clear hw1
      obtain ⟨qT, cT, rfl, hb, hAT, l3, l4, nT⟩ := R.out.cells
      obtain ⟨n, hn⟩ : ∃ n, n = L.length := ⟨_, rfl⟩
      have hlT : (L.map v64).length = n * 1 := by rw [List.length_map, hn, Nat.mul_one]
      rw [← hn] at hb l3 hkl hs
      have HLN := Lib.hid (show (L.eraseIdx k).length = n - 1 by rw [List.length_eraseIdx, if_pos (by omega)]; omega)
      have HB := Lib.hid hb
      unfold maxLen at l4
      have kT1 := fun W => run_sliceOp (run_cutS_h (P := Try.prog) Try.underlying22 isize qT n cT k (by omega) W)
      have kT2 := fun W => run_sliceOp (run_cutS_l (P := Try.prog) Try.underlying22 isize qT n cT (k + 1) (by omega) l3 W)
      have HA3 := Lib.hid (at_first hAT k)
      have HA4 := Lib.hid (show At wt (if cT = k + 1 then qT else qT.map (·.add ((k + 1) * 1))) ((L.map v64).drop (k + 1)) from by have := at_rest hAT hlT (show k + 1 ≤ n by omega) l3; rwa [Nat.mul_one (k + 1)] at this ⊢)
      have HN4 := Lib.hid (rest_nil (k := k + 1) (s := 1) (n := n) nT)
      have HN3 := Lib.hid nT
      have HNN := Lib.hid (show 0 + k + (n - (k + 1)) = n - 1 by omega)
      have HE3 := Lib.hid (show ((L.map v64).take k).length = k * 1 by rw [List.length_take, List.length_map, ← hn]; omega)
      have HE4 := Lib.hid (show ((L.map v64).drop (k + 1)).length = (n - (k + 1)) * 1 by rw [List.length_drop, List.length_map, ← hn]; omega)
      have HER := Lib.hid (show (L.map v64).take k ++ (L.map v64).drop (k + 1) = (L.eraseIdx k).map v64 from by rw [List.eraseIdx_eq_take_drop_succ, List.map_append, List.map_take, List.map_drop])
      have e1 : ((k + 1 : Nat) : Int) = (k : Int) + 1 := by omega
      rw [e1] at kT2
      generalize (if cT = k + 1 then qT else qT.map (·.add ((k + 1) * 1))) = q4 at *
      have i1 : IntKind.i64.wrap ((k : Int) + 1) = (k : Int) + 1 := IntWalk.i64_in _ (by omega)
      have HS := Lib.hid (fun W (hb2 : Below wt.heap.size wt W) => (show W.cell? ⟨b, 0, none⟩ = some (.slice qT n cT) ∧ True from ⟨(HB.out.upon hb2).cell 0, trivial⟩))
      clear hb hAT hlT nT hn e1
      go_wp2_with fail
      refine wp_region_Z 19 (S := (fun w' => w'.cell? ⟨b, 0, none⟩ = some (.slice qT n cT) ∧ True)) (by kernel_rfl) (HS.out _ ((Below.refl _ _).drew)) (fun hHeld hInv => ?_)
      refine z_take 0 (by kernel_rfl) (v := ?v1) (by kernel_rfl) (by kernel_rfl) (by kernel_rfl) (by kernel_rfl) (fun _ _ _ h => h) (by rfl) ?y1 (by assumption) (by assumption) ?r1
      case y1 => (intro w hSw; (try dsimp only at hSw); (obtain ⟨hSa, hSb⟩ := hSw); simp only [List.getElem_cons_succ, List.getElem_cons_zero]; go_simp; (try with_reducible rfl))
      clear hInv; intro hInv
      try simp only [List.getElem_cons_succ, List.getElem_cons_zero, Act.put, List.setIfInBounds_toArray, List.set_cons_zero, List.set_cons_succ]
      refine z_take 2 (by kernel_rfl) (v := ?v2) (by kernel_rfl) (by kernel_rfl) (by kernel_rfl) (by kernel_rfl) (fun _ _ _ h => h) (by rfl) ?y2 (by assumption) (by assumption) ?r2
      case y2 => (intro w hSw; (try dsimp only at hSw); (obtain ⟨hSa, hSb⟩ := hSw); simp only [List.getElem_cons_succ, List.getElem_cons_zero]; go_simp; (try with_reducible rfl))
      clear hInv; intro hInv
      try simp only [List.getElem_cons_succ, List.getElem_cons_zero, Act.put, List.setIfInBounds_toArray, List.set_cons_zero, List.set_cons_succ]
      refine z_take 3 (by kernel_rfl) (v := ?v3) (by kernel_rfl) (by kernel_rfl) (by kernel_rfl) (by kernel_rfl) (fun _ _ _ h => h) (by rfl) ?y3 (by assumption) (by assumption) ?r3
      case y3 => (intro w hSw; (try dsimp only at hSw); (obtain ⟨hSa, hSb⟩ := hSw); simp only [List.getElem_cons_succ, List.getElem_cons_zero]; go_simp; (try with_reducible rfl))
      clear hInv; intro hInv
      try simp only [List.getElem_cons_succ, List.getElem_cons_zero, Act.put, List.setIfInBounds_toArray, List.set_cons_zero, List.set_cons_succ]
      refine z_take 4 (by kernel_rfl) (v := ?v4) (by kernel_rfl) (by kernel_rfl) (by kernel_rfl) (by kernel_rfl) (fun _ _ _ h => h) (by rfl) ?y4 (by assumption) (by assumption) ?r4
      case y4 => (intro w hSw; (try dsimp only at hSw); (obtain ⟨hSa, hSb⟩ := hSw); simp only [List.getElem_cons_succ, List.getElem_cons_zero]; go_simp; (try with_reducible rfl))
      clear hInv; intro hInv
      try simp only [List.getElem_cons_succ, List.getElem_cons_zero, Act.put, List.setIfInBounds_toArray, List.set_cons_zero, List.set_cons_succ]
      refine z_take 5 (by kernel_rfl) (v := ?v5) (by kernel_rfl) (by kernel_rfl) (by kernel_rfl) (by kernel_rfl) (fun _ _ _ h => h) (by rfl) ?y5 (by assumption) (by assumption) ?r5
      case y5 => (intro w hSw; (try dsimp only at hSw); (obtain ⟨hSa, hSb⟩ := hSw); simp only [List.getElem_cons_succ, List.getElem_cons_zero]; go_simp; (try with_reducible rfl))
      clear hInv; intro hInv
      try simp only [List.getElem_cons_succ, List.getElem_cons_zero, Act.put, List.setIfInBounds_toArray, List.set_cons_zero, List.set_cons_succ]
      refine z_take 6 (by kernel_rfl) (v := ?v6) (by kernel_rfl) (by kernel_rfl) (by kernel_rfl) (by kernel_rfl) (fun _ _ _ h => h) (by rfl) ?y6 (by assumption) (by assumption) ?r6
      case y6 => (intro w hSw; (try dsimp only at hSw); (obtain ⟨hSa, hSb⟩ := hSw); simp only [List.getElem_cons_succ, List.getElem_cons_zero]; go_simp; (try with_reducible rfl))
      clear hInv; intro hInv
      try simp only [List.getElem_cons_succ, List.getElem_cons_zero, Act.put, List.setIfInBounds_toArray, List.set_cons_zero, List.set_cons_succ]
      refine z_take 7 (by kernel_rfl) (v := ?v7) (by kernel_rfl) (by kernel_rfl) (by kernel_rfl) (by kernel_rfl) (fun _ _ _ h => h) (by rfl) ?y7 (by assumption) (by assumption) ?r7
      case y7 => (intro w hSw; (try dsimp only at hSw); (obtain ⟨hSa, hSb⟩ := hSw); simp only [List.getElem_cons_succ, List.getElem_cons_zero]; go_simp; (try with_reducible rfl))
      clear hInv; intro hInv
      try simp only [List.getElem_cons_succ, List.getElem_cons_zero, Act.put, List.setIfInBounds_toArray, List.set_cons_zero, List.set_cons_succ]
      refine z_take 9 (by kernel_rfl) (v := ?v8) (by kernel_rfl) (by kernel_rfl) (by kernel_rfl) (by kernel_rfl) (fun _ _ _ h => h) (by rfl) ?y8 (by assumption) (by assumption) ?r8
      case y8 => (intro w hSw; (try dsimp only at hSw); (obtain ⟨hSa, hSb⟩ := hSw); simp only [List.getElem_cons_succ, List.getElem_cons_zero]; go_simp; (try with_reducible rfl))
      clear hInv; intro hInv
      try simp only [List.getElem_cons_succ, List.getElem_cons_zero, Act.put, List.setIfInBounds_toArray, List.set_cons_zero, List.set_cons_succ]
      refine z_take 10 (by kernel_rfl) (v := ?v9) (by kernel_rfl) (by kernel_rfl) (by kernel_rfl) (by kernel_rfl) (fun _ _ _ h => h) (by rfl) ?y9 (by assumption) (by assumption) ?r9
      case y9 => (intro w hSw; (try dsimp only at hSw); (obtain ⟨hSa, hSb⟩ := hSw); simp only [List.getElem_cons_succ, List.getElem_cons_zero]; go_simp; (try with_reducible rfl))
      clear hInv; intro hInv
      try simp only [List.getElem_cons_succ, List.getElem_cons_zero, Act.put, List.setIfInBounds_toArray, List.set_cons_zero, List.set_cons_succ]
      refine z_take 11 (by kernel_rfl) (v := ?v10) (by kernel_rfl) (by kernel_rfl) (by kernel_rfl) (by kernel_rfl) (fun _ _ _ h => h) (by rfl) ?y10 (by assumption) (by assumption) ?r10
      case y10 => (intro w hSw; (try dsimp only at hSw); (obtain ⟨hSa, hSb⟩ := hSw); simp only [List.getElem_cons_succ, List.getElem_cons_zero]; go_simp; (try with_reducible rfl))
      clear hInv; intro hInv
      try simp only [List.getElem_cons_succ, List.getElem_cons_zero, Act.put, List.setIfInBounds_toArray, List.set_cons_zero, List.set_cons_succ]
      refine z_take 12 (by kernel_rfl) (v := ?v11) (by kernel_rfl) (by kernel_rfl) (by kernel_rfl) (by kernel_rfl) (fun _ _ _ h => h) (by rfl) ?y11 (by assumption) (by assumption) ?r11
      case y11 => (intro w hSw; (try dsimp only at hSw); (obtain ⟨hSa, hSb⟩ := hSw); simp only [List.getElem_cons_succ, List.getElem_cons_zero]; go_simp; (try with_reducible rfl))
      clear hInv; intro hInv
      try simp only [List.getElem_cons_succ, List.getElem_cons_zero, Act.put, List.setIfInBounds_toArray, List.set_cons_zero, List.set_cons_succ]
      refine z_take 13 (by kernel_rfl) (v := ?v12) (by kernel_rfl) (by kernel_rfl) (by kernel_rfl) (by kernel_rfl) (fun _ _ _ h => h) (by rfl) ?y12 (by assumption) (by assumption) ?r12
      case y12 => (intro w hSw; (try dsimp only at hSw); (obtain ⟨hSa, hSb⟩ := hSw); simp only [List.getElem_cons_succ, List.getElem_cons_zero]; go_simp; (try with_reducible rfl))
      clear hInv; intro hInv
      try simp only [List.getElem_cons_succ, List.getElem_cons_zero, Act.put, List.setIfInBounds_toArray, List.set_cons_zero, List.set_cons_succ]
      refine z_take 14 (by kernel_rfl) (v := ?v13) (by kernel_rfl) (by kernel_rfl) (by kernel_rfl) (by kernel_rfl) (fun _ _ _ h => h) (by rfl) ?y13 (by assumption) (by assumption) ?r13
      case y13 => (intro w hSw; (try dsimp only at hSw); (obtain ⟨hSa, hSb⟩ := hSw); simp only [List.getElem_cons_succ, List.getElem_cons_zero]; go_simp; (try with_reducible rfl))
      clear hInv; intro hInv
      try simp only [List.getElem_cons_succ, List.getElem_cons_zero, Act.put, List.setIfInBounds_toArray, List.set_cons_zero, List.set_cons_succ]
      refine z_take 15 (by kernel_rfl) (v := ?v14) (by kernel_rfl) (by kernel_rfl) (by kernel_rfl) (by kernel_rfl) (fun _ _ _ h => h) (by rfl) ?y14 (by assumption) (by assumption) ?r14
      case y14 => (intro w hSw; (try dsimp only at hSw); (obtain ⟨hSa, hSb⟩ := hSw); simp only [List.getElem_cons_succ, List.getElem_cons_zero]; go_simp; (try with_reducible rfl))
      clear hInv; intro hInv
      try simp only [List.getElem_cons_succ, List.getElem_cons_zero, Act.put, List.setIfInBounds_toArray, List.set_cons_zero, List.set_cons_succ]
      refine z_ready 1 (by kernel_rfl) (by kernel_rfl) (by kernel_rfl) (by assumption) (fun K hK => ?_)
      simp only [List.getElem_cons_succ, List.getElem_cons_zero]
      go_simp
      have cB := run_buildI0 wt.drew
      have O0 := own_emptyI wt.drew wt.heap.size (Nat.le_refl _)
      have B0 := Lib.hid (show Below wt.heap.size wt (wt.drew.alloc (.cells #[] it)) from (Below.refl _ _).drew.alloc (Nat.le_refl _) _)
      rw [show wt.drew.heap.size = wt.heap.size from rfl] at cB O0
      have HO0 := Lib.hid O0
      clear O0
      generalize wt.drew.alloc (.cells #[] it) = w7 at *
      go_simp
      refine hK.out _ _ (HS.out _ B0.out) (fun hHeld hInv => ?_)
      clear hK K
      try simp only [List.getElem_cons_succ, List.getElem_cons_zero, Act.put, List.setIfInBounds_toArray, List.set_cons_zero, List.set_cons_succ]
      refine z_ready 8 (by kernel_rfl) (by kernel_rfl) (by kernel_rfl) (by assumption) (fun K hK => ?_)
      simp only [List.getElem_cons_succ, List.getElem_cons_zero]
      rw [if_pos (by rfl)]
      refine wp_app_s (.tmp 25) (.tmp 31) 22 rfl wt.heap.size it (z := .int .i64 0) (by decide) Try.underlying22 knum_info rfl _ 0 [] (by simp [Act.eval, Act.put]) HO0.out qT k cT ((L.map v64).take k) (by simp [Act.eval, Act.put]) (HA3.out.below B0.out) (by rw [HE3.out]) HN3.out (by omega) (fun u hu => one64 _ u (by first | exact List.mem_of_mem_take hu | exact List.mem_of_mem_drop hu)) (by omega) (by unfold maxLen; omega) (B0.out.size) ?_
      intro v8 w8 hvv8 hgv8 _
      have B8 := Lib.hid (grown_below B0.out hgv8 (fun g e => (own_base_w HO0.out g e).1) B0.out.size)
      try rw [HNN.out] at hvv8
      have O8 := Lib.hid hvv8
      clear hvv8 hgv8
      refine hK.out _ _ (HS.out _ B8.out) (fun hHeld hInv => ?_)
      clear hK K
      try simp only [List.getElem_cons_succ, List.getElem_cons_zero, Act.put, List.setIfInBounds_toArray, List.set_cons_zero, List.set_cons_succ]
      refine z_ready 16 (by kernel_rfl) (by kernel_rfl) (by kernel_rfl) (by assumption) (fun K hK => ?_)
      simp only [List.getElem_cons_succ, List.getElem_cons_zero]
      rw [if_pos (by rfl)]
      refine wp_app_s (.tmp 32) (.tmp 39) 22 rfl wt.heap.size it (z := .int .i64 0) (by decide) Try.underlying22 knum_info rfl _ (0 + k) ([] ++ (L.map v64).take k) (by simp [Act.eval, Act.put]) O8.out q4 (n - (k + 1)) (cT - (k + 1)) ((L.map v64).drop (k + 1)) (by simp [Act.eval, Act.put]) (HA4.out.below B8.out) (by rw [HE4.out]) HN4.out (by omega) (fun u hu => one64 _ u (by first | exact List.mem_of_mem_take hu | exact List.mem_of_mem_drop hu)) (by omega) (by unfold maxLen; omega) (B8.out.size) ?_
      intro v9 w9 hvv9 hgv9 _
      have B9 := Lib.hid (grown_below B8.out hgv9 (fun g e => (own_base_w O8.out g e).1) B8.out.size)
      try rw [HNN.out] at hvv9
      have O9 := Lib.hid hvv9
      clear hvv9 hgv9
      refine hK.out _ _ (HS.out _ B9.out) (fun hHeld hInv => ?_)
      clear hK K
      try simp only [List.getElem_cons_succ, List.getElem_cons_zero, Act.put, List.setIfInBounds_toArray, List.set_cons_zero, List.set_cons_succ]
      refine z_take 17 (by kernel_rfl) (v := ?v15) (by kernel_rfl) (by kernel_rfl) (by kernel_rfl) (by kernel_rfl) (fun _ _ _ h => h) (by rfl) ?y15 (by assumption) (by assumption) ?r15
      case y15 => (intro w hSw; (try dsimp only at hSw); (obtain ⟨hSa, hSb⟩ := hSw); simp only [List.getElem_cons_succ, List.getElem_cons_zero]; go_simp; (try with_reducible rfl))
      clear hInv; intro hInv
      try simp only [List.getElem_cons_succ, List.getElem_cons_zero, Act.put, List.setIfInBounds_toArray, List.set_cons_zero, List.set_cons_succ]
      refine z_take 18 (by kernel_rfl) (v := ?v16) (by kernel_rfl) (by kernel_rfl) (by kernel_rfl) (by kernel_rfl) (fun _ _ _ h => h) (by rfl) ?y16 (by assumption) (by assumption) ?r16
      case y16 => (intro w hSw; (try dsimp only at hSw); (obtain ⟨hSa, hSb⟩ := hSw); simp only [List.getElem_cons_succ, List.getElem_cons_zero]; go_simp; (try with_reducible rfl))
      clear hInv; intro hInv
      try simp only [List.getElem_cons_succ, List.getElem_cons_zero, Act.put, List.setIfInBounds_toArray, List.set_cons_zero, List.set_cons_succ]
      refine z_last 19 (by kernel_rfl) rfl (by kernel_rfl) (by kernel_rfl) (fun K hK => ?_)
      simp only [List.getElem_cons_succ, List.getElem_cons_zero]
      go_simp
      obtain ⟨p9, c9, hv, _, _, _, _, _⟩ := own_at_s O9.out
      subst hv
      have K9 := Lib.hid (HB.out.upon B9.out)
      have d9 : w9.cell? ⟨b, 0, none⟩ = some (.slice qT n cT) := K9.out.cell 0
      have f9 : w9.frozen? ⟨b, 0, none⟩ = false := K9.out.free 0
      (try go_simp)
      refine hK.out _ _ ?_
      clear hK K
      have O9' := Lib.hid (show w9.ownsRow wt.heap.size it 1 (.slice p9 (n - 1) c9) (n - 1) ((L.eraseIdx k).map v64) from by have := O9.out; rw [List.nil_append, HER.out] at this; exact this)
      have HEND := Lib.hid (R.out.stored B9.out O9'.out HLN.out)
      go_wp2_with fail
      go_ret
      obtain ⟨fp9, hr9, ht9, hf9⟩ := HEND.out
      exact DONE.out _ fp9 _ hr9 ht9 hf9
    · have t2 : decide ((k : Int) < (t : Int)) = false := decide_eq_false (by omega)
      have t2' : decide (k < t) = false := decide_eq_false hkt
      rw [if_neg hkt] at HOK ⊢
      have DONE := Lib.hid (fun W fp' v' (hr : RRaw W b fp' (L.eraseIdx k) t v') (ht : Touch fp w W) (hf : From fp fp' w) => (show ODone RRep b fp ⟨L.eraseIdx k, t⟩ (v64 0) w (.returned (v64 0)) W from ⟨rfl, fp', ⟨⟨v', hr⟩, HOK.out⟩, ht, hf⟩))
      have hc1 : w.cell? ⟨b, 1, none⟩ = some (v64 t) := R.out.blk.cell 1
      clear hkt
      obtain ⟨wt, hwt⟩ : ∃ y, y = w := ⟨_, rfl⟩
      subst hwt
      go_enter Try.func34, Try.ntmps34
      go_wp2_with fail
      refine HAT.out.mono ?_
      rintro e w1 ⟨rfl, hw1⟩
      obtain rfl := hw1.symm
      clear hw1
      obtain ⟨qT, cT, rfl, hb, hAT, l3, l4, nT⟩ := R.out.cells
      obtain ⟨n, hn⟩ : ∃ n, n = L.length := ⟨_, rfl⟩
      have hlT : (L.map v64).length = n * 1 := by rw [List.length_map, hn, Nat.mul_one]
      rw [← hn] at hb l3 hkl hs
      have HLN := Lib.hid (show (L.eraseIdx k).length = n - 1 by rw [List.length_eraseIdx, if_pos (by omega)]; omega)
      have HB := Lib.hid hb
      unfold maxLen at l4
      have kT1 := fun W => run_sliceOp (run_cutS_h (P := Try.prog) Try.underlying22 isize qT n cT k (by omega) W)
      have kT2 := fun W => run_sliceOp (run_cutS_l (P := Try.prog) Try.underlying22 isize qT n cT (k + 1) (by omega) l3 W)
      have HA3 := Lib.hid (at_first hAT k)
      have HA4 := Lib.hid (show At wt (if cT = k + 1 then qT else qT.map (·.add ((k + 1) * 1))) ((L.map v64).drop (k + 1)) from by have := at_rest hAT hlT (show k + 1 ≤ n by omega) l3; rwa [Nat.mul_one (k + 1)] at this ⊢)
      have HN4 := Lib.hid (rest_nil (k := k + 1) (s := 1) (n := n) nT)
      have HN3 := Lib.hid nT
      have HNN := Lib.hid (show 0 + k + (n - (k + 1)) = n - 1 by omega)
      have HE3 := Lib.hid (show ((L.map v64).take k).length = k * 1 by rw [List.length_take, List.length_map, ← hn]; omega)
      have HE4 := Lib.hid (show ((L.map v64).drop (k + 1)).length = (n - (k + 1)) * 1 by rw [List.length_drop, List.length_map, ← hn]; omega)
      have HER := Lib.hid (show (L.map v64).take k ++ (L.map v64).drop (k + 1) = (L.eraseIdx k).map v64 from by rw [List.eraseIdx_eq_take_drop_succ, List.map_append, List.map_take, List.map_drop])
      have e1 : ((k + 1 : Nat) : Int) = (k : Int) + 1 := by omega
      rw [e1] at kT2
      generalize (if cT = k + 1 then qT else qT.map (·.add ((k + 1) * 1))) = q4 at *
      have i1 : IntKind.i64.wrap ((k : Int) + 1) = (k : Int) + 1 := IntWalk.i64_in _ (by omega)
      have HS := Lib.hid (fun W (hb2 : Below wt.heap.size wt W) => (show W.cell? ⟨b, 0, none⟩ = some (.slice qT n cT) ∧ True from ⟨(HB.out.upon hb2).cell 0, trivial⟩))
      clear hb hAT hlT nT hn e1
      go_wp2_with fail
      refine wp_region_Z 19 (S := (fun w' => w'.cell? ⟨b, 0, none⟩ = some (.slice qT n cT) ∧ True)) (by kernel_rfl) (HS.out _ ((Below.refl _ _).drew)) (fun hHeld hInv => ?_)
      refine z_take 0 (by kernel_rfl) (v := ?v17) (by kernel_rfl) (by kernel_rfl) (by kernel_rfl) (by kernel_rfl) (fun _ _ _ h => h) (by rfl) ?y17 (by assumption) (by assumption) ?r17
      case y17 => (intro w hSw; (try dsimp only at hSw); (obtain ⟨hSa, hSb⟩ := hSw); simp only [List.getElem_cons_succ, List.getElem_cons_zero]; go_simp; (try with_reducible rfl))
      clear hInv; intro hInv
      try simp only [List.getElem_cons_succ, List.getElem_cons_zero, Act.put, List.setIfInBounds_toArray, List.set_cons_zero, List.set_cons_succ]
      refine z_take 2 (by kernel_rfl) (v := ?v18) (by kernel_rfl) (by kernel_rfl) (by kernel_rfl) (by kernel_rfl) (fun _ _ _ h => h) (by rfl) ?y18 (by assumption) (by assumption) ?r18
      case y18 => (intro w hSw; (try dsimp only at hSw); (obtain ⟨hSa, hSb⟩ := hSw); simp only [List.getElem_cons_succ, List.getElem_cons_zero]; go_simp; (try with_reducible rfl))
      clear hInv; intro hInv
      try simp only [List.getElem_cons_succ, List.getElem_cons_zero, Act.put, List.setIfInBounds_toArray, List.set_cons_zero, List.set_cons_succ]
      refine z_take 3 (by kernel_rfl) (v := ?v19) (by kernel_rfl) (by kernel_rfl) (by kernel_rfl) (by kernel_rfl) (fun _ _ _ h => h) (by rfl) ?y19 (by assumption) (by assumption) ?r19
      case y19 => (intro w hSw; (try dsimp only at hSw); (obtain ⟨hSa, hSb⟩ := hSw); simp only [List.getElem_cons_succ, List.getElem_cons_zero]; go_simp; (try with_reducible rfl))
      clear hInv; intro hInv
      try simp only [List.getElem_cons_succ, List.getElem_cons_zero, Act.put, List.setIfInBounds_toArray, List.set_cons_zero, List.set_cons_succ]
      refine z_take 4 (by kernel_rfl) (v := ?v20) (by kernel_rfl) (by kernel_rfl) (by kernel_rfl) (by kernel_rfl) (fun _ _ _ h => h) (by rfl) ?y20 (by assumption) (by assumption) ?r20
      case y20 => (intro w hSw; (try dsimp only at hSw); (obtain ⟨hSa, hSb⟩ := hSw); simp only [List.getElem_cons_succ, List.getElem_cons_zero]; go_simp; (try with_reducible rfl))
      clear hInv; intro hInv
      try simp only [List.getElem_cons_succ, List.getElem_cons_zero, Act.put, List.setIfInBounds_toArray, List.set_cons_zero, List.set_cons_succ]
      refine z_take 5 (by kernel_rfl) (v := ?v21) (by kernel_rfl) (by kernel_rfl) (by kernel_rfl) (by kernel_rfl) (fun _ _ _ h => h) (by rfl) ?y21 (by assumption) (by assumption) ?r21
      case y21 => (intro w hSw; (try dsimp only at hSw); (obtain ⟨hSa, hSb⟩ := hSw); simp only [List.getElem_cons_succ, List.getElem_cons_zero]; go_simp; (try with_reducible rfl))
      clear hInv; intro hInv
      try simp only [List.getElem_cons_succ, List.getElem_cons_zero, Act.put, List.setIfInBounds_toArray, List.set_cons_zero, List.set_cons_succ]
      refine z_take 6 (by kernel_rfl) (v := ?v22) (by kernel_rfl) (by kernel_rfl) (by kernel_rfl) (by kernel_rfl) (fun _ _ _ h => h) (by rfl) ?y22 (by assumption) (by assumption) ?r22
      case y22 => (intro w hSw; (try dsimp only at hSw); (obtain ⟨hSa, hSb⟩ := hSw); simp only [List.getElem_cons_succ, List.getElem_cons_zero]; go_simp; (try with_reducible rfl))
      clear hInv; intro hInv
      try simp only [List.getElem_cons_succ, List.getElem_cons_zero, Act.put, List.setIfInBounds_toArray, List.set_cons_zero, List.set_cons_succ]
      refine z_take 7 (by kernel_rfl) (v := ?v23) (by kernel_rfl) (by kernel_rfl) (by kernel_rfl) (by kernel_rfl) (fun _ _ _ h => h) (by rfl) ?y23 (by assumption) (by assumption) ?r23
      case y23 => (intro w hSw; (try dsimp only at hSw); (obtain ⟨hSa, hSb⟩ := hSw); simp only [List.getElem_cons_succ, List.getElem_cons_zero]; go_simp; (try with_reducible rfl))
      clear hInv; intro hInv
      try simp only [List.getElem_cons_succ, List.getElem_cons_zero, Act.put, List.setIfInBounds_toArray, List.set_cons_zero, List.set_cons_succ]
      refine z_take 9 (by kernel_rfl) (v := ?v24) (by kernel_rfl) (by kernel_rfl) (by kernel_rfl) (by kernel_rfl) (fun _ _ _ h => h) (by rfl) ?y24 (by assumption) (by assumption) ?r24
      case y24 => (intro w hSw; (try dsimp only at hSw); (obtain ⟨hSa, hSb⟩ := hSw); simp only [List.getElem_cons_succ, List.getElem_cons_zero]; go_simp; (try with_reducible rfl))
      clear hInv; intro hInv
      try simp only [List.getElem_cons_succ, List.getElem_cons_zero, Act.put, List.setIfInBounds_toArray, List.set_cons_zero, List.set_cons_succ]
      refine z_take 10 (by kernel_rfl) (v := ?v25) (by kernel_rfl) (by kernel_rfl) (by kernel_rfl) (by kernel_rfl) (fun _ _ _ h => h) (by rfl) ?y25 (by assumption) (by assumption) ?r25
      case y25 => (intro w hSw; (try dsimp only at hSw); (obtain ⟨hSa, hSb⟩ := hSw); simp only [List.getElem_cons_succ, List.getElem_cons_zero]; go_simp; (try with_reducible rfl))
      clear hInv; intro hInv
      try simp only [List.getElem_cons_succ, List.getElem_cons_zero, Act.put, List.setIfInBounds_toArray, List.set_cons_zero, List.set_cons_succ]
      refine z_take 11 (by kernel_rfl) (v := ?v26) (by kernel_rfl) (by kernel_rfl) (by kernel_rfl) (by kernel_rfl) (fun _ _ _ h => h) (by rfl) ?y26 (by assumption) (by assumption) ?r26
      case y26 => (intro w hSw; (try dsimp only at hSw); (obtain ⟨hSa, hSb⟩ := hSw); simp only [List.getElem_cons_succ, List.getElem_cons_zero]; go_simp; (try with_reducible rfl))
      clear hInv; intro hInv
      try simp only [List.getElem_cons_succ, List.getElem_cons_zero, Act.put, List.setIfInBounds_toArray, List.set_cons_zero, List.set_cons_succ]
      refine z_take 12 (by kernel_rfl) (v := ?v27) (by kernel_rfl) (by kernel_rfl) (by kernel_rfl) (by kernel_rfl) (fun _ _ _ h => h) (by rfl) ?y27 (by assumption) (by assumption) ?r27
      case y27 => (intro w hSw; (try dsimp only at hSw); (obtain ⟨hSa, hSb⟩ := hSw); simp only [List.getElem_cons_succ, List.getElem_cons_zero]; go_simp; (try with_reducible rfl))
      clear hInv; intro hInv
      try simp only [List.getElem_cons_succ, List.getElem_cons_zero, Act.put, List.setIfInBounds_toArray, List.set_cons_zero, List.set_cons_succ]
      refine z_take 13 (by kernel_rfl) (v := ?v28) (by kernel_rfl) (by kernel_rfl) (by kernel_rfl) (by kernel_rfl) (fun _ _ _ h => h) (by rfl) ?y28 (by assumption) (by assumption) ?r28
      case y28 => (intro w hSw; (try dsimp only at hSw); (obtain ⟨hSa, hSb⟩ := hSw); simp only [List.getElem_cons_succ, List.getElem_cons_zero]; go_simp; (try with_reducible rfl))
      clear hInv; intro hInv
      try simp only [List.getElem_cons_succ, List.getElem_cons_zero, Act.put, List.setIfInBounds_toArray, List.set_cons_zero, List.set_cons_succ]
      refine z_take 14 (by kernel_rfl) (v := ?v29) (by kernel_rfl) (by kernel_rfl) (by kernel_rfl) (by kernel_rfl) (fun _ _ _ h => h) (by rfl) ?y29 (by assumption) (by assumption) ?r29
      case y29 => (intro w hSw; (try dsimp only at hSw); (obtain ⟨hSa, hSb⟩ := hSw); simp only [List.getElem_cons_succ, List.getElem_cons_zero]; go_simp; (try with_reducible rfl))
      clear hInv; intro hInv
      try simp only [List.getElem_cons_succ, List.getElem_cons_zero, Act.put, List.setIfInBounds_toArray, List.set_cons_zero, List.set_cons_succ]
      refine z_take 15 (by kernel_rfl) (v := ?v30) (by kernel_rfl) (by kernel_rfl) (by kernel_rfl) (by kernel_rfl) (fun _ _ _ h => h) (by rfl) ?y30 (by assumption) (by assumption) ?r30
      case y30 => (intro w hSw; (try dsimp only at hSw); (obtain ⟨hSa, hSb⟩ := hSw); simp only [List.getElem_cons_succ, List.getElem_cons_zero]; go_simp; (try with_reducible rfl))
      clear hInv; intro hInv
      try simp only [List.getElem_cons_succ, List.getElem_cons_zero, Act.put, List.setIfInBounds_toArray, List.set_cons_zero, List.set_cons_succ]
      refine z_ready 1 (by kernel_rfl) (by kernel_rfl) (by kernel_rfl) (by assumption) (fun K hK => ?_)
      simp only [List.getElem_cons_succ, List.getElem_cons_zero]
      go_simp
      have cB := run_buildI0 wt.drew
      have O0 := own_emptyI wt.drew wt.heap.size (Nat.le_refl _)
      have B0 := Lib.hid (show Below wt.heap.size wt (wt.drew.alloc (.cells #[] it)) from (Below.refl _ _).drew.alloc (Nat.le_refl _) _)
      rw [show wt.drew.heap.size = wt.heap.size from rfl] at cB O0
      have HO0 := Lib.hid O0
      clear O0
      generalize wt.drew.alloc (.cells #[] it) = w7 at *
      go_simp
      refine hK.out _ _ (HS.out _ B0.out) (fun hHeld hInv => ?_)
      clear hK K
      try simp only [List.getElem_cons_succ, List.getElem_cons_zero, Act.put, List.setIfInBounds_toArray, List.set_cons_zero, List.set_cons_succ]
      refine z_ready 8 (by kernel_rfl) (by kernel_rfl) (by kernel_rfl) (by assumption) (fun K hK => ?_)
      simp only [List.getElem_cons_succ, List.getElem_cons_zero]
      rw [if_pos (by rfl)]
      refine wp_app_s (.tmp 25) (.tmp 31) 22 rfl wt.heap.size it (z := .int .i64 0) (by decide) Try.underlying22 knum_info rfl _ 0 [] (by simp [Act.eval, Act.put]) HO0.out qT k cT ((L.map v64).take k) (by simp [Act.eval, Act.put]) (HA3.out.below B0.out) (by rw [HE3.out]) HN3.out (by omega) (fun u hu => one64 _ u (by first | exact List.mem_of_mem_take hu | exact List.mem_of_mem_drop hu)) (by omega) (by unfold maxLen; omega) (B0.out.size) ?_
      intro v8 w8 hvv8 hgv8 _
      have B8 := Lib.hid (grown_below B0.out hgv8 (fun g e => (own_base_w HO0.out g e).1) B0.out.size)
      try rw [HNN.out] at hvv8
      have O8 := Lib.hid hvv8
      clear hvv8 hgv8
      refine hK.out _ _ (HS.out _ B8.out) (fun hHeld hInv => ?_)
      clear hK K
      try simp only [List.getElem_cons_succ, List.getElem_cons_zero, Act.put, List.setIfInBounds_toArray, List.set_cons_zero, List.set_cons_succ]
      refine z_ready 16 (by kernel_rfl) (by kernel_rfl) (by kernel_rfl) (by assumption) (fun K hK => ?_)
      simp only [List.getElem_cons_succ, List.getElem_cons_zero]
      rw [if_pos (by rfl)]
      refine wp_app_s (.tmp 32) (.tmp 39) 22 rfl wt.heap.size it (z := .int .i64 0) (by decide) Try.underlying22 knum_info rfl _ (0 + k) ([] ++ (L.map v64).take k) (by simp [Act.eval, Act.put]) O8.out q4 (n - (k + 1)) (cT - (k + 1)) ((L.map v64).drop (k + 1)) (by simp [Act.eval, Act.put]) (HA4.out.below B8.out) (by rw [HE4.out]) HN4.out (by omega) (fun u hu => one64 _ u (by first | exact List.mem_of_mem_take hu | exact List.mem_of_mem_drop hu)) (by omega) (by unfold maxLen; omega) (B8.out.size) ?_
      intro v9 w9 hvv9 hgv9 _
      have B9 := Lib.hid (grown_below B8.out hgv9 (fun g e => (own_base_w O8.out g e).1) B8.out.size)
      try rw [HNN.out] at hvv9
      have O9 := Lib.hid hvv9
      clear hvv9 hgv9
      refine hK.out _ _ (HS.out _ B9.out) (fun hHeld hInv => ?_)
      clear hK K
      try simp only [List.getElem_cons_succ, List.getElem_cons_zero, Act.put, List.setIfInBounds_toArray, List.set_cons_zero, List.set_cons_succ]
      refine z_take 17 (by kernel_rfl) (v := ?v31) (by kernel_rfl) (by kernel_rfl) (by kernel_rfl) (by kernel_rfl) (fun _ _ _ h => h) (by rfl) ?y31 (by assumption) (by assumption) ?r31
      case y31 => (intro w hSw; (try dsimp only at hSw); (obtain ⟨hSa, hSb⟩ := hSw); simp only [List.getElem_cons_succ, List.getElem_cons_zero]; go_simp; (try with_reducible rfl))
      clear hInv; intro hInv
      try simp only [List.getElem_cons_succ, List.getElem_cons_zero, Act.put, List.setIfInBounds_toArray, List.set_cons_zero, List.set_cons_succ]
      refine z_take 18 (by kernel_rfl) (v := ?v32) (by kernel_rfl) (by kernel_rfl) (by kernel_rfl) (by kernel_rfl) (fun _ _ _ h => h) (by rfl) ?y32 (by assumption) (by assumption) ?r32
      case y32 => (intro w hSw; (try dsimp only at hSw); (obtain ⟨hSa, hSb⟩ := hSw); simp only [List.getElem_cons_succ, List.getElem_cons_zero]; go_simp; (try with_reducible rfl))
      clear hInv; intro hInv
      try simp only [List.getElem_cons_succ, List.getElem_cons_zero, Act.put, List.setIfInBounds_toArray, List.set_cons_zero, List.set_cons_succ]
      refine z_last 19 (by kernel_rfl) rfl (by kernel_rfl) (by kernel_rfl) (fun K hK => ?_)
      simp only [List.getElem_cons_succ, List.getElem_cons_zero]
      go_simp
      obtain ⟨p9, c9, hv, _, _, _, _, _⟩ := own_at_s O9.out
      subst hv
      have K9 := Lib.hid (HB.out.upon B9.out)
      have d9 : w9.cell? ⟨b, 0, none⟩ = some (.slice qT n cT) := K9.out.cell 0
      have f9 : w9.frozen? ⟨b, 0, none⟩ = false := K9.out.free 0
      (try go_simp)
      refine hK.out _ _ ?_
      clear hK K
      have O9' := Lib.hid (show w9.ownsRow wt.heap.size it 1 (.slice p9 (n - 1) c9) (n - 1) ((L.eraseIdx k).map v64) from by have := O9.out; rw [List.nil_append, HER.out] at this; exact this)
      have HEND := Lib.hid (R.out.stored B9.out O9'.out HLN.out)
      go_wp2_with fail
      go_ret
      obtain ⟨fp9, hr9, ht9, hf9⟩ := HEND.out
      exact DONE.out _ fp9 _ hr9 ht9 hf9
  · have hE : Rd.remE ⟨L, t⟩ x = 6 := if_neg hl
    have hS : Rd.remS ⟨L, t⟩ x = ⟨L, t⟩ := if_neg hl
    rw [hE]
    rw [hS] at HOK ⊢
    rw [show Rd.idx L x = -1 from if_neg hl] at HAT
    have D := Lib.hid (show ODone RRep b fp ⟨L, t⟩ (v64 6) w (.returned (v64 6)) w from ⟨rfl, fp, ⟨⟨v, R.out⟩, HOK.out⟩, Touch.refl _ _, From.refl _ _⟩)
    clear hE hS hok hl R
    go_enter Try.func34, Try.ntmps34
    go_wp2_with fail
    refine HAT.out.mono ?_
    rintro e w1 ⟨rfl, hw1⟩
    obtain rfl := hw1.symm
    clear hw1
    go_wp2_with fail
    go_ret
    exact D.out
end
end Go.Proofs.Ytfoomffbjjcjjaa
