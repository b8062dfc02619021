/-
  The reference's New (written by mkrpe14.py).
-/
import Derived.Test.YtfoomffbjjcjjaaRpD
namespace Go.Proofs.Ytfoomffbjjcjjaa
set_option linter.unusedSimpArgs false
set_option linter.unusedVariables false
open Go.RowKit Sha Lot
def Rd.New (xs : List Int) : Prop := xs.Nodup ∧ ∀ n ∈ xs, 1 ≤ n ∧ n ≤ 64
theorem Rd.New.ok {xs : List Int} (h : Rd.New xs) : Rd.OK ⟨xs, 0⟩ := ⟨h.1, h.2, Nat.zero_le _⟩
theorem Rd.New.next {xs : List Int} {i : Nat} (h : Rd.New (xs.take i)) (hi : i < xs.length) (h1 : 1 ≤ xs[i] ∧ xs[i] ≤ 64) (h2 : xs[i] ∉ xs.take i) : Rd.New (xs.take (i + 1)) := by
  rw [List.take_succ_eq_append_getElem hi]
  refine ⟨?_, fun n hn => ?_⟩
  · exact ((List.perm_append_singleton _ _).nodup_iff).2 (List.nodup_cons.2 ⟨h2, h.1⟩)
  · rcases List.mem_append.1 hn with h3 | h3
    · exact h.2 n h3
    · rw [List.mem_singleton.1 h3]; exact h1
theorem Rd.New.not_may {xs : List Int} {i : Nat} (hi : i < xs.length) (h1 : ¬ (1 ≤ xs[i] ∧ xs[i] ≤ 64)) : ¬ Rd.New xs := fun h => h1 (h.2 _ (List.getElem_mem hi))
theorem Rd.New.not_nd {xs : List Int} {i : Nat} (hi : i < xs.length) (h1 : xs[i] ∈ xs.take i) : ¬ Rd.New xs := fun h => by
  have h2 := h.1
  rw [← List.take_append_drop i xs] at h2
  refine (List.nodup_append.1 h2).2.2 _ h1 _ ?_ rfl
  rw [List.drop_eq_getElem_cons hi]
  exact List.mem_cons_self
/-- A round made, or not. -/
def PNewDone (xs : List Int) (n : Nat) (bl : Nat) (fl : List Nat) (Ls : List Int) (N : Nat) (w : World) (e : Ending) (w' : World) : Prop :=
  (Rd.New xs ∧ ∃ b fp' fl', e = .returned (.tuple #[optr b, v64 0]) ∧ RRep w' b fp' ⟨Rd.ordered xs Ls N, 0⟩ ∧ RefLot w' bl fl' Ls (N + shufN n) ∧ Apart fp' fl' ∧ Touch fl w w' ∧ From fl fl' w ∧ ∀ k ∈ fp', w.heap.size ≤ k) ∨
  (¬ Rd.New xs ∧ e = .returned (.tuple #[.pointer none, v64 2]) ∧ ∃ fl' N', RefLot w' bl fl' Ls N' ∧ Touch fl w w' ∧ From fl fl' w)
theorem RRaw.grew {w w' : World} {b t n : Nat} {fp : List Nat} {L Q : List Int} {v v' : Value} (h : RRaw w b fp L t v) (hg : w.grownBy w' v.ownBlock) (O : w'.ownsRow 0 it 1 v' n (Q.map v64)) (hn : Q.length = n) (hb : ∀ g, v'.ownBlock = some g → v.ownBlock = some g ∨ w.heap.size ≤ g) : RRaw (w'.setCell ⟨b, 0, none⟩ v') b (b :: v'.ownBlock.toList) Q t v' := by
  subst hn
  have hne : v'.ownBlock ≠ some b := fun e => by
    rcases hb b e with h1 | h1
    · exact h.ne h1
    · have := h.blk.lt; omega
  have hk : Blk w' b [v, v64 t] rrt := (hg.block b h.blk.lt (fun e => h.ne e.symm)).trans h.blk
  exact ⟨rfl, hk.set 0 _, ownsRow_keepR O fun g e => Below.heap_setCell _ _ _ _ (fun e2 => hne (by rw [← show g = b from e2]; exact e)), hne⟩
section
attribute [local go_sem ↓] execOp_sliceI execOp_buildI
set_option maxRecDepth 100000 in
set_option maxHeartbeats 16000000 in
theorem rpnew_any (xs : List Int) (n : Nat) (q : Option Addr) (c : Nat) (bl : Nat) (fl : List Nat) (Ls : List Int) (N : Nat) (w : World) (hn : xs.length = n) (hG : GoodN w xs q c) (hm : n ≤ 100) (hl : RefLot w bl fl Ls N) (hN : N ≤ 1000000000) :
    Calls Try.prog 13 #[.slice q n c, lptr bl] w (PNewDone xs n bl fl Ls N w) := by
  have HL := Lib.hid hl
  have HLN := Lib.hid hn
  have b1 := hG.le
  have b2 := hG.max
  rw [hn] at b1
  have HC := Lib.hid (show ∀ k (hk : k < xs.length), ∃ g off, q = some ⟨g, off, none⟩ ∧ g < w.heap.size ∧ ∀ W, Below w.heap.size w W → W.cell? ⟨g, off + k, none⟩ = some (v64 xs[k]) from fun k hk => by
    obtain ⟨g, off, hq, hc⟩ := hG.at_.addr (by rw [List.length_map]; omega)
    have h1 := hc k _ (n64_at hk)
    have h2 := World.block_lt_of_cell? w _ h1
    exact ⟨g, off, hq, h2, fun W hb => (hb.cell h2).trans h1⟩)
  have BAD := Lib.hid (fun W (hb : Below w.heap.size w W) (hx : ¬ Rd.New xs) => (show PNewDone xs n bl fl Ls N w (.returned (.tuple #[.pointer none, v64 2])) W from .inr ⟨hx, rfl, fl, N, refRepR hl hb, Touch.of_below hb, From.refl _ _⟩))
  have R0 := Lib.hid (show RRaw (w.alloc (.cells #[.slice none 0 0, .int .i64 0] rrt)) w.heap.size [w.heap.size] [] 0 (.slice none 0 0) from ⟨rfl, Blk.new w #[.slice none 0 0, .int .i64 0] rrt, World.ownsRow_nil _ _ _ _, (by intro h; cases h)⟩)
  have B0 := Lib.hid (show Below w.heap.size w (w.alloc (.cells #[.slice none 0 0, .int .i64 0] rrt)) from (Below.refl _ _).alloc (Nat.le_refl _) _)
  obtain ⟨b, hb⟩ : ∃ b, b = w.heap.size := ⟨_, rfl⟩
  rw [← hb] at R0
  have HB := Lib.hid hb
  clear hl hG hn hb
  go_enter Try.func13, Try.ntmps13
  go_wp2_with fail
  rw [← HB.out]
  go_loopw [7] (fun iv wr => ∃ (i : Nat) (fp : List Nat) (v : Value), iv = .int .i64 i ∧ i ≤ n ∧ Hid (Rd.New (xs.take i)) ∧ Hid (RRaw wr b fp (xs.take i) 0 v) ∧ Hid (Below w.heap.size w wr) ∧ Hid (∀ k ∈ fp, w.heap.size ≤ k)) (fun iv _ => n - (intOf iv).toNat)
  case atStart => exact ⟨0, _, _, rfl, by omega, Lib.hid ⟨List.nodup_nil, by simp⟩, R0, B0, Lib.hid (fun k hk => by rw [List.mem_singleton.1 hk, HB.out]; exact Nat.le_refl _)⟩
  case round =>
    clear R0 B0
    obtain ⟨i, fp, v, rfl, hi, HNW, R, HBW, HNF⟩ := hrel
    have hi64 : (xs.take i).length ≤ 64 := HNW.out.ok.len
    by_cases hlt : i < n
    · have hil : i < xs.length := by rw [HLN.out]; exact hlt
      obtain ⟨g, off, rfl, hgw, hc⟩ := HC.out i hil
      have HCC := Lib.hid hc
      have c1 := hc wr HBW.out
      have jn : (0 : Int) ≤ (i : Int) ∧ (i : Int) < (n : Int) := by omega
      have HM := Lib.hid (fun h => Rd.New.not_may hil h)
      have HD := Lib.hid (fun h => Rd.New.not_nd hil h)
      have HX := Lib.hid (fun h1 h2 => HNW.out.next hil h1 h2)
      have HAT := Lib.hid (rat_any b fp (xs.take i) 0 v xs[i] wr R.out (by omega))
      have HTK := Lib.hid (show (xs.take i).map v64 ++ [v64 xs[i]] = (xs.take (i + 1)).map v64 from by rw [List.take_succ_eq_append_getElem hil, List.map_append]; rfl)
      have HTL := Lib.hid (show (xs.take (i + 1)).length = i + 1 from by rw [List.length_take]; omega)
      have HTL0 := Lib.hid (show (xs.take i).length = i from by rw [List.length_take]; omega)
      generalize xs[i] = x at *
      clear hc hil
      by_cases hx : 1 ≤ x ∧ x ≤ 64
      · have t1 : decide (x < 1) = false := decide_eq_false (by omega)
        have t2 : decide (64 < x) = false := decide_eq_false (by omega)
        by_cases hin : x ∈ xs.take i
        · have HV := Lib.hid (BAD.out wr HBW.out (HD.out hin))
          have hat := Rd.at_mem.2 hin
          rw [show Rd.idx (xs.take i) x = (Rd.at_ (xs.take i) x : Int) from if_pos hat] at HAT
          have t3 : decide ((0 : Int) ≤ (Rd.at_ (xs.take i) x : Int)) = true := decide_eq_true (by omega)
          generalize Rd.at_ (xs.take i) x = k at *
          clear HM HD HX hat hin hx
          go_wp2_with fail
          refine HAT.out.mono ?_
          rintro e w1 ⟨rfl, hw1⟩
          obtain rfl := hw1.symm
          clear hw1
          go_wp2_with fail
          try rw [Exit.noGoto_ret]
          go_ret2
          exact HV.out
        · have HNW2 := Lib.hid (HX.out hx hin)
          rw [show Rd.idx (xs.take i) x = -1 from if_neg (fun h => hin (Rd.at_mem.1 h))] at HAT
          obtain ⟨p, cp, rfl, _, _, l1, l2, _⟩ := R.out.cells
          rw [HTL0.out] at l1
          unfold maxLen at l2
          clear HM HD HX hin hx
          go_wp2_with fail
          refine HAT.out.mono ?_
          rintro e w1 ⟨rfl, hw1⟩
          obtain rfl := hw1.symm
          clear hw1 HAT
          go_wp2_with fail
          have HR := Lib.hid (show RRaw wr b fp (xs.take i) 0 (.slice p i cp) from by have := R.out; rwa [HTL0.out] at this)
          clear R
          have HS := Lib.hid (fun W (hb2 : Below wr.heap.size wr W) => (show W.cell? ⟨b, 0, none⟩ = some (.slice p i cp) ∧ W.cell? ⟨g, off + i, none⟩ = some (v64 x) from ⟨(HR.out.on hb2).blk.cell 0, HCC.out W (below_next HBW.out hb2)⟩))
          refine wp_region_Z 13 (S := (fun w' => w'.cell? ⟨b, 0, none⟩ = some (.slice p i cp) ∧ w'.cell? ⟨g, off + i, none⟩ = some (v64 x))) (by kernel_rfl) (HS.out _ ((Below.refl _ _).drew)) (fun hHeld hInv => ?_)
          refine z_take 0 (by kernel_rfl) (v := ?v301) (by kernel_rfl) (by kernel_rfl) (by kernel_rfl) (by kernel_rfl) (fun _ _ _ h => h) (by rfl) ?y301 (by assumption) (by assumption) ?r301
          case y301 => (intro w hSw; (try dsimp only at hSw); (obtain ⟨hSa, hSb⟩ := hSw); simp only [List.getElem_cons_succ, List.getElem_cons_zero]; go_simp; (try with_reducible rfl))
          clear hInv; intro hInv
          try simp only [List.getElem_cons_succ, List.getElem_cons_zero, Act.put, List.setIfInBounds_toArray, List.set_cons_zero, List.set_cons_succ]
          refine z_take 1 (by kernel_rfl) (v := ?v302) (by kernel_rfl) (by kernel_rfl) (by kernel_rfl) (by kernel_rfl) (fun _ _ _ h => h) (by rfl) ?y302 (by assumption) (by assumption) ?r302
          case y302 => (intro w hSw; (try dsimp only at hSw); (obtain ⟨hSa, hSb⟩ := hSw); simp only [List.getElem_cons_succ, List.getElem_cons_zero]; go_simp; (try with_reducible rfl))
          clear hInv; intro hInv
          try simp only [List.getElem_cons_succ, List.getElem_cons_zero, Act.put, List.setIfInBounds_toArray, List.set_cons_zero, List.set_cons_succ]
          refine z_take 2 (by kernel_rfl) (v := ?v303) (by kernel_rfl) (by kernel_rfl) (by kernel_rfl) (by kernel_rfl) (fun _ _ _ h => h) (by rfl) ?y303 (by assumption) (by assumption) ?r303
          case y303 => (intro w hSw; (try dsimp only at hSw); (obtain ⟨hSa, hSb⟩ := hSw); simp only [List.getElem_cons_succ, List.getElem_cons_zero]; go_simp; (try with_reducible rfl))
          clear hInv; intro hInv
          try simp only [List.getElem_cons_succ, List.getElem_cons_zero, Act.put, List.setIfInBounds_toArray, List.set_cons_zero, List.set_cons_succ]
          refine z_take 3 (by kernel_rfl) (v := ?v304) (by kernel_rfl) (by kernel_rfl) (by kernel_rfl) (by kernel_rfl) (fun _ _ _ h => h) (by rfl) ?y304 (by assumption) (by assumption) ?r304
          case y304 => (intro w hSw; (try dsimp only at hSw); (obtain ⟨hSa, hSb⟩ := hSw); simp only [List.getElem_cons_succ, List.getElem_cons_zero]; go_simp; (try with_reducible rfl))
          clear hInv; intro hInv
          try simp only [List.getElem_cons_succ, List.getElem_cons_zero, Act.put, List.setIfInBounds_toArray, List.set_cons_zero, List.set_cons_succ]
          refine z_take 4 (by kernel_rfl) (v := ?v305) (by kernel_rfl) (by kernel_rfl) (by kernel_rfl) (by kernel_rfl) (fun _ _ _ h => h) (by rfl) ?y305 (by assumption) (by assumption) ?r305
          case y305 => (intro w hSw; (try dsimp only at hSw); (obtain ⟨hSa, hSb⟩ := hSw); simp only [List.getElem_cons_succ, List.getElem_cons_zero]; go_simp; (try with_reducible rfl))
          clear hInv; intro hInv
          try simp only [List.getElem_cons_succ, List.getElem_cons_zero, Act.put, List.setIfInBounds_toArray, List.set_cons_zero, List.set_cons_succ]
          refine z_take 5 (by kernel_rfl) (v := ?v306) (by kernel_rfl) (by kernel_rfl) (by kernel_rfl) (by kernel_rfl) (fun _ _ _ h => h) (by rfl) ?y306 (by assumption) (by assumption) ?r306
          case y306 => (intro w hSw; (try dsimp only at hSw); (obtain ⟨hSa, hSb⟩ := hSw); simp only [List.getElem_cons_succ, List.getElem_cons_zero]; go_simp; (try with_reducible rfl))
          clear hInv; intro hInv
          try simp only [List.getElem_cons_succ, List.getElem_cons_zero, Act.put, List.setIfInBounds_toArray, List.set_cons_zero, List.set_cons_succ]
          refine z_take 6 (by kernel_rfl) (v := ?v307) (by kernel_rfl) (by kernel_rfl) (by kernel_rfl) (by kernel_rfl) (fun _ _ _ h => h) (by rfl) ?y307 (by assumption) (by assumption) ?r307
          case y307 => (intro w hSw; (try dsimp only at hSw); (obtain ⟨hSa, hSb⟩ := hSw); simp only [List.getElem_cons_succ, List.getElem_cons_zero]; go_simp; (try with_reducible rfl))
          clear hInv; intro hInv
          try simp only [List.getElem_cons_succ, List.getElem_cons_zero, Act.put, List.setIfInBounds_toArray, List.set_cons_zero, List.set_cons_succ]
          refine z_take 7 (by kernel_rfl) (v := ?v308) (by kernel_rfl) (by kernel_rfl) (by kernel_rfl) (by kernel_rfl) (fun _ _ _ h => h) (by rfl) ?y308 (by assumption) (by assumption) ?r308
          case y308 => (intro w hSw; (try dsimp only at hSw); (obtain ⟨hSa, hSb⟩ := hSw); simp only [List.getElem_cons_succ, List.getElem_cons_zero]; go_simp; (try with_reducible rfl))
          clear hInv; intro hInv
          try simp only [List.getElem_cons_succ, List.getElem_cons_zero, Act.put, List.setIfInBounds_toArray, List.set_cons_zero, List.set_cons_succ]
          refine z_take 8 (by kernel_rfl) (v := ?v309) (by kernel_rfl) (by kernel_rfl) (by kernel_rfl) (by kernel_rfl) (fun _ _ _ h => h) (by rfl) ?y309 (by assumption) (by assumption) ?r309
          case y309 => (intro w hSw; (try dsimp only at hSw); (obtain ⟨hSa, hSb⟩ := hSw); simp only [List.getElem_cons_succ, List.getElem_cons_zero]; go_simp; (try with_reducible rfl))
          clear hInv; intro hInv
          try simp only [List.getElem_cons_succ, List.getElem_cons_zero, Act.put, List.setIfInBounds_toArray, List.set_cons_zero, List.set_cons_succ]
          refine z_ready 9 (by kernel_rfl) (by kernel_rfl) (by kernel_rfl) (by assumption) (fun K hK => ?_)
          simp only [List.getElem_cons_succ, List.getElem_cons_zero]
          go_simp
          have cB := run_buildI1 wr.drew x
          have B6 := Lib.hid (show Below wr.heap.size wr (wr.drew.alloc (.cells #[.int .i64 x] it)) from (Below.refl _ _).drew.alloc (Nat.le_refl _) _)
          have HA6 := Lib.hid (at_newR wr.drew [.int .i64 x] it)
          rw [show wr.drew.heap.size = wr.heap.size from rfl] at cB HA6
          generalize wr.drew.alloc (.cells #[.int .i64 x] it) = w6 at *
          have R6 := Lib.hid (HR.out.on B6.out)
          have O6 := Lib.hid (show w6.ownsRow 0 it 1 (.slice p i cp) i ((xs.take i).map v64) from by have := R6.out.row; rwa [HTL0.out] at this)
          go_simp
          refine hK.out _ _ (HS.out _ B6.out) (fun hHeld hInv => ?_)
          clear hK K
          try simp only [List.getElem_cons_succ, List.getElem_cons_zero, Act.put, List.setIfInBounds_toArray, List.set_cons_zero, List.set_cons_succ]
          refine z_ready 10 (by kernel_rfl) (by kernel_rfl) (by kernel_rfl) (by assumption) (fun K hK => ?_)
          simp only [List.getElem_cons_succ, List.getElem_cons_zero]
          rw [if_pos (by rfl)]
          refine wp_app_s (.tmp 41) (.tmp 46) 22 rfl 0 it (z := .int .i64 0) (by decide) Try.underlying22 knum_info rfl _ i ((xs.take i).map v64) (by simp [Act.eval, Act.put]) O6.out (some ⟨wr.heap.size, 0, none⟩) 1 1 [.int .i64 x] (by simp [Act.eval, Act.put]; try rfl) HA6.out rfl (fun h => by cases h) (Nat.le_refl _) (by intro u hu; rw [List.mem_singleton.1 hu]; rfl) (by omega) (by unfold maxLen; omega) (Nat.zero_le _) ?_
          intro v7 w7 hv7 hg7 hb7
          rw [HTK.out] at hv7
          have O7 := Lib.hid hv7
          have HPW := Lib.hid (show ∀ k, (Value.slice p i cp).ownBlock = some k → w.heap.size ≤ k from fun k e => HNF.out k (by rw [HR.out.fps, e]; simp))
          have B7 := Lib.hid (grown_below (below_next HBW.out B6.out) hg7 HPW.out (below_next HBW.out B6.out).size)
          have K7 := Lib.hid (show Blk w7 b [.slice p i cp, v64 ((0 : Nat) : Int)] rrt from (hg7.block b R6.out.blk.lt (fun e => R6.out.ne e.symm)).trans R6.out.blk)
          have R8 := Lib.hid (R6.out.grew hg7 hv7 HTL.out hb7)
          have HN8 := Lib.hid (show ∀ k ∈ b :: v7.ownBlock.toList, w.heap.size ≤ k from fun k hk => by rcases List.mem_cons.1 hk with rfl | hk; (rw [HB.out]; exact Nat.le_refl _); rcases hb7 k (by simpa using hk) with h1 | h1; exact HPW.out k h1; exact Nat.le_trans (below_next HBW.out B6.out).size h1)
          clear hv7 hg7 hb7
          refine hK.out _ _ ⟨K7.out.cell 0, HCC.out _ B7.out⟩ (fun hHeld hInv => ?_)
          clear hK K
          try simp only [List.getElem_cons_succ, List.getElem_cons_zero, Act.put, List.setIfInBounds_toArray, List.set_cons_zero, List.set_cons_succ]
          refine z_take 11 (by kernel_rfl) (v := ?v310) (by kernel_rfl) (by kernel_rfl) (by kernel_rfl) (by kernel_rfl) (fun _ _ _ h => h) (by rfl) ?y310 (by assumption) (by assumption) ?r310
          case y310 => (intro w hSw; (try dsimp only at hSw); (obtain ⟨hSa, hSb⟩ := hSw); simp only [List.getElem_cons_succ, List.getElem_cons_zero]; go_simp; (try with_reducible rfl))
          clear hInv; intro hInv
          try simp only [List.getElem_cons_succ, List.getElem_cons_zero, Act.put, List.setIfInBounds_toArray, List.set_cons_zero, List.set_cons_succ]
          refine z_take 12 (by kernel_rfl) (v := ?v311) (by kernel_rfl) (by kernel_rfl) (by kernel_rfl) (by kernel_rfl) (fun _ _ _ h => h) (by rfl) ?y311 (by assumption) (by assumption) ?r311
          case y311 => (intro w hSw; (try dsimp only at hSw); (obtain ⟨hSa, hSb⟩ := hSw); simp only [List.getElem_cons_succ, List.getElem_cons_zero]; go_simp; (try with_reducible rfl))
          clear hInv; intro hInv
          try simp only [List.getElem_cons_succ, List.getElem_cons_zero, Act.put, List.setIfInBounds_toArray, List.set_cons_zero, List.set_cons_succ]
          refine z_last 13 (by kernel_rfl) rfl (by kernel_rfl) (by kernel_rfl) (fun K hK => ?_)
          simp only [List.getElem_cons_succ, List.getElem_cons_zero]
          go_simp
          obtain ⟨p9, c9, hv9, _, _, _, _, _⟩ := own_at_s O7.out
          subst hv9
          have d9 : w7.cell? ⟨b, 0, none⟩ = some (.slice p i cp) := K7.out.cell 0
          have f9 : w7.frozen? ⟨b, 0, none⟩ = false := K7.out.free 0
          (try go_simp)
          refine hK.out _ _ ?_
          clear hK K
          have B8 := Lib.hid (Below.setCell B7.out (p := ⟨b, 0, none⟩) (show w.heap.size ≤ b by rw [HB.out]; exact Nat.le_refl _) (.slice p9 (i + 1) c9))
          go_wp2_with fail
          go_roundw
          case rel => exact ⟨i + 1, _, _, by go_num, by omega, HNW2, R8, B8, HN8⟩
          case measure => simp [intOf]; omega
      · have HV := Lib.hid (BAD.out wr HBW.out (HM.out hx))
        by_cases h1 : x < 1
        · have t1 : decide (x < 1) = true := decide_eq_true h1
          clear hx h1 HM HD HX HAT
          go_wp2_with fail
          try rw [Exit.noGoto_ret]
          go_ret2
          exact HV.out
        · have t1 : decide (x < 1) = false := decide_eq_false h1
          have t2 : decide (64 < x) = true := decide_eq_true (by omega)
          clear hx h1 HM HD HX HAT
          go_wp2_with fail
          try rw [Exit.noGoto_ret]
          go_ret2
          exact HV.out
    · obtain rfl : i = n := by omega
      have hall : xs.take i = xs := List.take_of_length_le (by rw [HLN.out]; exact Nat.le_refl _)
      rw [hall] at HNW R hi64
      have hi64' : i ≤ 64 := by rw [← HLN.out]; exact hi64
      have X1 := Lib.hid (show RLx w wr fl b fp xs 0 v bl fl Ls N from ⟨R.out, refRepR HL.out HBW.out, fun k a d => by have h1 := HNF.out k a; have h2 := refLotOK.low HL.out k d; omega, Touch.of_below HBW.out, fun k hk => by
        rcases List.mem_append.1 hk with h1 | h1
        · exact .inr (HNF.out k h1)
        · exact .inl h1⟩)
      have HYL := Lib.hid (show (Rd.ordered xs Ls N).length = i from by rw [Rd.ordered_len hi64, HLN.out])
      have HOK := Lib.hid (HNW.out.ok.order Ls N)
      obtain ⟨p, cp, rfl, _, hA, l1, l2, _⟩ := R.out.cells
      rw [HLN.out] at l1
      have HSH := Lib.hid (rshd_any xs i p cp bl fl Ls N wr HLN.out hA (fun a e => by
        have hm : a.block ∈ fp := by rw [R.out.fps, e]; simp [Value.ownBlock]
        exact ⟨fun e2 => X1.out.ap _ hm e2, X1.out.rr.low _ hm⟩) l1 l2 hi64' X1.out.lt hN)
      have c0 : wr.cell? ⟨b, 0, none⟩ = some (.slice p i cp) := by have := X1.out.rr.blk.cell 0; rw [HLN.out] at this; exact this
      have HDN := Lib.hid HNW.out
      obtain ⟨ys, hys⟩ : ∃ ys, ys = Rd.ordered xs Ls N := ⟨_, rfl⟩
      rw [← hys] at HYL HOK HSH
      have HYS := Lib.hid hys
      unfold maxLen at l2
      clear hall hi64 R HNW hA hys
      go_wp2_with fail
      refine HSH.out.mono ?_
      rintro e w2 ⟨v2, fl2, rfl, ho, hr, ht, hf, hg⟩
      have X2 := Lib.hid (X1.out.lots hr ht hf)
      have X3 := Lib.hid (X2.out.row ho HYL.out X1.out.rr.low X1.out.touch.size hg)
      have HF3 := Lib.hid (show From fl fl2 w from fun k hk => (hf k hk).imp id fun h => Nat.le_trans HBW.out.size h)
      have HN3 := Lib.hid (show ∀ k ∈ b :: v2.ownBlock.toList, w.heap.size ≤ k from fun k hk => by
        rcases List.mem_cons.1 hk with rfl | hk
        · rw [HB.out]; exact Nat.le_refl _
        · exact Nat.le_trans HBW.out.size (own_base_w ho k (by simpa using hk)).1)
      obtain ⟨p2, k2, hv2, g1, g2, _, _, _⟩ := own_at_s ho
      subst hv2
      unfold maxLen at g2
      have c2 : w2.cell? ⟨b, 0, none⟩ = some (.slice p xs.length cp) := X2.out.rr.blk.cell 0
      have f2 : w2.frozen? ⟨b, 0, none⟩ = false := X2.out.rr.blk.free 0
      clear ho hr ht hf hg HSH X1 X2
      go_wp2_with fail
      go_ret2
      rw [HYS.out] at X3 HOK
      exact .inl ⟨HDN.out, b, _, fl2, rfl, ⟨⟨_, X3.out.rr⟩, HOK.out⟩, X3.out.lt, X3.out.ap, X3.out.touch, HF3.out, HN3.out⟩
end
end Go.Proofs.Ytfoomffbjjcjjaa
