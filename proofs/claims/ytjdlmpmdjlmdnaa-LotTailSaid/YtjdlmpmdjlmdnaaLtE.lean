/-
  The law LotOrders, over what lots are asked to do.
-/
import Derived.Test.YtjdlmpmdjlmdnaaLtC
import Derived.Test.YtjdlmpmdjlmdnaaLtD
import Derived.OwnWalk
namespace Go.Proofs.Ytjdlmpmdjlmdnaa
set_option linter.unusedSimpArgs false
set_option linter.unusedVariables false
open Go.RowKit Sha Lot
/-- Which numbers were seen among the first k. -/
def seenTo (xs : List Int) (n k : Nat) : List Bool := (List.range n).map fun (j : Nat) => decide ((j : Int) ∈ xs.take k)
theorem seenTo_length (xs : List Int) (n k : Nat) : (seenTo xs n k).length = n := by simp [seenTo]
theorem seenTo_zero (xs : List Int) (n : Nat) : seenTo xs n 0 = List.replicate n false := by
  unfold seenTo
  apply List.ext_getElem
  · simp
  · intro i h1 h2; simp
theorem seenTo_get (xs : List Int) (n k j : Nat) (hj : j < n) : (seenTo xs n k)[j]? = some (decide ((j : Int) ∈ xs.take k)) := by
  unfold seenTo; rw [List.getElem?_map, List.getElem?_range hj]; rfl
theorem seenTo_succ (xs : List Int) (n k x : Nat) (hk : k < xs.length) (hx : xs[k] = (x : Int)) (hn : x < n) : (seenTo xs n k).set x true = seenTo xs n (k + 1) := by
  apply List.ext_getElem?
  intro j
  by_cases hj : j < n
  · rw [List.getElem?_set, seenTo_get _ _ _ _ hj, seenTo_get _ _ _ _ hj]
    have e1 : ((j : Int) ∈ xs.take (k + 1)) ↔ ((j : Int) ∈ xs.take k ∨ (j : Int) = (x : Int)) := by
      rw [List.take_succ_eq_append_getElem hk, List.mem_append, List.mem_singleton, hx]
    by_cases hxj : x = j
    · rw [if_pos hxj, if_pos (by rw [seenTo_length]; exact hn), decide_eq_true (e1.2 (.inr (by rw [hxj])))]
    · rw [if_neg hxj]
      congr 1
      rw [decide_eq_decide, e1]
      exact ⟨.inl, fun h => h.resolve_right (by omega)⟩
  · rw [List.getElem?_eq_none (by rw [List.length_set, seenTo_length]; omega), List.getElem?_eq_none (by rw [seenTo_length]; omega)]
theorem seen_not {xs : List Int} {k : Nat} (hk : k < xs.length) (hn : xs.Nodup) : xs[k] ∉ xs.take k := by
  intro h
  obtain ⟨j, hj, he⟩ := List.mem_iff_getElem.1 h
  rw [List.getElem_take] at he
  rw [List.length_take] at hj
  rw [List.nodup_iff_pairwise_ne, List.pairwise_iff_getElem] at hn
  exact hn j k (by omega) hk (by omega) he
abbrev vb (b : Bool) : Value := .bool b
theorem made_bools (n : Nat) : (madeCells (Value.cells (.bool false)) (n * 1)).toList = (List.replicate n false).map vb := by
  apply List.ext_getElem
  · simp [madeCells]
  · intro i h1 h2
    simp [madeCells, Value.cells, Nat.mod_one]
theorem own_all {w : World} {B n g : Nat} {e : TypeId} {xs : List Value} (h : w.ownsRow B e 1 (.slice (some ⟨g, 0, none⟩) n n) n xs) : Blk w g xs e := by
  rcases h.2 with ⟨hv, _⟩ | ⟨g', cap, cur, hv, _, hh, _, _, h3, h4⟩
  · cases hv
  · cases hv
    unfold Blk
    have : xs = cur.toList := by
      rw [← h4, List.take_of_length_le (by simp; omega)]
    rw [this, hh]
theorem bool_info : (Try.prog.info? 4).map (fun i => (i.zero, i.size, i.bytes)) = some (some (.bool false), 1, 1) := by kernel_rfl
/-- A list in memory, while one block that is none of its own is written. -/
theorem GoodN.touch {fp : List Nat} {w w' : World} {xs : List Int} {p : Option Addr} {cap : Nat} (h : GoodN w xs p cap) (ht : Touch fp w w') (hp : ∀ a, p = some a → a.block < w.heap.size ∧ a.block ∉ fp) : GoodN w' xs p cap :=
  ⟨h.nums, h.at_.blocks fun a ha => ht.block _ (hp a ha).1 (hp a ha).2, h.le, h.max, h.nil⟩
set_option maxRecDepth 100000 in
set_option maxHeartbeats 2000000 in
theorem orders_any {R : LotRep} (F : LotsOK R) (l : List Int) (n : Nat) (p : Option Addr) (cap : Nat) (x : Int) (w : World) (hn : l.length = n) (hl : GoodN w l p cap) (hx : -9223372036854775808 ≤ x ∧ x ≤ 9223372036854775807) :
    Calls Try.prog 6 #[.slice p n cap, .int .i64 x] w fun e w' => e = .returned (.bool true) ∧ Below w.heap.size w w' := by
  have GL := Lib.hid hl
  have HN := Lib.hid hn
  have c1 := hl.le
  have c2 := hl.max
  rw [hn] at c1
  have K := Lib.hid F.ok.rep
  obtain ⟨m, hm⟩ : ∃ m : Nat, pickOf x 64 = (m : Int) := ⟨(pickOf x 64).toNat, by have := pickOf_bd x 64 (by omega); omega⟩
  have hm64 : m < 64 := by have := pickOf_bd x 64 (by omega); omega
  have HPK := Lib.hid (fun w => show Calls Try.prog 14 #[.int .i64 x, .int .i64 64] w fun e w' => e = .returned (.int .i64 (m : Int)) ∧ w = w' by rw [← hm]; exact pick_any x 64 w (by omega) (by omega) hx)
  clear hl hn hx hm
  go_enter Try.func6, Try.ntmps6
  go_wp2_with fail
  refine (known_any F w).mono ?_
  rintro e W1 ⟨rfl, hb1⟩
  have B1 := Lib.hid hb1
  clear hb1
  go_wp2_with fail
  refine (HPK.out W1).mono ?_
  rintro e W1' ⟨rfl, rfl⟩
  clear HPK
  go_wp2_with fail
  refine (F.ok.new l n p cap W1 HN.out (GL.out.below B1.out)).mono ?_
  rintro e W2 ⟨hb2, hres⟩
  have B2 := Lib.hid (B1.out.trans (hb2.mono B1.out.size))
  rcases hres with ⟨hz, bx, fx, rfl, hr, hnew⟩ | ⟨hz, rfl⟩
  · have HXR := Lib.hid hr
    have HXN := Lib.hid (show ∀ k ∈ fx, w.heap.size ≤ k from fun k hk => Nat.le_trans B1.out.size (hnew k hk))
    clear hb2 hr hnew
    go_wp2_with fail
    refine (fresh_any F [] 0 none 0 W2 rfl (good_nilN _) (by decide)).mono ?_
    rintro e W3 ⟨hb3, by_, fy, rfl, hry, hny⟩
    have S3 := Lib.hid (Side.made K.out HXR.out HXN.out B2.out hb3 hry hny)
    clear hb3 hry hny HXR HXN B2 B1
    by_cases h100 : 100 < n
    · have B3 := Lib.hid S3.out.below
      go_wp2_with fail
      go_ret
      exact ⟨rfl, B3.out⟩
    · obtain ⟨c, hc⟩ : ∃ c, c = m + 1 := ⟨_, rfl⟩
      have hc1 : (1 : Int) + (m : Int) = (c : Int) := by omega
      have hcl : 1 ≤ c := by omega
      have hch : c ≤ 64 := by omega
      have hsx := shuf_some (L := l) (N := 0) (m := c) ⟨by omega, by omega⟩
      have hsy := shuf_some (L := []) (N := 0) (m := c) ⟨by omega, by omega⟩
      have HOR := Lib.hid (shufTo_order l 0 c (c - 1) (by omega))
      have HPL := Lib.hid (fun j hj => plain_end 0 c (by omega) j hj)
      have HOP := Lib.hid (shufTo_order [] 0 c (c - 1) (by omega))
      have HPX := Lib.hid (F.ok.shuffle bx fx l 0 c W3 S3.out.one (by omega) (by omega))
      have HPY := Lib.hid (fun W (h : R W by_ fy [] 0) => F.ok.shuffle by_ fy [] 0 c W h (by omega) (by omega))
      rw [hsx.1, hsx.2] at HPX
      rw [hsy.1, hsy.2] at HPY
      generalize shufTo l 0 c (c - 1) = xs at *
      generalize shufTo [] 0 c (c - 1) = ys at *
      have HXL := Lib.hid HOR.out.1
      have HYL := Lib.hid HOP.out.1
      have HBX := Lib.hid (show ∀ n ∈ xs, -9223372036854775808 ≤ n ∧ n ≤ 9223372036854775807 from fun n hn => by have := HOR.out.2.1 n hn; omega)
      have HBY := Lib.hid (show ∀ n ∈ ys, -9223372036854775808 ≤ n ∧ n ≤ 9223372036854775807 from fun n hn => by have := HOP.out.2.1 n hn; omega)
      have HC1 := Lib.hid hc1
      clear hc1 hc hsx hsy hm64
      go_wp2_with fail
      rw [HC1.out]
      refine HPX.out.mono ?_
      rintro e W6 ⟨va, fx6, rfl, ho6, hr6, ht6, hf6, hn6⟩
      have S6 := Lib.hid (S3.out.step1 K.out K.out hr6 ht6 hf6)
      have NA6 := Lib.hid (show ∀ g, va.ownBlock = some g → g ∉ fy ∧ g < W6.heap.size from fun g hg => ⟨fun e => by have h1 := (ho6.row.lt g hg).1; have h2 := K.out.low S3.out.two g e; omega, (ho6.row.lt g hg).2⟩)
      have NX6 := Lib.hid hn6
      have OA6 := Lib.hid ho6
      clear ho6 hr6 ht6 hf6 hn6 HPX
      go_wp2_with fail
      refine (HPY.out W6 S6.out.two).mono ?_
      rintro e W7 ⟨vb_, fy7, rfl, ho7, hr7, ht7, hf7, _⟩
      have S7 := Lib.hid (S6.out.step2 K.out K.out hr7 ht7 hf7)
      have oa7 := OA6.out.touch ht7 fun g hg => (NA6.out g hg).1
      obtain ⟨qa, ca, rfl, _, ga⟩ := oa7.good HBX.out
      obtain ⟨qb, cb, rfl, _, gb⟩ := ho7.good HBY.out
      have LA7 := Lib.hid (show ∀ a, qa = some a → a.block < W7.heap.size from fun a ha => (oa7.row.lt a.block (by rw [ha]; rfl)).2)
      have LB7 := Lib.hid (show ∀ a, qb = some a → a.block < W7.heap.size from fun a ha => (ho7.row.lt a.block (by rw [ha]; rfl)).2)
      have NA7 := Lib.hid (show ∀ a, qa = some a → a.block ∉ fx6 from fun a ha => NX6.out a.block (by rw [ha]; rfl))
      have NB7 := Lib.hid (show ∀ a, qb = some a → a.block ∉ fx6 from fun a ha e => by have h1 := (ho7.row.lt a.block (by rw [ha]; rfl)).1; have h2 := K.out.low S6.out.one _ e; omega)
      have GA := Lib.hid ga
      have GB := Lib.hid gb
      clear NX6 ho7 hr7 ht7 hf7 oa7 ga gb HPY OA6 NA6 S6 S3
      rw [HXL.out, HYL.out]
      have hcc : (c : Int) - 1 = ((c - 1 : Nat) : Int) := by omega
      have h00 : 0 + (c - 1) = c - 1 := by omega
      rw [h00] at S7
      go_wp2_with fail
      refine (F.used.used bx fx6 l (c - 1) W7 S7.out.one (by omega)).mono ?_
      rintro e W8 ⟨rfl, fx8, hr8, ht8, hf8⟩
      have S8 := Lib.hid (S7.out.step1 K.out K.out hr8 ht8 hf8)
      have GA8 := Lib.hid (GA.out.touch ht8 fun a ha => ⟨LA7.out a ha, NA7.out a ha⟩)
      have GB8 := Lib.hid (GB.out.touch ht8 fun a ha => ⟨LB7.out a ha, NB7.out a ha⟩)
      have LA8 := Lib.hid (show ∀ a, qa = some a → a.block < W8.heap.size from fun a ha => Nat.lt_of_lt_of_le (LA7.out a ha) ht8.size)
      have LB8 := Lib.hid (show ∀ a, qb = some a → a.block < W8.heap.size from fun a ha => Nat.lt_of_lt_of_le (LB7.out a ha) ht8.size)
      have B8 := Lib.hid S8.out.below
      clear hr8 ht8 hf8 S7 S8 GA GB LA7 LB7 NA7 NB7
      obtain ⟨i0, hi0, hz0, hz1, hz2⟩ := info_parts bool_info
      have HI := Lib.hid hi0
      have HZ0 := Lib.hid hz0
      have HZ1 := Lib.hid hz1
      have HZ2 := Lib.hid hz2
      clear hi0 hz0 hz1 hz2
      go_wp2_with (at_make; refine wpList_make_full _ rfl _ _ 45 rfl W8.heap.size 4 i0 (.bool false) 1 Try.underlying45 HI.out HZ0.out HZ1.out .i64 .i64 c c c rfl rfl rfl rfl (by rw [HZ2.out]; omega) (by unfold maxLen; omega) (Nat.le_refl _) ?_; intro W9 hown9 hg9; have hbk9 := own_all hown9; rw [made_bools] at hbk9; have K9 := Lib.hid hbk9; have hb9 : Below W8.heap.size W8 W9 := ((Below.refl _ _).grown hg9 (Nat.le_refl _) (by simp)); have GA9 := Lib.hid (GA8.out.below hb9); have GB9 := Lib.hid (GB8.out.below hb9); have B9 := Lib.hid (B8.out.trans (hb9.mono B8.out.size)); have LT9 := Lib.hid hb9.size; clear hown9 hg9 hbk9 hb9)
      go_loopw [12] (fun i wr => ∃ k : Nat, i = .int .i64 k ∧ k ≤ c ∧ Hid (Blk wr W8.heap.size ((seenTo xs c k).map vb) 4) ∧ Hid (Touch [W8.heap.size] W9 wr)) (fun i _ => c - (intOf i).toNat)
      case atStart => exact ⟨0, rfl, by omega, by rw [seenTo_zero]; exact K9, Lib.hid (Touch.refl _ _)⟩
      case round =>
        clear K9
        obtain ⟨k, rfl, hk, HK, HT⟩ := hrel
        by_cases hlt : k < c
        · have hkx : k < xs.length := by rw [HXL.out]; exact hlt
          have hky : k < ys.length := by rw [HYL.out]; exact hlt
          have ga := GA9.out.touch HT.out fun a ha => ⟨Nat.lt_of_lt_of_le (LA8.out a ha) LT9.out, by have := LA8.out a ha; simp; omega⟩
          have gb := GB9.out.touch HT.out fun a ha => ⟨Nat.lt_of_lt_of_le (LB8.out a ha) LT9.out, by have := LB8.out a ha; simp; omega⟩
          obtain ⟨ba, oa, rfl, ca1⟩ := ga.at_.addr (by rw [List.length_map]; omega)
          obtain ⟨bb, ob, rfl, cb1⟩ := gb.at_.addr (by rw [List.length_map]; omega)
          obtain ⟨y, hy⟩ : ∃ y : Nat, xs[k] = (y : Int) := ⟨(xs[k]).toNat, by have := HOR.out.2.1 xs[k] (List.getElem_mem hkx); omega⟩
          have hyc : y < c := by have := HOR.out.2.1 xs[k] (List.getElem_mem hkx); omega
          have a1 : wr.cell? ⟨ba, oa + k, none⟩ = some (v64 y) := by rw [← hy]; exact ca1 k _ (by rw [List.getElem?_map, List.getElem?_eq_getElem hkx]; rfl)
          have b1 : wr.cell? ⟨bb, ob + k, none⟩ = some (v64 (((k + 1) % c : Nat) : Int)) := cb1 k _ (by rw [List.getElem?_map, HPL.out k hlt]; rfl)
          have s1 : wr.cell? ⟨W8.heap.size, y, none⟩ = some (.bool false) := by
            rw [HK.out.cell, List.getElem?_map, seenTo_get _ _ _ _ hyc, decide_eq_false (by rw [← hy]; exact seen_not hkx HOR.out.2.2)]; rfl
          have sf : wr.frozen? ⟨W8.heap.size, y, none⟩ = false := HK.out.free y
          have HS := Lib.hid (seenTo_succ xs c k y hkx hy hyc)
          have l1 := GA9.out.le
          have l2 := GB9.out.le
          have l3 := GA9.out.max
          have l4 := GB9.out.max
          rw [HXL.out] at l1
          rw [HYL.out] at l2
          have w1 : IntKind.i64.wrap ((k : Int) + 1) = (k : Int) + 1 := IntWalk.i64_in _ (by omega)
          have t1 : ((k : Int) + 1).tmod (c : Int) = (((k + 1) % c : Nat) : Int) := by rw [Int.tmod_eq_emod_of_nonneg (by omega)]; push_cast; rfl
          have d1 : decide ((y : Int) < 0) = false := decide_eq_false (by omega)
          have d2 : decide ((c : Int) ≤ (y : Int)) = false := decide_eq_false (by omega)
          have i1 : (0 : Int) ≤ (k : Int) := by omega
          have i2 : (k : Int) < (c : Int) := by omega
          have i3 : (y : Int) < (c : Int) := by omega
          have i4 : (0 : Int) ≤ (y : Int) := by omega
          have hzl : (k + 1) % c < c := Nat.mod_lt _ (by omega)
          generalize (k + 1) % c = z at *
          have n1 : ¬ ((c : Int) = 0) := by omega
          have n3 : ((c : Int) == 0) = false := by rw [beq_eq_false_iff_ne]; omega
          have w2 : IntKind.i64.wrap (z : Int) = (z : Int) := IntWalk.i64_in _ (by omega)
          have n2 : ¬ (c = 0) := by omega
          clear ga gb ca1 cb1 hy hkx hky
          go_wp2_with fail
          go_quiet (fail)
          clear w1 t1 w2
          go_wp2_with fail
          refine ⟨⟨k + 1, by go_num, by omega, Lib.hid ?_, Lib.hid ((HT.out.drewN nq).setIn (by simp) _)⟩, by simp [intOf]; omega⟩
          have h1 := (HK.out.drewN nq).set y (vb true)
          rw [← List.map_set, HS.out] at h1
          exact h1
        · obtain rfl : k = c := by omega
          have BF := Lib.hid (show Below w.heap.size w wr from B9.out.trans (HT.out.below (by intro i hi; simp at hi; have := B8.out.size; omega) B9.out.size))
          go_wp2_with fail
          go_ret
          exact ⟨rfl, BF.out⟩
  · have HZ := Lib.hid hz
    obtain ⟨er, her⟩ : ∃ x, x = newErr l := ⟨_, rfl⟩
    rw [← her]
    have hne : (er == 0) = false := by rw [beq_eq_false_iff_ne, her]; exact hz
    have hne2 : (er != 0) = true := by rw [bne, hne]; rfl
    clear her hz hb2
    go_wp2_with fail
    refine (fresh_any F [] 0 none 0 W2 rfl (good_nilN _) (by decide)).mono ?_
    rintro e W3 ⟨hb3, by_, fy, rfl, hry, hny⟩
    have B3 := Lib.hid (B2.out.trans (hb3.mono B2.out.size))
    clear hb3 hry hny
    by_cases h100 : 100 < n
    · go_wp2_with fail
      go_ret
      exact ⟨rfl, B3.out⟩
    · go_wp2_with fail
      go_ret
      exact ⟨rfl, B3.out⟩
end Go.Proofs.Ytjdlmpmdjlmdnaa
